/-
  Walks over the laws of package crc: Full.
-/
import Derived.Test.YtedgcgdgdjilhaaCrcLaws3
namespace Go.Proofs.Ytedgcgdgdjilhaa
set_option linter.unusedVariables false
set_option linter.unusedSimpArgs false
open Go.RowKit

theorem vL_three {n : Nat} (h1 : 16384 ≤ n) (h2 : n < 2097152) : vL n = [UInt8.ofNat (n % 128 + 128), UInt8.ofNat (n / 128 % 128 + 128), UInt8.ofNat (n / 128 / 128)] := by
  rw [vL_more (by omega), vL_more (by omega), vL_one (by omega)]
theorem open_big {l : List UInt8} {n : Nat} (h : l.length = n) (h1 : 65536 < n) (h2 : n < 2097152) : openS (vL n ++ l) = ([], 0, 8) := by
  unfold openS
  rw [take_put n l (by omega)]
  simp only [if_true]
  rw [if_pos h1]

set_option maxRecDepth 200000 in
set_option maxHeartbeats 4000000 in
theorem claim_any (n : Nat) (w : World) (h1 : 16384 ≤ n) (h2 : n < 2097152) :
    Calls Try.prog 20 #[.int .i64 (n : Int)] w fun e w' => e = .returned (.slice (some ⟨w.heap.size, 0, none⟩) 3 3) ∧ w' = w.alloc (.cells (bytV (vL n)).toArray 5) := by
  have b1 : (UInt8.ofNat (n % 128 + 128)).toNat = n % 128 + 128 := byte_of8 (by omega)
  have b2 : (UInt8.ofNat (n / 128 % 128 + 128)).toNat = n / 128 % 128 + 128 := byte_of8 (by omega)
  have b3 : (UInt8.ofNat (n / 128 / 128)).toNat = n / 128 / 128 := byte_of8 (by omega)
  have E := Lib.hid (show (bytV (vL n)).toArray = #[.int .u8 ((n : Int) % 128 + 128), .int .u8 ((n : Int) / 128 % 128 + 128), .int .u8 ((n : Int) / 128 / 128)] by
    rw [vL_three h1 h2]
    simp only [bytV, List.map_cons, List.map_nil, b1, b2, b3]
    simp)
  clear b1 b2 b3
  go_enter Try.func20, Try.ntmps20
  go_wp2
  go_ret
  exact ⟨rfl, by rw [E.out]⟩

theorem claim_own (n : Nat) {w w' : World} {base : Nat} (h1 : 16384 ≤ n) (h2 : n < 2097152) (hb : base ≤ w.heap.size) (h : w' = w.alloc (.cells (bytV (vL n)).toArray 5)) : w'.ownsRow base 5 1 (.slice (some ⟨w.heap.size, 0, none⟩) 3 3) 3 (bytV (vL n)) := by
  subst h
  exact own_literal (bytV (vL n)) (by rw [bytV_length, vL_three h1 h2]; rfl) hb (by decide) rfl

section
variable (K : CrcCon)
include K
set_option maxRecDepth 200000 in
set_option maxHeartbeats 8000000 in
theorem crcFull_main (n : Nat) (c : Nat) (more : Int) (w : World) (hm : 65536 + more = (n : Int)) (h1 : 65436 ≤ n) (h2 : n ≤ 65636) (hc : c < 256) :
    Calls Try.prog 6 #[.int .i64 more, .int .u8 (c : Int)] w fun e w' => e = .returned (.bool true) ∧ Below w.heap.size w w' := by
  obtain ⟨i0, hi, hz0, hz1, hz2⟩ := info_parts info_byte
  have hm1 : -100 ≤ more := by omega
  have hm2 : more ≤ 100 := by omega
  go_enter Try.func6, Try.ntmps6
  go_wp2_with (refine wpList_make_full _ rfl (.tmp 23) (.tmp 23) 22 rfl w.heap.size 5 i0 (.int .u8 0) 1 Try.underlying22 hi hz0 hz1 .i64 .i64 (n : Int) (n : Int) n rfl rfl rfl rfl (by rw [hz2]; omega) (by unfold maxLen; omega) (Nat.le_refl _) ?_; intro w1 o1 g1)
  have hb1 : Below w.heap.size w w1 := (Below.refl _ w).grown g1 (Nat.le_refl _) (fun g h => by cases h)
  rw [made_bytes] at o1
  obtain ⟨g, hg⟩ : ∃ g, w.heap.size = g := ⟨_, rfl⟩
  have HG := Lib.hid hg
  rw [hg] at o1 ⊢
  have H65 : 65536 + more = (n : Int) := hm
  clear hm g1 hi hz0 hz1 hz2 hg
  go_loopw [6] (fun i wr => ∃ (k : Nat) (l : List UInt8), i = .int .i64 k ∧ k ≤ 65800 ∧ Hid (l.length = n) ∧ wr.ownsRow g 5 1 (.slice (some ⟨g, 0, none⟩) n n) n (bytV l) ∧ Below w.heap.size w wr) (fun i _ => 65800 - (intOf i).toNat)
  case atStart => exact ⟨0, _, rfl, by omega, List.length_replicate, o1, hb1⟩
  case round =>
    obtain ⟨k, l, rfl, hk, Hl, own, hb0⟩ := hrel
    have hsz := hb0.size
    clear hb1 o1
    by_cases hlt : k < n
    · obtain ⟨g', cap', hv, -, hgs, -, hcells⟩ := own_shape own (by omega)
      obtain ⟨e1, -, rfl⟩ := Value.slice.inj hv
      obtain rfl : g = g' := by simpa using e1
      obtain ⟨hcell, hfrz⟩ := hcells k hlt
      have hkl : k < l.length := by rw [Hl.out]; exact hlt
      rw [bytV_at hkl] at hcell
      have o2 := own_store own k (.int .u8 (c : Int))
      rw [bytV_set _ _ _ hc] at o2
      have Hl2 := Lib.hid (show (l.set k (UInt8.ofNat c)).length = n by rw [List.length_set]; exact Hl.out)
      have hgw : w.heap.size ≤ g := Nat.le_of_eq HG.out
      clear hcells hv e1 hkl
      go_wp2
      go_roundw
      case rel => exact ⟨k + 97, _, by go_num, by omega, Hl2.out, o2, hb0.setCell hgw _⟩
      case measure => simp [intOf]; omega
    · obtain ⟨p, cp, hv, hlen, hcn, hrd, -⟩ := own_slice own
      obtain ⟨rfl, -, rfl⟩ := Value.slice.inj hv
      have HRD := Lib.hid hrd
      clear hv hlen hrd own
      by_cases hmo : 0 < more
      · have hn2 : 65536 < n := by omega
        have CF := Lib.hid (K.frame_is (f := []) (e := 8) (m := 0) (show frameS l = ([], 8) by unfold frameS; rw [Hl.out, if_pos hn2]) rfl (some ⟨g, 0, none⟩) n n wr Hl.out (by omega) (Nat.le_refl _) HRD.out)
        go_wp2_with fail
        ((with_reducible refine CF.out.mono ?_))
        rintro e w2 ⟨b2, c2, rfl, hc2, hr2, hb2⟩
        go_wp2_with fail
        ((with_reducible refine (claim_any n w2 (by omega) (by omega)).mono ?_))
        rintro e w3 ⟨rfl, hw3⟩
        have o3 := claim_own n (base := w2.heap.size) (by omega) (by omega) (Nat.le_refl _) hw3
        have hb3 : Below w2.heap.size w2 w3 := by rw [hw3]; exact (Below.refl _ w2).alloc (Nat.le_refl _) _
        have hs3 := hb3.size
        clear hw3
        go_wp2_with (at_builtin; refine wpList_append_reads rfl (.tmp 45) (.tmp 46) Try.underlying22 info_byte rfl (by omega) rfl w2.heap.size (.slice (some ⟨w2.heap.size, 0, none⟩) 3 3) 3 (bytV (vL n)) rfl o3 (some ⟨g, 0, none⟩) n n (bytV l) rfl (by rw [bytV_length]; exact Hl.out) ((HRD.out.kept hb2).kept hb3) (bytV_one l) (by omega) (by omega) ?_; intro v4 w4 o4 g4 e4; have hb4 : Below w2.heap.size w2 w4 := below_own hb3 g4 (own_base o3); rw [← bytV_append] at o4; obtain ⟨b4, c4, rfl, h4, hc4, hr4, -⟩ := own_slice o4)
        have hb2' := hb2.trans (hb4.mono hb2.size)
        clear o3 o4 g4 e4 hb3 hs3 hr2 hb4
        refine (K.open_is (m := 0) (open_big Hl.out hn2 (by omega)) rfl b4 (3 + n) c4 w4 (by rw [List.length_append, Hl.out, vL_three (by omega) (by omega)]; rfl) (by omega) hc4 hr4).mono ?_
        rintro e w5 ⟨b5, c5, rfl, hc5, hr5, hb5⟩
        have hb5' : Below w.heap.size w w5 := hb0.trans ((hb2'.trans (hb5.mono hb2'.size)).mono hb0.size)
        clear hb2' hb5 hb2
        go_wp2_with fail
        refine (crcAwake_any K _).mono ?_
        rintro e w6 ⟨rfl, hb6⟩
        go_wp2
        go_ret
        exact ⟨rfl, by (repeat' first | with_reducible assumption | exact Below.refl _ _ | with_reducible refine Below.drew ?_ | with_reducible refine Below.drewN ?_ _ | with_reducible refine Below.alloc' ?_ _ | with_reducible refine Below.setCell ?_ (by first | exact Nat.le_refl _ | omega | (simp; done) | (simp; omega)) _ | with_reducible refine Below.after ?_ ‹_›)⟩
      · have hn2 : n ≤ 65536 := by omega
        obtain ⟨F, hF⟩ : ∃ F, frameL l = F := ⟨_, rfl⟩
        have HF := Lib.hid (show frameS l = (F, 0) by rw [frameS_ok (by rw [Hl.out]; exact hn2), hF])
        have Hf := Lib.hid (show F.length = n + 7 by rw [← hF, frameL_length, Hl.out, vL_three (by omega) (by omega)]; simp; omega)
        have HO := Lib.hid (show openS F = (l, n + 7, 0) by
          have := open_frame l [] (by rw [Hl.out]; exact hn2)
          rw [List.append_nil, hF, Hf.out] at this
          exact this)
        obtain ⟨S, hS⟩ : ∃ S : ByteArray, (⟨l.toArray⟩ : ByteArray) = S := ⟨_, rfl⟩
        have HS := Lib.hid hS
        have hts : (S.toList == S.toList) = true := by simp
        have hq1 : (((n + 7 : Nat) : Int) == ((n + 7 : Nat) : Int)) = true := by simp
        have hq2 : (((n + 7 : Nat) : Int) == 3 + (n : Int) + 4) = true := by simp; omega
        clear hF hS
        go_wp2_with fail
        refine (K.frame_is HF.out Hf.out (some ⟨g, 0, none⟩) n n wr Hl.out (by omega) (Nat.le_refl _) HRD.out).mono ?_
        rintro e w2 ⟨b2, c2, rfl, hc2, hr2, hb2⟩
        go_wp2_with fail
        refine (K.open_is HO.out Hl.out b2 (n + 7) c2 w2 Hf.out (by omega) hc2 hr2).mono ?_
        rintro e w3 ⟨b3, c3, rfl, hc3, hr3, hb3⟩
        go_wp2_with fail
        refine (claim_any n w3 (by omega) (by omega)).mono ?_
        rintro e w4 ⟨rfl, hw4⟩
        have hb4 : Below w3.heap.size w3 w4 := by rw [hw4]; exact (Below.refl _ w3).alloc (Nat.le_refl _) _
        have hv1 := str_bytes7 (c := c3) Hl.out (hr3.kept hb4)
        have hv2 := str_bytes7 (c := n) Hl.out (((HRD.out.kept hb2).kept hb3).kept hb4)
        rw [HS.out] at hv1 hv2
        clear hw4 hr2 hr3
        go_wp2_with fail
        refine (crcAwake_any K _).mono ?_
        rintro e w6 ⟨rfl, hb6⟩
        go_wp2
        go_ret
        exact ⟨rfl, by (repeat' first | with_reducible assumption | exact Below.refl _ _ | with_reducible refine Below.drew ?_ | with_reducible refine Below.drewN ?_ _ | with_reducible refine Below.alloc' ?_ _ | with_reducible refine Below.setCell ?_ (by first | exact Nat.le_refl _ | omega | (simp; done) | (simp; omega)) _ | with_reducible refine Below.after ?_ ‹_›)⟩
theorem crcFull_of (more : Int) (c : Nat) (w : World) (h0 : -9223372036854775808 ≤ more) (h1 : more ≤ 9223372036854775807) (hc : c < 256) :
    Calls Try.prog 6 #[.int .i64 more, .int .u8 (c : Int)] w fun e w' => e = .returned (.bool true) ∧ Below w.heap.size w w' := by
  by_cases h2 : more < -100
  · go_enter Try.func6, Try.ntmps6
    go_wp2_with fail
    refine (crcAwake_any K _).mono ?_
    rintro e w1 ⟨rfl, hb1⟩
    go_wp2
    go_ret
    exact ⟨rfl, hb1⟩
  · by_cases h3 : 100 < more
    · go_enter Try.func6, Try.ntmps6
      go_wp2_with fail
      refine (crcAwake_any K _).mono ?_
      rintro e w1 ⟨rfl, hb1⟩
      go_wp2
      go_ret
      exact ⟨rfl, hb1⟩
    · exact crcFull_main K (65536 + more).toNat c more w (by omega) (by omega) (by omega) hc
end
end Go.Proofs.Ytedgcgdgdjilhaa
