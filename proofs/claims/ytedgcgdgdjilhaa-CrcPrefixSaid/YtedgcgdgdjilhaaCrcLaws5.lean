/-
  Walks over the laws of package crc: Prefix.
-/
import Derived.Test.YtedgcgdgdjilhaaCrcLaws4
namespace Go.Proofs.Ytedgcgdgdjilhaa
set_option linter.unusedVariables false
set_option linter.unusedSimpArgs false
open Go.RowKit

theorem info_int7 : (Try.prog.info? 3).map (fun i => (i.zero, i.size, i.bytes)) = some (some (.int .i64 0), 1, 8) := by kernel_rfl
theorem elem_rows7 : Try.prog.elem 36 = 22 := by kernel_rfl
theorem und_rows7 : Try.prog.underlying 36 = some (.slice (Try.prog.elem 36)) := by rw [elem_rows7]; exact Try.underlying36
theorem size_rows7 (W : World) : (sizeOf (Try.prog.elem 36)).run Try.prog W = .ok 1 W := by rw [elem_rows7]; exact Try.sizeOf22 W
/-- where the first k frames end -/
def endS (ls : List (List UInt8)) (j : Nat) : Nat := (framesL (ls.take j)).length
def endsS (ls : List (List UInt8)) (k : Nat) : List Int := (List.range k).map fun j => (endS ls (j + 1) : Int)
theorem endsS_length (ls : List (List UInt8)) (k : Nat) : (endsS ls k).length = k := by simp [endsS]
theorem endsS_snoc (ls : List (List UInt8)) (k : Nat) : endsS ls (k + 1) = endsS ls k ++ [(endS ls (k + 1) : Int)] := by simp [endsS, List.range_succ]
theorem endsS_at {ls : List (List UInt8)} {k j : Nat} (h : j < k) : (endsS ls k)[j]?.getD 0 = (endS ls (j + 1) : Int) := by simp [endsS, h]
theorem frames_take {ls : List (List UInt8)} {k : Nat} (h : k < ls.length) : framesL (ls.take (k + 1)) = framesL (ls.take k) ++ frameL (ls[k]?.getD []) := by
  rw [List.take_add_one, List.getElem?_eq_getElem h, framesL_append]
  simp [framesL]
theorem frame_size {l : List UInt8} (h : l.length ≤ 500) : 5 ≤ (frameL l).length ∧ (frameL l).length ≤ 520 := by
  have h4 := frameL_length l
  have h5 := vL_le10 (v := l.length) (by omega)
  omega
theorem endS_mono {ls : List (List UInt8)} {j : Nat} (h : j < ls.length) : endS ls j ≤ endS ls (j + 1) := by
  unfold endS
  rw [frames_take h, List.length_append]
  omega

section
variable (K : CrcCon)
include K
set_option maxRecDepth 20000 in
set_option maxHeartbeats 8000000 in
theorem crcPrefix_main (a : Option Addr) (ls : List (List UInt8)) (n cap : Nat) (cut : Nat) (w : World) (hn : ls.length = n) (hc : n ≤ cap) (hb : n ≤ 20) (hl : Bytess w a ls) (hlen : ∀ l ∈ ls, l.length ≤ maxLen) (hcut : cut ≤ 9223372036854775807) :
    Calls Try.prog 11 #[.slice a n cap, .int .i64 (cut : Int)] w fun e w' => e = .returned (.bool true) ∧ Below w.heap.size w w' := by
  have Hn := Lib.hid hn
  have HL := Lib.hid hl
  have Hlen := Lib.hid hlen
  clear hn hl hlen
  go_enter Try.func11, Try.ntmps11
  go_wp2
  go_loopw [5, 6, 7, 8, 9] (fun vb ve i _ _ wr => ∃ (k m : Nat), k ≤ n ∧ i = .int .i64 k ∧ Hid (endS ls k = m) ∧ m ≤ 520 * k ∧ wr.ownsRow w.heap.size 5 1 vb m (bytV (framesL (ls.take k))) ∧ wr.ownsRow w.heap.size 3 1 ve k (intV (endsS ls k)) ∧ Apart vb ve ∧ Hid (∀ c ∈ ls.take k, c.length ≤ 500) ∧ Below w.heap.size w wr) (fun _ _ i _ _ _ => n - (intOf i).toNat)
  case atStart => exact ⟨0, 0, Nat.zero_le _, rfl, rfl, Nat.zero_le _, World.ownsRow_nil _ _ _ _, World.ownsRow_nil _ _ _ _, Apart.nil _, (fun c hc => by cases hc), Below.refl _ _⟩
  case round =>
    obtain ⟨k, m, hk, rfl, Hm, hmk, ob, oe, hap, Hs, hb0⟩ := hrel
    have hsz := hb0.size
    by_cases hlt : k < n
    · have hkl : k < ls.length := by rw [Hn.out]; exact hlt
      obtain ⟨g, off, x, u, c, rfl, hcell, hxn, hxc, hx⟩ := (HL.out.kept hb0).at_ (k := k) hkl
      have hxl := Hlen.out (ls[k]?.getD []) (by rw [List.getElem?_eq_getElem hkl]; exact List.getElem_mem hkl)
      have Ht := Lib.hid (frames_take hkl)
      have Hs1 := Lib.hid (show ∀ z, ls[k]?.getD [] = z → z.length ≤ 500 → ∀ c ∈ ls.take (k + 1), c.length ≤ 500 from fun z hz hzl c hc => by
        rw [List.take_add_one, List.getElem?_eq_getElem hkl] at hc
        rcases List.mem_append.1 hc with h | h
        · exact Hs.out c h
        · rw [List.getElem?_eq_getElem hkl] at hz
          have : c = ls[k] := by simpa using h
          have h3 : ls[k] = z := hz
          rw [this, h3]
          exact hzl)
      obtain ⟨z, hz⟩ : ∃ z, ls[k]?.getD [] = z := ⟨_, rfl⟩
      rw [hz] at hxn hx hxl Ht
      have Hs2 := Lib.hid (Hs1.out z hz)
      have HXN := Lib.hid hxn
      have HX := Lib.hid hx
      have hub : u ≤ 9223372036854775807 := by unfold maxLen at hxl; omega
      clear hz hkl hx hxl Hs1
      by_cases h5 : 500 < u
      · clear hxn
        go_wp2_with fail
        refine (crcAwake_any K _).mono ?_
        rintro e w1 ⟨rfl, hb1⟩
        go_wp2
        go_ret
        exact ⟨rfl, by (repeat' first | with_reducible assumption | exact Below.refl _ _ | with_reducible refine Below.drew ?_ | with_reducible refine Below.drewN ?_ _ | with_reducible refine Below.alloc' ?_ _ | with_reducible refine Below.setCell ?_ (by first | exact Nat.le_refl _ | omega | (simp; done) | (simp; omega)) _ | with_reducible refine Below.after ?_ ‹_›)⟩
      · have hzl : z.length ≤ 500 := by omega
        obtain ⟨F, hF⟩ : ∃ F, frameL z = F := ⟨_, rfl⟩
        obtain ⟨f, hf⟩ : ∃ f, F.length = f := ⟨_, rfl⟩
        have HF := Lib.hid (show frameS z = (F, 0) by rw [frameS_ok (by omega), hF])
        have Hf := Lib.hid hf
        have hfs := frame_size hzl
        rw [hF, hf] at hfs
        rw [hF] at Ht
        have CF := Lib.hid (K.frame_is HF.out Hf.out x u c wr HXN.out (by omega) hxc HX.out)
        obtain ⟨s, hs⟩ : ∃ s, m + f = s := ⟨_, rfl⟩
        have HS := Lib.hid hs
        have hs520 : s ≤ 520 * (k + 1) := by omega
        have HE := Lib.hid (show endS ls (k + 1) = s by rw [← hs]; unfold endS; rw [Ht.out, List.length_append, Hf.out]; have := Hm.out; unfold endS at this; omega)
        have Hs3 := Lib.hid (Hs2.out hzl)
        have HEs := Lib.hid (show endsS ls k ++ [(s : Int)] = endsS ls (k + 1) by rw [endsS_snoc, HE.out])
        clear hxn hF hf hzl Hs2 hs
        go_wp2_with fail
        ((with_reducible refine CF.out.mono ?_))
        rintro e w1 ⟨b1, c1, rfl, hc1, hr1, hb1⟩
        have HR1 := Lib.hid hr1
        have ob1 := own_kept ob hb1
        have oe1 := own_kept oe hb1
        have hb1' := hb0.trans (hb1.mono hb0.size)
        have hs1 := hb1'.size
        clear hr1 ob oe CF
        go_wp2_with (first
          | (at_builtin; refine wpList_append_reads rfl (.tmp 50) (.tmp 51) Try.underlying22 info_byte rfl (by omega) rfl w.heap.size u5 m (bytV (framesL (ls.take k))) rfl ob1 b1 f c1 (bytV F) rfl (by rw [bytV_length]; exact Hf.out) HR1.out (bytV_one F) (by omega) hs1 ?_; intro v2 w2 o2 g2 e2; have hb2 : Below w.heap.size w w2 := below_own hb1' g2 (own_base ob1); have oe2 := own_grown oe1 g2 hap.symm; have hap2 := hap.grown oe1 e2; have hs2 := hb2.size; rw [← bytV_append, ← Ht.out, HS.out] at o2; obtain ⟨b2, c2, rfl, h2, hc2, hr2, -⟩ := own_slice o2)
          | (at_builtin; refine wpList_append_reads rfl (.tmp 53) (.tmp 56) Try.underlying42 info_int7 rfl (by omega) rfl w.heap.size u6 k (intV (endsS ls k)) rfl (oe2.alloc _) (some ⟨w2.heap.size, 0, none⟩) 1 1 (intV [(s : Int)]) rfl rfl (reads_lit w2 (intV [(s : Int)]) _ rfl) (intV_one _) (by omega) (by simp; omega) ?_; intro v3 w3 o3 g3 e3))
        have hb3 : Below w.heap.size w w3 := below_grown hb2 g3 (own_base oe2)
        have ob3 := own_grown (o2.alloc _) g3 hap2
        rw [← intV_append, HEs.out] at o3
        have hap3 := (hap2.symm.grown (o2.alloc _) e3).symm
        clear hr2 h2 hc2 g2 g3 e2 e3 oe1 oe2 ob1 hb1 hb1' hb2
        go_roundw
        case rel => exact ⟨k + 1, s, by omega, by go_num, HE.out, hs520, ob3, o3, hap3, Hs3.out, hb3⟩
        case measure => simp [intOf]; omega
    · obtain rfl : k = n := by omega
      have hls : ls.take k = ls := List.take_of_length_le (by rw [Hn.out]; exact Nat.le_refl _)
      rw [hls] at ob
      have Hall := Lib.hid (show ∀ c ∈ ls, c.length ≤ 65536 from fun c hc => by
        have := Hs.out c (by rw [hls]; exact hc)
        omega)
      have HmE := Lib.hid (show (framesL ls).length = m by have := Hm.out; unfold endS at this; rwa [hls] at this)
      obtain ⟨b1, c1, rfl, -, hc1, hr1, -⟩ := own_slice ob
      obtain ⟨b2, c2, rfl, -, hc2, hr2, -⟩ := own_slice oe
      have HR1 := Lib.hid hr1
      have HR2 := Lib.hid hr2
      clear hr1 hr2 ob oe hap hls Hm Hs
      by_cases hcm : m < cut
      · go_wp2_with fail
        refine (crcAwake_any K _).mono ?_
        rintro e w1 ⟨rfl, hb1⟩
        go_wp2
        go_ret
        exact ⟨rfl, by (repeat' first | with_reducible assumption | exact Below.refl _ _ | with_reducible refine Below.drew ?_ | with_reducible refine Below.drewN ?_ _ | with_reducible refine Below.alloc' ?_ _ | with_reducible refine Below.setCell ?_ (by first | exact Nat.le_refl _ | omega | (simp; done) | (simp; omega)) _ | with_reducible refine Below.after ?_ ‹_›)⟩
      · have hcm2 : cut ≤ m := by omega
        have Hb0 := Lib.hid hb0
        have HLr := Lib.hid (HL.out.kept hb0)
        clear hb0
        go_wp2
        go_loop [10, 11] (fun x y => ∃ (j q : Nat), j ≤ k ∧ x = .int .i64 j ∧ y = .int .i64 q ∧ Hid (endS ls j = q) ∧ q ≤ cut) (fun x _ => k - (intOf x).toNat)
        case atStart => exact ⟨0, 0, Nat.zero_le _, rfl, rfl, rfl, Nat.zero_le _⟩
        case round =>
          obtain ⟨j, q, hj, rfl, rfl, Hq, hqc⟩ := hrel
          by_cases hlt2 : j < k
          · obtain ⟨g, off, rfl, hcell⟩ := HR2.out.int (k := j) (by rw [endsS_length]; exact hlt2)
            rw [endsS_at hlt2] at hcell
            obtain ⟨x, hx⟩ : ∃ x, endS ls (j + 1) = x := ⟨_, rfl⟩
            rw [hx] at hcell
            have HX := Lib.hid hx
            have hxm : x ≤ 20000 := by
              rw [← hx]
              unfold endS
              have h1 : ∀ i, (framesL (ls.take i)).length ≤ (framesL ls).length := fun i => by
                have : framesL ls = framesL (ls.take i) ++ framesL (ls.drop i) := by rw [← framesL_append, List.take_append_drop]
                rw [this, List.length_append]
                omega
              have := h1 (j + 1)
              have := HmE.out
              omega
            clear hx
            by_cases hxc : x ≤ cut
            · go_wp2
              go_round
              case rel => exact ⟨j + 1, x, by omega, by go_num, rfl, HX.out, hxc⟩
              case measure => simp [intOf]; omega
            · have HA := Lib.hid (show allS ((framesL ls).take cut) = (ls.take j, q) by
                have h3 := Hq.out
                have h4 := HX.out
                unfold endS at h3 h4
                rw [all_cut ls j cut Hall.out (by rw [Hn.out]; exact hj) (by omega) (fun _ => by omega), h3])
              obtain ⟨p1, hp1, hr1⟩ := part_upto und_bytes7 size_bytes7 HR1.out (n := m) (j := cut) (cap := c1) (J := (cut : Int)) rfl (by rw [bytV_length, HmE.out]; exact hcm2) (by omega)
              rw [bytV_take] at hr1
              obtain ⟨p2, hp2, hr2⟩ := rowss_upto und_rows7 size_rows7 HLr.out (n := k) (j := j) (cap := cap) (J := (j : Int)) rfl (by rw [Hn.out]; exact hj) (by omega)
              have Hj := Lib.hid (show (ls.take j).length = j by rw [List.length_take, Hn.out]; omega)
              have CA := Lib.hid (K.all_is HA.out Hj.out p1 cut c1 wr (by rw [List.length_take, HmE.out]; omega) (by omega) (by omega) hr1)
              have HR3 := Lib.hid hr2
              have hqq : ((q : Int) == (q : Int)) = true := by simp
              clear hr1 hr2
              go_wp2_with fail
              ((with_reducible refine CA.out.mono ?_))
              rintro e w1 ⟨b3, c3, rfl, hc3, hr3, hb1⟩
              go_wp2_with fail
              refine (rSame7_is (l := ls.take j) (m := ls.take j) (r := true) (by simp) b3 p2 j c3 j cap w1 Hj.out Hj.out (by omega) (by omega) hr3 (HR3.out.kept hb1)).mono ?_
              rintro e w2 ⟨rfl, hb2⟩
              go_wp2_with fail
              refine (crcAwake_any K _).mono ?_
              rintro e w3 ⟨rfl, hb3⟩
              go_wp2
              go_ret
              exact ⟨rfl, Hb0.out.trans ((((hb1.trans (hb2.mono hb1.size)).trans (hb3.mono (Nat.le_trans hb1.size hb2.size)))).mono Hb0.out.size)⟩
          · have HA := Lib.hid (show allS ((framesL ls).take cut) = (ls.take j, q) by
              have h3 := Hq.out
              unfold endS at h3
              rw [all_cut ls j cut Hall.out (by rw [Hn.out]; exact hj) (by omega) (fun h => by rw [Hn.out] at h; omega), h3])
            obtain ⟨p1, hp1, hr1⟩ := part_upto und_bytes7 size_bytes7 HR1.out (n := m) (j := cut) (cap := c1) (J := (cut : Int)) rfl (by rw [bytV_length, HmE.out]; exact hcm2) (by omega)
            rw [bytV_take] at hr1
            obtain ⟨p2, hp2, hr2⟩ := rowss_upto und_rows7 size_rows7 HLr.out (n := k) (j := j) (cap := cap) (J := (j : Int)) rfl (by rw [Hn.out]; exact hj) (by omega)
            have Hj := Lib.hid (show (ls.take j).length = j by rw [List.length_take, Hn.out]; omega)
            have CA := Lib.hid (K.all_is HA.out Hj.out p1 cut c1 wr (by rw [List.length_take, HmE.out]; omega) (by omega) (by omega) hr1)
            have HR3 := Lib.hid hr2
            have hqq : ((q : Int) == (q : Int)) = true := by simp
            clear hr1 hr2
            go_wp2_with fail
            ((with_reducible refine CA.out.mono ?_))
            rintro e w1 ⟨b3, c3, rfl, hc3, hr3, hb1⟩
            go_wp2_with fail
            refine (rSame7_is (l := ls.take j) (m := ls.take j) (r := true) (by simp) b3 p2 j c3 j cap w1 Hj.out Hj.out (by omega) (by omega) hr3 (HR3.out.kept hb1)).mono ?_
            rintro e w2 ⟨rfl, hb2⟩
            go_wp2_with fail
            refine (crcAwake_any K _).mono ?_
            rintro e w3 ⟨rfl, hb3⟩
            go_wp2
            go_ret
            exact ⟨rfl, Hb0.out.trans ((((hb1.trans (hb2.mono hb1.size)).trans (hb3.mono (Nat.le_trans hb1.size hb2.size)))).mono Hb0.out.size)⟩
theorem crcPrefix_of (a : Option Addr) (ls : List (List UInt8)) (n cap : Nat) (cut : Int) (w : World) (hn : ls.length = n) (hc : n ≤ cap) (hb : cap ≤ maxLen) (hl : Bytess w a ls) (hlen : ∀ l ∈ ls, l.length ≤ maxLen) (h0 : -9223372036854775808 ≤ cut) (h1 : cut ≤ 9223372036854775807) :
    Calls Try.prog 11 #[.slice a n cap, .int .i64 cut] w fun e w' => e = .returned (.bool true) ∧ Below w.heap.size w w' := by
  unfold maxLen at hb
  by_cases h20 : 20 < n
  · clear hn hl
    go_enter Try.func11, Try.ntmps11
    go_wp2_with fail
    refine (crcAwake_any K _).mono ?_
    rintro e w1 ⟨rfl, hb1⟩
    go_wp2
    go_ret
    exact ⟨rfl, hb1⟩
  · by_cases hc0 : cut < 0
    · clear hn hl
      go_enter Try.func11, Try.ntmps11
      go_wp2_with fail
      refine (crcAwake_any K _).mono ?_
      rintro e w1 ⟨rfl, hb1⟩
      go_wp2
      go_ret
      exact ⟨rfl, hb1⟩
    · obtain ⟨q, rfl⟩ := Int.eq_ofNat_of_zero_le (show 0 ≤ cut by omega)
      exact crcPrefix_main K a ls n cap q w hn hc (by omega) hl hlen (by omega)
end
end Go.Proofs.Ytedgcgdgdjilhaa
