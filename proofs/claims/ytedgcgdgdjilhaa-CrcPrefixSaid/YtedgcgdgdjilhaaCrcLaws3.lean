/-
  Walks over the laws of package crc: Damaged.
-/
import Derived.Test.YtedgcgdgdjilhaaCrcLaws2
import Derived.Test.YtedgcgdgdjilhaaStore
namespace Go.Proofs.Ytedgcgdgdjilhaa
set_option linter.unusedVariables false
set_option linter.unusedSimpArgs false
open Go.RowKit

theorem wrap_u8 (n : Int) : IntKind.u8.wrap n = n % 256 := by simp [IntKind.wrap, IntKind.bits, IntKind.signed]
theorem xor_u8 (a b : Nat) (ha : a < 256) (hb : b < 256) : bits .xor .u8 (a : Int) (b : Int) = ((a ^^^ b : Nat) : Int) := by
  have hx : a ^^^ b < 2 ^ 8 := Nat.xor_lt_two_pow (by omega) (by omega)
  have h1 : (BitVec.ofInt 8 (a : Int)).toNat = a := by
    rw [BitVec.ofInt_natCast, BitVec.toNat_ofNat]; exact Nat.mod_eq_of_lt (by omega)
  have h2 : (BitVec.ofInt 8 (b : Int)).toNat = b := by
    rw [BitVec.ofInt_natCast, BitVec.toNat_ofNat]; exact Nat.mod_eq_of_lt (by omega)
  show IntKind.u8.wrap ((BitVec.ofInt 8 (a : Int) ^^^ BitVec.ofInt 8 (b : Int)).toNat : Int) = _
  rw [BitVec.toNat_xor, h1, h2, wrap_u8]
  omega
theorem bytV_set (l : List UInt8) (i z : Nat) (hz : z < 256) : (bytV l).set i (.int .u8 (z : Int)) = bytV (l.set i (UInt8.ofNat z)) := by
  unfold bytV
  rw [List.map_set, byte_of8 hz]
theorem xor_ne {x y : Nat} (hy : y ≠ 0) : x ^^^ y ≠ x := by
  intro h
  have h1 := congrArg (x ^^^ ·) h
  simp only [← Nat.xor_assoc, Nat.xor_self, Nat.zero_xor] at h1
  exact hy h1

section
variable (K : CrcCon)
include K
theorem crcDamaged_skip (a : Option Addr) (n cap : Nat) (back : Int) (y : Nat) (w : World) (hb : n ≤ maxLen) (h0 : -9223372036854775808 ≤ back) (h1 : back ≤ 9223372036854775807) (hy : y < 256)
    (h : 5000 < n ∨ back < 0 ∨ (n : Int) + 4 ≤ back ∨ y = 0) :
    Calls Try.prog 10 #[.slice a n cap, .int .i64 back, .int .u8 (y : Int)] w fun e w' => e = .returned (.bool true) ∧ Below w.heap.size w w' := by
  unfold maxLen at hb
  by_cases h2 : 5000 < n
  · clear h
    go_enter Try.func10, Try.ntmps10
    go_wp2_with fail
    refine (crcAwake_any K _).mono ?_
    rintro e w1 ⟨rfl, hb1⟩
    go_wp2
    go_ret
    exact ⟨rfl, hb1⟩
  · by_cases h3 : back < 0
    · clear h
      go_enter Try.func10, Try.ntmps10
      go_wp2_with fail
      refine (crcAwake_any K _).mono ?_
      rintro e w1 ⟨rfl, hb1⟩
      go_wp2
      go_ret
      exact ⟨rfl, hb1⟩
    · by_cases h4 : (n : Int) + 4 ≤ back
      · have i1 : decide ((n : Int) + 4 ≤ back) = true := decide_eq_true h4
        clear h
        go_enter Try.func10, Try.ntmps10
        go_wp2_with fail
        refine (crcAwake_any K _).mono ?_
        rintro e w1 ⟨rfl, hb1⟩
        go_wp2
        go_ret
        exact ⟨rfl, hb1⟩
      · obtain rfl : y = 0 := by omega
        have i1 : decide ((n : Int) + 4 ≤ back) = false := decide_eq_false h4
        clear h hy
        go_enter Try.func10, Try.ntmps10
        go_wp2_with fail
        refine (crcAwake_any K _).mono ?_
        rintro e w1 ⟨rfl, hb1⟩
        go_wp2
        go_ret
        exact ⟨rfl, hb1⟩

set_option maxRecDepth 20000 in
set_option maxHeartbeats 8000000 in
theorem crcDamaged_main (a : Option Addr) (l : List UInt8) (n cap : Nat) (k y : Nat) (w : World) (hn : l.length = n) (hc : n ≤ cap) (hb : n ≤ 5000) (hl : Bytes w a l) (hk : k < n + 4) (hy : y < 256) (hy0 : 0 < y) :
    Calls Try.prog 10 #[.slice a n cap, .int .i64 (k : Int), .int .u8 (y : Int)] w fun e w' => e = .returned (.bool true) ∧ Below w.heap.size w w' := by
  have HL := Lib.hid hl
  have Hn := Lib.hid hn
  obtain ⟨F, hF⟩ : ∃ F, frameL l = F := ⟨_, rfl⟩
  obtain ⟨f, hf⟩ : ∃ f, F.length = f := ⟨_, rfl⟩
  have HF := Lib.hid (show frameS l = (F, 0) by rw [frameS_ok (by omega), hF])
  have Hf := Lib.hid hf
  have hfl : f ≤ 5020 ∧ n + 5 ≤ f := by
    have h4 := frameL_length l
    have h5 := vL_le10 (v := l.length) (by omega)
    rw [hF, hf] at h4
    omega
  obtain ⟨i, hi⟩ : ∃ i, f - 1 - k = i := ⟨_, rfl⟩
  have hif : i < F.length := by omega
  have hiv : (vL l.length).length ≤ i := by
    have h4 := frameL_length l
    rw [hF, hf] at h4
    omega
  obtain ⟨x, hx⟩ : ∃ x : Nat, (F[i]'hif).toNat = x := ⟨_, rfl⟩
  have hx256 : x < 256 := by rw [← hx]; exact (F[i]'hif).toNat_lt
  have hz : x ^^^ y < 256 := by
    have := Nat.xor_lt_two_pow (n := 8) (show x < 2 ^ 8 by omega) (show y < 2 ^ 8 by omega)
    omega
  have hxor := xor_u8 x y hx256 hy
  have HE := Lib.hid (show openS (F.set i (UInt8.ofNat (x ^^^ y))) = ([], 0, 15) by
    subst hF
    refine open_damaged (by omega) hiv (by omega) ?_
    intro h
    have h2 := congrArg UInt8.toNat h
    rw [byte_of8 hz, hx] at h2
    exact xor_ne (by omega) h2)
  have HX := Lib.hid (show (bytV F)[i]? = some (.int .u8 (x : Int)) by rw [bytV_at hif, List.getElem?_eq_getElem hif]; simp [hx])
  have hsub : (f : Int) - 1 - (k : Int) = (i : Int) := by omega
  have hif' : i < f := by omega
  have i1 : decide ((n : Int) + 4 ≤ (k : Int)) = false := decide_eq_false (by omega)
  have i2 : decide ((f : Int) ≤ (k : Int)) = false := decide_eq_false (by omega)
  have i3 : ((y : Int) == 0) = false := by simp; omega
  have hw1 : IntKind.i64.wrap ((n : Int) + 4) = (n : Int) + 4 := IntWalk.i64_in _ (by omega)
  clear hn hl hF hf hif hiv hx hi
  go_enter Try.func10, Try.ntmps10
  go_wp2_with fail
  refine (K.frame_is HF.out Hf.out a n cap _ Hn.out (by omega) hc HL.out).mono ?_
  rintro e0 w1 ⟨b1, c1, rfl, hc1, hr1, hb1⟩
  have HR1 := Lib.hid hr1
  have hs1 := hb1.size
  clear hr1
  go_wp2_with (at_builtin; refine wpList_append_reads rfl (.tmp 46) (.tmp 47) Try.underlying22 info_byte rfl (by omega) rfl w.heap.size (.slice (some ⟨w1.heap.size, 0, none⟩) 0 0) 0 [] rfl (own_made w1 _ rfl hs1) b1 f c1 (bytV F) rfl (by rw [bytV_length]; exact Hf.out) (HR1.out.kept ((Below.refl _ w1).alloc (Nat.le_refl _) _)) (bytV_one F) (by omega) (by simp; omega) ?_; intro v2 w2 o2 g2 e2; have hb2 : Below w.heap.size w w2 := below_grown hb1 g2 (fun g hg => by simp [Value.ownBlock] at hg; omega); have hs2 := hb2.size; rw [Nat.zero_add, List.nil_append] at o2; obtain ⟨g, c2, rfl, hg, hgs, hc2, hcells⟩ := own_shape o2 (by omega); obtain ⟨hcell, hfrz⟩ := hcells i hif'; rw [HX.out] at hcell; clear hcells e2 g2)
  have o3 := own_store o2 i (.int .u8 ((x ^^^ y : Nat) : Int))
  rw [bytV_set _ _ _ hz] at o3
  obtain ⟨a3, c3, hv3, h3, hc3, hr3, -⟩ := own_slice o3
  obtain ⟨rfl, -, rfl⟩ := Value.slice.inj hv3
  have HR3 := Lib.hid hr3
  clear o2 o3 hr3 h3 hv3
  refine (K.open_is (m := 0) HE.out rfl _ f c2 _ (by rw [List.length_set]; exact Hf.out) (by omega) hc3 HR3.out).mono ?_
  rintro e0 w4 ⟨b4, c4, rfl, hc4, hr4, hb4⟩
  go_wp2_with fail
  refine (crcAwake_any K _).mono ?_
  rintro e w5 ⟨rfl, hb5⟩
  go_wp2
  go_ret
  exact ⟨rfl, by (repeat' first | with_reducible assumption | exact Below.refl _ _ | with_reducible refine Below.drew ?_ | with_reducible refine Below.drewN ?_ _ | with_reducible refine Below.alloc' ?_ _ | with_reducible refine Below.setCell ?_ (by first | exact Nat.le_refl _ | omega | (simp; done) | (simp; omega)) _ | with_reducible refine Below.after ?_ ‹_›)⟩
theorem crcDamaged_of (a : Option Addr) (l : List UInt8) (n cap : Nat) (back : Int) (y : Nat) (w : World) (hn : l.length = n) (hc : n ≤ cap) (hb : n ≤ maxLen) (hl : Bytes w a l) (h0 : -9223372036854775808 ≤ back) (h1 : back ≤ 9223372036854775807) (hy : y < 256) :
    Calls Try.prog 10 #[.slice a n cap, .int .i64 back, .int .u8 (y : Int)] w fun e w' => e = .returned (.bool true) ∧ Below w.heap.size w w' := by
  by_cases h : 5000 < n ∨ back < 0 ∨ (n : Int) + 4 ≤ back ∨ y = 0
  · exact crcDamaged_skip K a n cap back y w hb h0 h1 hy h
  · obtain ⟨k, rfl⟩ := Int.eq_ofNat_of_zero_le (show 0 ≤ back by omega)
    exact crcDamaged_main K a l n cap k y w hn hc (by omega) hl (by omega) hy (by omega)
end
end Go.Proofs.Ytedgcgdgdjilhaa
