/-
  Walks over the reference of package crc: Extend, Sum, tail.
-/
import Derived.Test.YtedgcgdgdjilhaaVals
import Derived.Test.YtedgcgdgdjilhaaCrcPlain2
import Derived.Laws.Bits64
import Derived.IntWalk
namespace Go.Proofs.Ytedgcgdgdjilhaa
set_option linter.unusedVariables false
set_option linter.unusedSimpArgs false
open Go.RowKit

theorem wrap_u32 (n : Int) : IntKind.u32.wrap n = n % 4294967296 := by simp [IntKind.wrap, IntKind.bits, IntKind.signed]
theorem xor_u32 (a b : Nat) (ha : a < 4294967296) (hb : b < 4294967296) : bits .xor .u32 (a : Int) (b : Int) = ((a ^^^ b : Nat) : Int) := by
  have hx : a ^^^ b < 2 ^ 32 := Nat.xor_lt_two_pow (by omega) (by omega)
  have h1 : (BitVec.ofInt 32 (a : Int)).toNat = a := by
    rw [BitVec.ofInt_natCast, BitVec.toNat_ofNat]; exact Nat.mod_eq_of_lt (by omega)
  have h2 : (BitVec.ofInt 32 (b : Int)).toNat = b := by
    rw [BitVec.ofInt_natCast, BitVec.toNat_ofNat]; exact Nat.mod_eq_of_lt (by omega)
  show IntKind.u32.wrap ((BitVec.ofInt 32 (a : Int) ^^^ BitVec.ofInt 32 (b : Int)).toNat : Int) = _
  rw [BitVec.toNat_xor, h1, h2, wrap_u32]
  omega
theorem ones_xor {s : Nat} (hs : s < 4294967296) : 4294967295 ^^^ s = 4294967295 - s := by
  have h : (BitVec.allOnes 32 ^^^ BitVec.ofNat 32 s).toNat = 4294967295 - s := by
    rw [BitVec.allOnes_xor, BitVec.toNat_not, BitVec.toNat_ofNat, Nat.mod_eq_of_lt (by omega)]
  rw [BitVec.toNat_xor, BitVec.toNat_ofNat, Nat.mod_eq_of_lt (by omega)] at h
  exact h
theorem not_u32 (s : Nat) (hs : s < 4294967296) : bits .xor .u32 IntKind.u32.max (s : Int) = ((4294967295 - s : Nat) : Int) := by
  rw [show IntKind.u32.max = ((4294967295 : Nat) : Int) from rfl, xor_u32 _ _ (by decide) hs, ones_xor hs]
theorem byte_at {l : List UInt8} {k : Nat} (h : k < l.length) : l.drop k = l[k]?.getD 0 :: l.drop (k + 1) := by
  rw [List.drop_eq_getElem_cons h, List.getElem?_eq_getElem h]; rfl

set_option maxRecDepth 20000 in
set_option maxHeartbeats 4000000 in
theorem rExtend_any (s : Nat) (a : Option Addr) (l : List UInt8) (n cap : Nat) (w : World) (hn : l.length = n) (hb : n ≤ 1000000) (hl : Bytes w a l) (hs : s < 4294967296) :
    Calls Try.prog 16 #[.int .u32 (s : Int), .slice a n cap] w fun e w' => e = .returned (.int .u32 (extS s l : Int)) ∧ w = w' := by
  have Hn := Lib.hid hn
  obtain ⟨R, hR⟩ : ∃ R, runS (4294967295 - s) l = R := ⟨_, rfl⟩
  have HR := Lib.hid hR
  have hR2 : R < 4294967296 := by rw [← hR]; exact runS_lt l (by omega)
  obtain ⟨X, hX⟩ : ∃ X, extS s l = X := ⟨_, rfl⟩
  have HX := Lib.hid (show X = 4294967295 - R by rw [← hX, ← hR]; rfl)
  rw [hX]
  clear hR hn hX
  have e0 := Lib.hid (not_u32 s hs)
  go_enter Try.func16, Try.ntmps16
  go_wp2
  go_loop [5, 6] (fun a5 i => ∃ (k x : Nat), k ≤ n ∧ x < 4294967296 ∧ i = .int .i64 k ∧ a5 = .int .u32 x ∧ Hid (runS x (l.drop k) = R)) (fun _ i => n - (intOf i).toNat)
  case atStart => exact ⟨0, 4294967295 - s, by omega, by omega, rfl, by rw [e0.out], HR⟩
  case round =>
    obtain ⟨k, x, hk, hx, rfl, rfl, Ht⟩ := hrel
    by_cases hlt : k < n
    · have hkl : k < l.length := by rw [Hn.out]; exact hlt
      obtain ⟨b, off, rfl, hc⟩ := hl.byte hkl
      have Hd := Lib.hid (byte_at hkl)
      obtain ⟨c, hcc⟩ : ∃ c, l[k]?.getD 0 = c := ⟨_, rfl⟩
      rw [hcc] at hc Hd
      obtain ⟨y, hy⟩ : ∃ y, c.toNat = y := ⟨_, rfl⟩
      have hu : y < 256 := by rw [← hy]; exact c.toNat_lt
      rw [hy] at hc
      have i0 : (0 : Int) ≤ (k : Int) := by omega
      have i1 : (k : Int) < (n : Int) := by omega
      have Hz := Lib.hid (show runS (byteS x y) (l.drop (k + 1)) = R by rw [← Ht.out, Hd.out, runS_cons, hy])
      have hxy : x ^^^ y < 4294967296 := xor_lt32 hx (by omega)
      have e1 := xor_u32 x y hx (by omega)
      obtain ⟨z, hz⟩ : ∃ z, x ^^^ y = z := ⟨_, rfl⟩
      have HZ := Lib.hid (show runS (bitsS 8 z) (l.drop (k + 1)) = R by rw [← hz]; exact Hz.out)
      rw [hz] at e1 hxy
      clear hz hy hcc hkl
      go_wp2
      go_loop [5, 7] (fun a5 i => ∃ (j q : Nat), j ≤ 8 ∧ q < 4294967296 ∧ i = .int .i64 j ∧ a5 = .int .u32 q ∧ Hid (runS (bitsS (8 - j) q) (l.drop (k + 1)) = R)) (fun _ i => 8 - (intOf i).toNat)
      case atStart => exact ⟨0, z, by omega, hxy, rfl, rfl, HZ⟩
      case round =>
        obtain ⟨j, q, hj, hq, rfl, rfl, Hq⟩ := hrel
        by_cases hj8 : j < 8
        · have E := Lib.hid (show runS (bitsS (8 - (j + 1)) (bitS q)) (l.drop (k + 1)) = R by
            rw [← Hq.out, show 8 - j = 8 - (j + 1) + 1 by omega]; rfl)
          by_cases hodd : q % 2 = 1
          · have e2 := xor_u32 (q / 2) 3988292384 (by omega) (by decide)
            have E2 := Lib.hid (show bitS q = (q / 2) ^^^ 3988292384 by rw [bitS, if_pos hodd])
            have hqb : bitS q < 4294967296 := bitS_lt hq
            go_wp2
            have e4 := Lib.hid (show bits .xor .u32 ((q : Int) / 2) 3988292384 = ((bitS q : Nat) : Int) by rw [E2.out]; exact e2)
            exact ⟨⟨j + 1, bitS q, by omega, hqb, by go_num, by rw [e4.out], E⟩, by simp [intOf]; omega⟩
          · have E2 := Lib.hid (show bitS q = q / 2 by rw [bitS, if_neg hodd])
            go_wp2
            exact ⟨⟨j + 1, bitS q, by omega, bitS_lt hq, by go_num, by rw [E2.out]; go_num, E⟩, by simp [intOf]; omega⟩
        · have hj8' : j = 8 := by omega
          subst hj8'
          go_wp2
          exact ⟨⟨k + 1, q, by omega, hq, by go_num, rfl, Hq⟩, by simp [intOf]; omega⟩
    · have i1 : (n : Int) ≤ (k : Int) := by omega
      have e3 := Lib.hid (show bits .xor .u32 IntKind.u32.max (x : Int) = (X : Int) by
        have : x = R := by rw [← Ht.out, List.drop_eq_nil_of_le (by rw [Hn.out]; omega)]; rfl
        rw [not_u32 x hx, HX.out, this])
      go_wp2
      go_ret
      exact ⟨by rw [e3.out]; rfl, rfl⟩

set_option maxRecDepth 20000 in
theorem rSum_any (a : Option Addr) (l : List UInt8) (n cap : Nat) (w : World) (hn : l.length = n) (hb : n ≤ 1000000) (hl : Bytes w a l) :
    Calls Try.prog 13 #[.slice a n cap] w fun e w' => e = .returned (.int .u32 (sumS l : Int)) ∧ w = w' := by
  have C : Calls Try.prog 16 #[.int .u32 0, .slice a n cap] w fun e w' => e = .returned (.int .u32 (extS 0 l : Int)) ∧ w = w' := rExtend_any 0 a l n cap w hn hb hl (by omega)
  go_enter Try.func13, Try.ntmps13
  go_wp2_with fail
  refine C.mono fun e w1 hr => ?_
  obtain ⟨rfl, rfl⟩ := hr
  go_wp2
  go_ret
  exact ⟨rfl, rfl⟩

set_option maxRecDepth 20000 in
theorem rTail_any (s : Nat) (w : World) (hs : s < 4294967296) :
    Calls Try.prog 29 #[.int .u32 (s : Int)] w fun e w' => ∃ b, e = .returned (.slice b 4 4) ∧ Bytes w' b (tailL s) ∧ Below w.heap.size w w' := by
  go_enter Try.func29, Try.ntmps29
  go_wp2
  go_ret
  have e : bytV (tailL s) = [.int .u8 ((s : Int) / 16777216), .int .u8 ((s : Int) / 65536 % 256), .int .u8 ((s : Int) / 256 % 256), .int .u8 ((s : Int) % 256)] := by
    simp only [bytV, tailL, List.map_cons, List.map_nil, byte_of (Nat.mod_lt _ (show 0 < 256 by decide))]
    simp
    omega
  refine ⟨_, rfl, ?_, (Below.refl w.heap.size w).alloc (Nat.le_refl _) _⟩
  show Reads _ _ (bytV (tailL s))
  rw [e]
  exact reads_lit w _ _ rfl
end Go.Proofs.Ytedgcgdgdjilhaa
