/-
  Walks over package num and its reference: Gcd, Sum.
-/
import Derived.Test.YtejokpbmdhmhfaaNumR
namespace Go.Proofs.Ytejokpbmdhmhfaa
open Go.RowKit

/-- what Gcd returns -/
def gcdS (a b : Int) : Int × Int := if inRB a && inRB b then ((Int.gcd a b : Int), 0) else (0, 1)

theorem gcd_step (x y : Int) : Int.gcd y (x.tmod y) = Int.gcd x y := by
  show Nat.gcd y.natAbs (x.tmod y).natAbs = Nat.gcd x.natAbs y.natAbs
  rw [Int.natAbs_tmod, Nat.gcd_comm x.natAbs, Nat.gcd_rec y.natAbs x.natAbs, Nat.gcd_comm]
theorem gcd_stepN (x y : Nat) : Nat.gcd y (x % y) = Nat.gcd x y := by
  rw [Nat.gcd_comm x, Nat.gcd_rec y x, Nat.gcd_comm]

set_option maxHeartbeats 1000000 in
theorem gcd_any (a b : Int) (w : World) :
    Calls Try.prog 26 #[.int .i64 a, .int .i64 b] w fun e w' => e = .returned (.tuple #[.int .i64 (gcdS a b).1, .int .i64 (gcdS a b).2]) ∧ Below w.heap.size w w' := by
  cases h : (inRB a && inRB b)
  · have e : gcdS a b = (0, 1) := by simp [gcdS, h]
    rw [e]
    have H := Lib.hid h
    clear h e
    go_enter Try.func26, Try.ntmps26
    go_wp2_with (go_at_call 32; refine (allIn_two a b _ _ _ H.out).mono ?_; rintro e w' ⟨rfl, rfl⟩)
    go_ret2
    exact ⟨rfl, (Below.refl _ _).alloc (Nat.le_refl _) _⟩
  · have e : gcdS a b = ((Int.gcd a b : Int), 0) := by simp [gcdS, h]
    rw [e]
    have hh : inRB a = true ∧ inRB b = true := by simpa using h
    have h1 := inRB_true.1 hh.1
    have h2 := inRB_true.1 hh.2
    have H := Lib.hid h
    clear h e hh
    go_enter Try.func26, Try.ntmps26
    go_wp2_with (go_at_call 32; refine (allIn_two a b _ _ _ H.out).mono ?_; rintro e w' ⟨rfl, rfl⟩)
    have hb0 : Below w.heap.size w (w.alloc (.cells #[.int .i64 a, .int .i64 b] 3)) := (Below.refl _ _).alloc (Nat.le_refl _) _
    go_loopw [0, 1] (fun p q wr => ∃ x y : Int, p = .int .i64 x ∧ q = .int .i64 y ∧ Hid (Int.gcd x y = Int.gcd a b) ∧ (-1125899906842624 ≤ x ∧ x ≤ 1125899906842624) ∧ (-1125899906842624 ≤ y ∧ y ≤ 1125899906842624) ∧ Below w.heap.size w wr) (fun _ q _ => (intOf q).natAbs)
    case atStart => exact ⟨a, b, rfl, rfl, rfl, h1, h2, hb0⟩
    case round =>
      obtain ⟨x, y, rfl, rfl, hg, hx, hy, hb1⟩ := hrel
      by_cases h0 : y = 0
      · subst h0
        have e0 : ((Int.gcd a b : Nat) : Int) = (x.natAbs : Int) := by rw [← hg.out]; simp
        have E0 := Lib.hid e0
        have hin : inRB x = true := inRB_true.2 hx
        have Hin := Lib.hid hin
        clear e0 hin
        go_wp2_with (go_at_call 35; refine (abs_any x _ Hin.out).mono ?_; rintro e w' ⟨rfl, rfl⟩)
        go_ret2
        exact ⟨by rw [E0.out]; rfl, hb1⟩
      · have hz : (y != 0) = true := by simp [h0]
        have ht : ((x.tmod y).natAbs) < y.natAbs := by
          rw [Int.natAbs_tmod]; exact Nat.mod_lt _ (by omega)
        have hstep := Lib.hid (gcd_step x y)
        have hgen : ∀ z : Int, z.natAbs < y.natAbs → -1125899906842624 ≤ z ∧ z ≤ 1125899906842624 := by intro z hz; omega
        have hgm : ∀ z : Int, z.natAbs < y.natAbs → (z.natAbs : Int) < y.natAbs := by intro z hz; omega
        have hwb := hgen _ ht
        have ht' := hgm _ ht
        clear hgen hgm ht
        go_wp2
        go_region
        go_wp2
        go_roundw
        case rel => exact ⟨y, x.tmod y, rfl, rfl, by unfold Hid; rw [hstep.out]; exact hg.out, hy, hwb, hb1.drew⟩
        case measure => simp only [intOf]; omega

set_option maxHeartbeats 1000000 in
theorem rGcd_any (a b : Int) (w : World) :
    Calls Try.prog 27 #[.int .i64 a, .int .i64 b] w fun e w' => e = .returned (.tuple #[.int .i64 (gcdS a b).1, .int .i64 (gcdS a b).2]) ∧ Below w.heap.size w w' := by
  cases h1 : inRB a
  · have e : gcdS a b = (0, 1) := by simp [gcdS, h1]
    rw [e]
    have H := Lib.hid h1
    clear e h1
    go_enter Try.func27, Try.ntmps27
    go_wp2_with (go_at_call 24; refine (rIn_no a _ H.out).mono ?_; rintro e w' ⟨rfl, rfl⟩)
    go_ret2
    exact ⟨rfl, Below.refl _ _⟩
  cases h2 : inRB b
  · have e : gcdS a b = (0, 1) := by simp [gcdS, h2]
    rw [e]
    have H := Lib.hid h1
    have H2 := Lib.hid h2
    clear e h1 h2
    go_enter Try.func27, Try.ntmps27
    go_wp2_with fail
    refine (rIn_yes a _ H.out).mono ?_
    rintro e w' ⟨rfl, rfl⟩
    go_wp2_with fail
    refine (rIn_no b _ H2.out).mono ?_
    rintro e w' ⟨rfl, rfl⟩
    go_wp2
    go_ret2
    exact ⟨rfl, Below.refl _ _⟩
  have e : gcdS a b = ((Int.gcd a b : Int), 0) := by simp [gcdS, h1, h2]
  rw [e]
  have b1 := inRB_true.1 h1
  have b2 := inRB_true.1 h2
  have H := Lib.hid h1
  have H2 := Lib.hid h2
  clear e h1 h2
  go_enter Try.func27, Try.ntmps27
  go_wp2_with fail
  refine (rIn_yes a _ H.out).mono ?_
  rintro e w' ⟨rfl, rfl⟩
  go_wp2_with fail
  refine (rIn_yes b _ H2.out).mono ?_
  rintro e w' ⟨rfl, rfl⟩
  go_wp2_with fail
  refine (rAbs_any a _ H.out).mono ?_
  rintro e w' ⟨rfl, rfl⟩
  go_wp2_with fail
  refine (rAbs_any b _ H2.out).mono ?_
  rintro e w' ⟨rfl, rfl⟩
  go_wp2_with fail
  go_loopw [0, 1] (fun p q wr => ∃ x y : Nat, p = .int .i64 x ∧ q = .int .i64 y ∧ Hid (Nat.gcd x y = Int.gcd a b) ∧ x ≤ 1125899906842624 ∧ y ≤ 1125899906842624 ∧ Below w.heap.size w wr) (fun _ q _ => (intOf q).natAbs)
  case atStart => exact ⟨a.natAbs, b.natAbs, rfl, rfl, rfl, by omega, by omega, Below.refl _ _⟩
  case round =>
    obtain ⟨x, y, rfl, rfl, hg, hx, hy, hb1⟩ := hrel
    by_cases h0 : y = 0
    · subst h0
      have e0 : ((Int.gcd a b : Nat) : Int) = (x : Int) := by rw [← hg.out]; simp
      have E0 := Lib.hid e0
      clear e0
      go_wp2
      go_ret2
      exact ⟨by rw [E0.out]; rfl, hb1⟩
    · have hy1 : 0 < y := by omega
      clear h0
      have ht : x % y < y := Nat.mod_lt _ hy1
      have hstep := Lib.hid (gcd_stepN x y)
      have hm0 : (0 : Int) ≤ (x : Int) % y := Int.emod_nonneg _ (by omega)
      have hm1 : (x : Int) % y < y := Int.emod_lt_of_pos _ (by omega)
      go_wp2
      go_region
      go_wp2
      go_roundw
      case rel => exact ⟨y, x % y, rfl, by go_num, by unfold Hid; rw [hstep.out]; exact hg.out, hy, by omega, hb1.drew⟩
      case measure => simp [intOf]; omega
end Go.Proofs.Ytejokpbmdhmhfaa
