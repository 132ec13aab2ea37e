/-
  Walks over package num and its reference: rounding and Scale.
-/
import Derived.Test.YtejokpbmdhmhfaaNumC
namespace Go.Proofs.Ytejokpbmdhmhfaa
open Go.RowKit

/-- whether rounding takes the absolute value to the next integer -/
def awayB (q r c : Nat) (neg : Bool) (m : Int) : Bool :=
  if m = 0 then neg && decide (0 < r) else if m = 1 then !neg && decide (0 < r) else if m = 2 then decide (c ≤ 2 * r) else decide (c < 2 * r) || decide (2 * r = c) && decide (q % 2 = 1)
def negB (a b c : Int) : Bool := (decide (a < 0) != decide (b < 0)) != decide (c < 0)
def okScale (a b c m : Int) : Bool := (inRB a && inRB b && inRB c) && c != 0 && decide (0 ≤ m) && decide (m ≤ 3)
def signed (neg : Bool) (n : Nat) : Int := if neg then -(n : Int) else n
/-- what Scale returns -/
def scaleS (a b c m : Int) : Int × Int :=
  if okScale a b c m then
    if a.natAbs * b.natAbs / c.natAbs ≤ 1125899906842624 then
      chkS (signed (negB a b c) (a.natAbs * b.natAbs / c.natAbs + (awayB (a.natAbs * b.natAbs / c.natAbs) (a.natAbs * b.natAbs % c.natAbs) c.natAbs (negB a b c) m).toNat))
    else (0, 2)
  else (0, 1)

theorem ret_b {a b : Bool} (h : a = b) : Ending.returned (.bool a) = .returned (.bool b) := by rw [h]

set_option maxHeartbeats 1000000 in
theorem grows_any (q r c : Nat) (neg : Bool) (m : Int) (hq : q ≤ 1125899906842624) (hr : r < c) (hc : c ≤ 1125899906842624) (hm : 0 ≤ m ∧ m ≤ 3) (w : World) :
    Calls Try.prog 38 #[.int .i64 q, .int .i64 r, .int .i64 c, .bool neg, .int .i64 m] w fun e w' => e = .returned (.bool (awayB q r c neg m)) ∧ w = w' := by
  by_cases m0 : m = 0
  · subst m0
    have e : awayB q r c neg 0 = (neg && decide (0 < r)) := rfl
    rw [e]
    clear e
    cases neg
    · go_enter Try.func38, Try.ntmps38
      go_wp2
      go_ret
      exact ⟨rfl, rfl⟩
    · by_cases h : 0 < r
      · go_enter Try.func38, Try.ntmps38
        go_wp2
        go_ret
        exact ⟨ret_b (by simp [h]), rfl⟩
      · go_enter Try.func38, Try.ntmps38
        go_wp2
        go_ret
        exact ⟨ret_b (by simp [h]), rfl⟩
  by_cases m1 : m = 1
  · subst m1
    have e : awayB q r c neg 1 = (!neg && decide (0 < r)) := rfl
    rw [e]
    clear e m0
    cases neg
    · by_cases h : 0 < r
      · go_enter Try.func38, Try.ntmps38
        go_wp2
        go_ret
        exact ⟨ret_b (by simp [h]), rfl⟩
      · go_enter Try.func38, Try.ntmps38
        go_wp2
        go_ret
        exact ⟨ret_b (by simp [h]), rfl⟩
    · go_enter Try.func38, Try.ntmps38
      go_wp2
      go_ret
      exact ⟨rfl, rfl⟩
  by_cases m2 : m = 2
  · subst m2
    have e : awayB q r c neg 2 = decide (c ≤ 2 * r) := rfl
    rw [e]
    clear e m0 m1
    by_cases h : c ≤ 2 * r
    · have h' : (c : Int) ≤ 2 * (r : Int) := by omega
      go_enter Try.func38, Try.ntmps38
      go_wp2
      go_ret
      exact ⟨ret_b (by simp [h]), rfl⟩
    · have h' : ¬ (c : Int) ≤ 2 * (r : Int) := by omega
      go_enter Try.func38, Try.ntmps38
      go_wp2
      go_ret
      exact ⟨ret_b (by simp), rfl⟩
  obtain rfl : m = 3 := by omega
  have e : awayB q r c neg 3 = (decide (c < 2 * r) || decide (2 * r = c) && decide (q % 2 = 1)) := rfl
  rw [e]
  clear e m0 m1 m2
  by_cases h : c < 2 * r
  · have h' : (c : Int) < 2 * (r : Int) := by omega
    go_enter Try.func38, Try.ntmps38
    go_wp2
    go_ret
    exact ⟨ret_b (by simp [h]), rfl⟩
  · have h' : ¬ (c : Int) < 2 * (r : Int) := by omega
    by_cases h1 : 2 * r = c
    · have h1' : (2 * (r : Int) == (c : Int)) = true := by simp; omega
      by_cases h2 : q % 2 = 1
      · have h2' : ((q : Int) % 2 == 1) = true := by simp; omega
        have E : (decide (c < 2 * r) || decide (2 * r = c) && decide (q % 2 = 1)) = true := by simp [h1, h2]
        rw [E]
        clear E h1 h2 h
        go_enter Try.func38, Try.ntmps38
        go_wp2
        go_ret
        exact ⟨rfl, rfl⟩
      · have h2' : ((q : Int) % 2 == 1) = false := by simp; omega
        have E : (decide (c < 2 * r) || decide (2 * r = c) && decide (q % 2 = 1)) = false := by simp [h, h2]
        rw [E]
        clear E h1 h2 h
        go_enter Try.func38, Try.ntmps38
        go_wp2
        go_ret
        exact ⟨rfl, rfl⟩
    · have h1' : (2 * (r : Int) == (c : Int)) = false := by simp; omega
      have E : (decide (c < 2 * r) || decide (2 * r = c) && decide (q % 2 = 1)) = false := by simp [h, h1]
      rw [E]
      clear E h1 h
      go_enter Try.func38, Try.ntmps38
      go_wp2
      go_ret
      exact ⟨rfl, rfl⟩

theorem allIn_three (a b c : Int) (w : World) (t : TypeId) (r : Bool) (h : (inRB a && inRB b && inRB c) = r) :
    Calls Try.prog 32 #[.slice (some ⟨w.heap.size, 0, none⟩) 3 3] (w.alloc (.cells #[.int .i64 a, .int .i64 b, .int .i64 c] t)) fun e w' => e = .returned (.bool r) ∧ w.alloc (.cells #[.int .i64 a, .int .i64 b, .int .i64 c] t) = w' := by
  have := allIn_any (some ⟨w.heap.size, 0, none⟩) [a, b, c] 3 3 (w.alloc (.cells #[.int .i64 a, .int .i64 b, .int .i64 c] t)) rfl (by omega) (Ints_three w a b c t)
  have e : [a, b, c].all inRB = r := by rw [← h]; simp [Bool.and_assoc]
  rwa [e] at this

set_option maxHeartbeats 1000000 in
theorem scale_bad (a b c m : Int) (w : World) (h : okScale a b c m = false) :
    Calls Try.prog 21 #[.int .i64 a, .int .i64 b, .int .i64 c, .int .i64 m] w fun e w' => e = .returned (.tuple #[.int .i64 0, .int .i64 1]) ∧ Below w.heap.size w w' := by
  cases h1 : (inRB a && inRB b && inRB c)
  · have H := Lib.hid h1
    clear h1 h
    go_enter Try.func21, Try.ntmps21
    go_wp2_with (go_at_call 32; refine (allIn_three a b c _ _ _ H.out).mono ?_; rintro e w' ⟨rfl, rfl⟩)
    go_ret2
    exact ⟨rfl, (Below.refl _ _).alloc (Nat.le_refl _) _⟩
  · have H := Lib.hid h1
    have hh : c = 0 ∨ (c ≠ 0 ∧ m < 0) ∨ (c ≠ 0 ∧ 0 ≤ m ∧ 3 < m) := by
      simp only [okScale, h1, Bool.true_and, Bool.and_eq_false_iff, decide_eq_false_iff_not, bne_eq_false_iff_eq] at h
      omega
    clear h1 h
    rcases hh with h0 | ⟨h0, h2⟩ | ⟨h0, h2, h3⟩
    · subst h0
      go_enter Try.func21, Try.ntmps21
      go_wp2_with (go_at_call 32; refine (allIn_three a b 0 _ _ _ H.out).mono ?_; rintro e w' ⟨rfl, rfl⟩)
      go_ret2
      exact ⟨rfl, (Below.refl _ _).alloc (Nat.le_refl _) _⟩
    · have hz : (c == 0) = false := by simp [h0]
      go_enter Try.func21, Try.ntmps21
      go_wp2_with (go_at_call 32; refine (allIn_three a b c _ _ _ H.out).mono ?_; rintro e w' ⟨rfl, rfl⟩)
      go_ret2
      exact ⟨rfl, (Below.refl _ _).alloc (Nat.le_refl _) _⟩
    · have hz : (c == 0) = false := by simp [h0]
      go_enter Try.func21, Try.ntmps21
      go_wp2_with (go_at_call 32; refine (allIn_three a b c _ _ _ H.out).mono ?_; rintro e w' ⟨rfl, rfl⟩)
      go_ret2
      exact ⟨rfl, (Below.refl _ _).alloc (Nat.le_refl _) _⟩

theorem okScale_true {a b c m : Int} (h : okScale a b c m = true) : inRB a = true ∧ inRB b = true ∧ inRB c = true ∧ c ≠ 0 ∧ 0 ≤ m ∧ m ≤ 3 := by
  simp only [okScale, Bool.and_eq_true, decide_eq_true_eq, bne_iff_ne] at h
  exact ⟨h.1.1.1.1.1, h.1.1.1.1.2, h.1.1.1.2, h.1.1.2, h.1.2, h.2⟩

/-- the quotient is out of range -/
theorem dv_no {a b c : Nat} (h : ¬ a * b / c ≤ 1125899906842624) : dv a b c = (0, 0, false) := by simp [dv, h]
theorem dv_yes {a b c : Nat} (h : a * b / c ≤ 1125899906842624) : dv a b c = (a * b / c, a * b % c, true) := by simp [dv, h]

theorem divP_no (a b c : Nat) (ha : a ≤ 1125899906842624) (hb : b ≤ 1125899906842624) (hc : 1 ≤ c) (hc' : c ≤ 1125899906842624) (w : World) (h : ¬ a * b / c ≤ 1125899906842624) :
    Calls Try.prog 37 #[.int .i64 a, .int .i64 b, .int .i64 c] w fun e w' =>
      e = .returned (.tuple #[.int .i64 0, .int .i64 0, .bool false]) ∧ ∃ n, w' = w.drewN n := by
  have := divP_any a b c ha hb hc hc' w
  rwa [dv_no h] at this
theorem divP_yes (a b c : Nat) (ha : a ≤ 1125899906842624) (hb : b ≤ 1125899906842624) (hc : 1 ≤ c) (hc' : c ≤ 1125899906842624) (w : World) (Q R : Nat) (h : a * b / c ≤ 1125899906842624) (hQ : a * b / c = Q) (hR : a * b % c = R) :
    Calls Try.prog 37 #[.int .i64 a, .int .i64 b, .int .i64 c] w fun e w' =>
      e = .returned (.tuple #[.int .i64 Q, .int .i64 R, .bool true]) ∧ ∃ n, w' = w.drewN n := by
  have := divP_any a b c ha hb hc hc' w
  rwa [dv_yes h, hQ, hR] at this
theorem divR_no (a b c : Nat) (ha : a ≤ 1125899906842624) (hb : b ≤ 1125899906842624) (hc : 1 ≤ c) (hc' : c ≤ 1125899906842624) (w : World) (h : ¬ a * b / c ≤ 1125899906842624) :
    Calls Try.prog 39 #[.int .i64 a, .int .i64 b, .int .i64 c] w fun e w' =>
      e = .returned (.tuple #[.int .i64 0, .int .i64 0, .bool false]) ∧ w = w' := by
  have := divR_any a b c ha hb hc hc' w
  rwa [dv_no h] at this
theorem divR_yes (a b c : Nat) (ha : a ≤ 1125899906842624) (hb : b ≤ 1125899906842624) (hc : 1 ≤ c) (hc' : c ≤ 1125899906842624) (w : World) (Q R : Nat) (h : a * b / c ≤ 1125899906842624) (hQ : a * b / c = Q) (hR : a * b % c = R) :
    Calls Try.prog 39 #[.int .i64 a, .int .i64 b, .int .i64 c] w fun e w' =>
      e = .returned (.tuple #[.int .i64 Q, .int .i64 R, .bool true]) ∧ w = w' := by
  have := divR_any a b c ha hb hc hc' w
  rwa [dv_yes h, hQ, hR] at this

theorem grows_is (q r c : Nat) (neg : Bool) (m : Int) (hq : q ≤ 1125899906842624) (hr : r < c) (hc : c ≤ 1125899906842624) (hm : 0 ≤ m ∧ m ≤ 3) (w : World) (g : Bool) (h : awayB q r c neg m = g) :
    Calls Try.prog 38 #[.int .i64 q, .int .i64 r, .int .i64 c, .bool neg, .int .i64 m] w fun e w' => e = .returned (.bool g) ∧ w = w' := by
  have := grows_any q r c neg m hq hr hc hm w
  rwa [h] at this

theorem Below.drewN' {B : Nat} {a w : World} (h : Below B a w) (n : Nat) : Below B a (w.drewN n) := ⟨h.os, h.tape, h.output, h.size, h.block⟩

end Go.Proofs.Ytejokpbmdhmhfaa
