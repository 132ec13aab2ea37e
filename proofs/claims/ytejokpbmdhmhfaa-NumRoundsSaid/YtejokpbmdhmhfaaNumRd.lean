/-
  Rounding, said without the reference: what Scale's result has to do with the product.
-/
import Derived.Test.YtejokpbmdhmhfaaNumD
namespace Go.Proofs.Ytejokpbmdhmhfaa

/-- the product of a and b, turned when c is negative -/
def prodS (a b c : Int) : Int := if c < 0 then -(a * b) else a * b

theorem signed_true (n : Nat) : signed true n = -(n : Int) := rfl
theorem signed_false (n : Nat) : signed false n = (n : Int) := rfl
theorem signed_abs (b : Bool) (n : Nat) : (signed b n).natAbs = n := by
  cases b
  · rw [signed_false]; omega
  · rw [signed_true]; omega

theorem prod_signed (a b c : Int) : prodS a b c = signed (negB a b c) (a.natAbs * b.natAbs) := by
  have h : ((a.natAbs * b.natAbs : Nat) : Int) = ((a * b).natAbs : Int) := by rw [Int.natAbs_mul]
  have hs : ∀ nb : Bool, signed nb (a.natAbs * b.natAbs) = if nb then -((a * b).natAbs : Int) else ((a * b).natAbs : Int) := by
    intro nb
    cases nb
    · rw [signed_false, h]; rfl
    · rw [signed_true, h]; rfl
  rw [hs]
  clear hs h
  unfold prodS
  have sgn4 : (a < 0 ∧ b < 0 ∧ 0 ≤ a * b) ∨ (a < 0 ∧ ¬ b < 0 ∧ a * b ≤ 0) ∨ (¬ a < 0 ∧ b < 0 ∧ a * b ≤ 0) ∨ (¬ a < 0 ∧ ¬ b < 0 ∧ 0 ≤ a * b) := by
    by_cases ha : a < 0 <;> by_cases hb : b < 0
    · exact .inl ⟨ha, hb, Int.le_of_lt (Int.mul_pos_of_neg_of_neg ha hb)⟩
    · exact .inr (.inl ⟨ha, hb, Int.mul_nonpos_of_nonpos_of_nonneg (by omega) (by omega)⟩)
    · exact .inr (.inr (.inl ⟨ha, hb, Int.mul_nonpos_of_nonneg_of_nonpos (by omega) (by omega)⟩))
    · exact .inr (.inr (.inr ⟨ha, hb, Int.mul_nonneg (by omega) (by omega)⟩))
  rcases sgn4 with ⟨ha, hb, hx⟩ | ⟨ha, hb, hx⟩ | ⟨ha, hb, hx⟩ | ⟨ha, hb, hx⟩
  all_goals
    by_cases hc : c < 0
    · first
        | (have hn : negB a b c = true := by simp [negB, ha, hb, hc]
           rw [hn, if_pos hc, if_pos rfl]; omega)
        | (have hn : negB a b c = false := by simp [negB, ha, hb, hc]
           rw [hn, if_pos hc, if_neg (by decide)]; omega)
    · first
        | (have hn : negB a b c = true := by simp [negB, ha, hb, hc]
           rw [hn, if_neg hc, if_pos rfl]; omega)
        | (have hn : negB a b c = false := by simp [negB, ha, hb, hc]
           rw [hn, if_neg hc, if_neg (by decide)]; omega)

/-- what is asked of a result q: p the product, C the divisor -/
structure Rnd (m p q C : Int) : Prop where
  down : m = 0 → 0 ≤ p - q * C ∧ p - q * C < C
  up : m = 1 → p - q * C ≤ 0 ∧ -C < p - q * C
  away : m = 2 → 2 * ((p - q * C).natAbs : Int) < C ∨ (2 * ((p - q * C).natAbs : Int) = C ∧ (p.natAbs : Int) < (q.natAbs : Int) * C)
  even : m = 3 → 2 * ((p - q * C).natAbs : Int) < C ∨ (2 * ((p - q * C).natAbs : Int) = C ∧ q.tmod 2 = 0)

theorem tmod_two_even (x : Nat) (h : x % 2 = 0) : ((x : Int)).tmod 2 = 0 ∧ (-(x : Int)).tmod 2 = 0 := by
  have h1 : ((x : Int)).tmod 2 = 0 := by
    rw [Int.tmod_eq_emod_of_nonneg (by omega)]; omega
  exact ⟨h1, by rw [Int.neg_tmod, h1]; rfl⟩

theorem rnd_core (neg : Bool) (A C : Nat) (m : Int) (hC : 1 ≤ C) :
    Rnd m (signed neg A) (signed neg (A / C + (awayB (A / C) (A % C) C neg m).toNat)) C := by
  have hA : A = C * (A / C) + A % C := (Nat.div_add_mod _ _).symm
  have hR : A % C < C := Nat.mod_lt _ hC
  generalize A / C = Q at *
  generalize A % C = R at *
  have hX : (A : Int) = (Q : Int) * C + R := by rw [hA]; simp [Int.mul_comm]
  have f0 : signed false A - signed false (Q + 0) * C = (R : Int) := by rw [signed_false, signed_false, hX]; simp; omega
  have f1 : signed false A - signed false (Q + 1) * C = (R : Int) - C := by rw [signed_false, signed_false, hX]; simp [Int.add_mul]; omega
  have t0 : signed true A - signed true (Q + 0) * C = -(R : Int) := by rw [signed_true, signed_true, hX]; simp [Int.neg_mul]; omega
  have t1 : signed true A - signed true (Q + 1) * C = (C : Int) - R := by rw [signed_true, signed_true, hX, Int.neg_mul]; simp [Int.add_mul]; omega
  have hq1 : ((Q + 1 : Nat) : Int) * C = (Q : Int) * C + C := by simp [Int.add_mul]
  have ev : ∀ n : Nat, n % 2 = 0 → (signed neg n).tmod 2 = 0 := by
    intro n hn
    cases neg
    · exact (tmod_two_even n hn).1
    · exact (tmod_two_even n hn).2
  refine ⟨?_, ?_, ?_, ?_⟩
  · rintro rfl
    have ha : awayB Q R C neg 0 = (neg && decide (0 < R)) := rfl
    rw [ha]
    cases neg
    · show 0 ≤ signed false A - signed false (Q + 0) * C ∧ signed false A - signed false (Q + 0) * C < C
      rw [f0]; omega
    · by_cases h : 0 < R
      · rw [show (true && decide (0 < R)) = true by simp [h]]
        show 0 ≤ signed true A - signed true (Q + 1) * C ∧ signed true A - signed true (Q + 1) * C < C
        rw [t1]; omega
      · rw [show (true && decide (0 < R)) = false by simp [h]]
        show 0 ≤ signed true A - signed true (Q + 0) * C ∧ signed true A - signed true (Q + 0) * C < C
        rw [t0]; omega
  · rintro rfl
    have ha : awayB Q R C neg 1 = (!neg && decide (0 < R)) := rfl
    rw [ha]
    cases neg
    · by_cases h : 0 < R
      · rw [show (!false && decide (0 < R)) = true by simp [h]]
        show signed false A - signed false (Q + 1) * C ≤ 0 ∧ -(C : Int) < signed false A - signed false (Q + 1) * C
        rw [f1]; omega
      · rw [show (!false && decide (0 < R)) = false by simp [h]]
        show signed false A - signed false (Q + 0) * C ≤ 0 ∧ -(C : Int) < signed false A - signed false (Q + 0) * C
        rw [f0]; omega
    · show signed true A - signed true (Q + 0) * C ≤ 0 ∧ -(C : Int) < signed true A - signed true (Q + 0) * C
      rw [t0]; omega
  · rintro rfl
    have ha : awayB Q R C neg 2 = decide (C ≤ 2 * R) := rfl
    rw [ha, signed_abs, signed_abs]
    by_cases h : C ≤ 2 * R
    · rw [show decide (C ≤ 2 * R) = true by simp [h]]
      show _ ∨ (_ ∧ (A : Int) < ((Q + 1 : Nat) : Int) * C)
      rw [hq1]
      cases neg
      · show 2 * ((signed false A - signed false (Q + 1) * C).natAbs : Int) < C ∨ (2 * ((signed false A - signed false (Q + 1) * C).natAbs : Int) = C ∧ _)
        rw [f1]; omega
      · show 2 * ((signed true A - signed true (Q + 1) * C).natAbs : Int) < C ∨ (2 * ((signed true A - signed true (Q + 1) * C).natAbs : Int) = C ∧ _)
        rw [t1]; omega
    · rw [show decide (C ≤ 2 * R) = false by simp [h]]
      left
      cases neg
      · show 2 * ((signed false A - signed false (Q + 0) * C).natAbs : Int) < C
        rw [f0]; omega
      · show 2 * ((signed true A - signed true (Q + 0) * C).natAbs : Int) < C
        rw [t0]; omega
  · rintro rfl
    have ha : awayB Q R C neg 3 = (decide (C < 2 * R) || decide (2 * R = C) && decide (Q % 2 = 1)) := rfl
    rw [ha]
    by_cases h : C < 2 * R
    · rw [show (decide (C < 2 * R) || decide (2 * R = C) && decide (Q % 2 = 1)) = true by simp [h]]
      left
      cases neg
      · show 2 * ((signed false A - signed false (Q + 1) * C).natAbs : Int) < C
        rw [f1]; omega
      · show 2 * ((signed true A - signed true (Q + 1) * C).natAbs : Int) < C
        rw [t1]; omega
    · by_cases h1 : 2 * R = C
      · right
        rcases Nat.mod_two_eq_zero_or_one Q with hq | hq
        · rw [show (decide (C < 2 * R) || decide (2 * R = C) && decide (Q % 2 = 1)) = false by simp [h, hq]]
          refine ⟨?_, ev _ (by simpa using hq)⟩
          cases neg
          · show 2 * ((signed false A - signed false (Q + 0) * C).natAbs : Int) = C
            rw [f0]; omega
          · show 2 * ((signed true A - signed true (Q + 0) * C).natAbs : Int) = C
            rw [t0]; omega
        · rw [show (decide (C < 2 * R) || decide (2 * R = C) && decide (Q % 2 = 1)) = true by simp [h1, hq]]
          refine ⟨?_, ev _ (by show (Q + 1) % 2 = 0; omega)⟩
          cases neg
          · show 2 * ((signed false A - signed false (Q + 1) * C).natAbs : Int) = C
            rw [f1]; omega
          · show 2 * ((signed true A - signed true (Q + 1) * C).natAbs : Int) = C
            rw [t1]; omega
      · left
        rw [show (decide (C < 2 * R) || decide (2 * R = C) && decide (Q % 2 = 1)) = false by simp [h, h1]]
        cases neg
        · show 2 * ((signed false A - signed false (Q + 0) * C).natAbs : Int) < C
          rw [f0]; omega
        · show 2 * ((signed true A - signed true (Q + 0) * C).natAbs : Int) < C
          rw [t0]; omega

/-- Scale's result: too large, or a number on the right side -/
theorem rounds {a b c m : Int} (ha : -1073741824 ≤ a ∧ a ≤ 1073741824) (hb : -1073741824 ≤ b ∧ b ≤ 1073741824) (hc : inRB c = true) (hc0 : c ≠ 0) (hm : 0 ≤ m ∧ m ≤ 3) :
    (scaleS a b c m = (0, 2) ∧ 1125899906842624 ≤ (prodS a b c).natAbs / c.natAbs) ∨
    (∃ q, scaleS a b c m = (q, 0) ∧ inRB q = true ∧ q.natAbs ≤ (prodS a b c).natAbs / c.natAbs + 1 ∧ Rnd m (prodS a b c) q (c.natAbs : Int)) := by
  have hp : (prodS a b c).natAbs = a.natAbs * b.natAbs := by
    rw [prod_signed, signed_abs]
  have hok : okScale a b c m = true := by
    have h1 : inRB a = true := inRB_true.2 (by omega)
    have h2 : inRB b = true := inRB_true.2 (by omega)
    simp [okScale, h1, h2, hc, hc0, hm]
  have hC : 1 ≤ c.natAbs := by omega
  have core := rnd_core (negB a b c) (a.natAbs * b.natAbs) c.natAbs m hC
  rw [← prod_signed] at core
  rw [hp]
  have e : scaleS a b c m = if a.natAbs * b.natAbs / c.natAbs ≤ 1125899906842624 then chkS (signed (negB a b c) (a.natAbs * b.natAbs / c.natAbs + (awayB (a.natAbs * b.natAbs / c.natAbs) (a.natAbs * b.natAbs % c.natAbs) c.natAbs (negB a b c) m).toNat)) else (0, 2) := by
    unfold scaleS; rw [if_pos hok]
  generalize a.natAbs * b.natAbs / c.natAbs = Q at *
  generalize a.natAbs * b.natAbs % c.natAbs = R at *
  have kt : (awayB Q R c.natAbs (negB a b c) m).toNat ≤ 1 := by cases awayB Q R c.natAbs (negB a b c) m <;> decide
  generalize (awayB Q R c.natAbs (negB a b c) m).toNat = t at *
  by_cases hQ : Q ≤ 1125899906842624
  · rw [if_pos hQ] at e
    have habs := signed_abs (negB a b c) (Q + t)
    cases hin : inRB (signed (negB a b c) (Q + t))
    · left
      rw [inRB_false] at hin
      refine ⟨?_, by omega⟩
      rw [e]
      have : inRB (signed (negB a b c) (Q + t)) = false := by rw [inRB_false]; exact hin
      simp [chkS, this]
    · right
      exact ⟨_, by rw [e]; simp [chkS, hin], hin, by omega, core⟩
  · left
    rw [if_neg hQ] at e
    exact ⟨e, by omega⟩
end Go.Proofs.Ytejokpbmdhmhfaa
