/-
  Plain mathematics for package num: long division by bits, rounding, greatest common divisors.
-/
import Derived.WalkKit
namespace Go.Proofs.Ytejokpbmdhmhfaa

/-- one step of the long division of a times the bits of b, the quotient and the rest of a by c added -/
theorem div_step (a P c t : Nat) (hc : 0 < c) :
    (2 * (a * P / c) + t * (a / c)) + (2 * (a * P % c) + t * (a % c)) / c = a * (2 * P + t) / c ∧
    (2 * (a * P % c) + t * (a % c)) % c = a * (2 * P + t) % c := by
  have h1 : a * P = c * (a * P / c) + a * P % c := (Nat.div_add_mod _ _).symm
  have h2 : a = c * (a / c) + a % c := (Nat.div_add_mod _ _).symm
  have h3 : a * (2 * P + t) = (2 * (a * P % c) + t * (a % c)) + c * (2 * (a * P / c) + t * (a / c)) := by
    generalize a * P / c = q at *
    generalize a * P % c = r at *
    generalize a / c = q2 at *
    generalize a % c = r2 at *
    calc a * (2 * P + t) = 2 * (a * P) + t * a := by rw [Nat.mul_add, Nat.mul_left_comm, Nat.mul_comm t a]
      _ = 2 * (c * q + r) + t * (c * q2 + r2) := by rw [← h1, ← h2]
      _ = _ := by simp only [Nat.mul_add, Nat.mul_left_comm c]; omega
  rw [h3]
  constructor
  · rw [Nat.add_mul_div_left _ _ hc, Nat.add_comm]
  · rw [Nat.add_mul_mod_self_left]
/-- the same, b itself added -/
theorem div_step' (b P c t : Nat) (hc : 0 < c) :
    2 * (P * b / c) + (2 * (P * b % c) + t * b) / c = (2 * P + t) * b / c ∧
    (2 * (P * b % c) + t * b) % c = (2 * P + t) * b % c := by
  have h1 : P * b = c * (P * b / c) + P * b % c := (Nat.div_add_mod _ _).symm
  have h3 : (2 * P + t) * b = (2 * (P * b % c) + t * b) + c * (2 * (P * b / c)) := by
    generalize P * b / c = q at *
    generalize P * b % c = r at *
    calc (2 * P + t) * b = 2 * (P * b) + t * b := by rw [Nat.add_mul, Nat.mul_assoc]
      _ = 2 * (c * q + r) + t * b := by rw [← h1]
      _ = _ := by simp only [Nat.mul_add, Nat.mul_left_comm c]; omega
  rw [h3]
  constructor
  · rw [Nat.add_mul_div_left _ _ hc, Nat.add_comm]
  · rw [Nat.add_mul_mod_self_left]

theorem bits_prefix (b k : Nat) : b / 2 ^ k = 2 * (b / 2 ^ (k + 1)) + b / 2 ^ k % 2 := by
  rw [Nat.pow_succ, ← Nat.div_div_eq_div_mul]; omega
theorem and_pow (b k : Nat) : (b &&& 2 ^ k) = (b / 2 ^ k % 2) * 2 ^ k := by
  have ht : b.testBit k = decide (b / 2 ^ k % 2 = 1) := Nat.testBit_eq_decide_div_mod_eq
  apply Nat.eq_of_testBit_eq
  intro i
  rw [Nat.testBit_and, Nat.testBit_two_pow]
  rcases Nat.mod_two_eq_zero_or_one (b / 2 ^ k) with h | h
  · rw [h] at ht ⊢
    by_cases hi : k = i
    · subst hi; simp [ht]
    · simp [hi]
  · rw [h] at ht ⊢
    rw [Nat.one_mul, Nat.testBit_two_pow]
    by_cases hi : k = i
    · subst hi; simp [ht]
    · simp [hi]
theorem prefix_le (a b c k : Nat) : a * (b / 2 ^ k) / c ≤ a * b / c :=
  Nat.div_le_div_right (Nat.mul_le_mul_left _ (Nat.div_le_self _ _))
theorem prefix_le' (a b c k : Nat) : b / 2 ^ k * a / c ≤ b * a / c :=
  Nat.div_le_div_right (Nat.mul_le_mul_right _ (Nat.div_le_self _ _))

end Go.Proofs.Ytejokpbmdhmhfaa
