/-
  Plain: what the reading loop of package clock makes of the bytes of a string; the library's decimal digits.
-/
import Derived.Test.YtjmbbhhfbdjbdaaDoorClkPlain4
import Derived.Lib.ItoaNum
import Derived.Lib.ItoaMem
namespace Go.Proofs.YtjmbbhhfbdjbdaaDoor

/-- the seconds that a number of the text counts -/
def unitC : Nat → Int | 0 => 86400 | 1 => 3600 | 2 => 60 | _ => 1
/-- what the loop makes of the rest of the bytes: seconds so far, the number so far, its place -/
def rdT : List UInt8 → Int → Int → Nat → Int
  | [], t, n, p => t + n * unitC p
  | c :: r, t, n, p =>
    if 48 ≤ c.toNat ∧ c.toNat ≤ 57 ∧ n ≤ 36524 then rdT r t (10 * n + ((c.toNat : Int) - 48)) p
    else if (c.toNat = 32 ∨ c.toNat = 58) ∧ p + 1 < 4 then rdT r (t + n * unitC p) 0 (p + 1) else t + n * unitC p
theorem rdT_digit {c : UInt8} {r : List UInt8} {t n : Int} {p : Nat} (h : 48 ≤ c.toNat ∧ c.toNat ≤ 57 ∧ n ≤ 36524) : rdT (c :: r) t n p = rdT r t (10 * n + ((c.toNat : Int) - 48)) p := by
  rw [rdT, if_pos h]
theorem rdT_sep {c : UInt8} {r : List UInt8} {t n : Int} {p : Nat} (h : c.toNat = 32 ∨ c.toNat = 58) (hp : p + 1 < 4) : rdT (c :: r) t n p = rdT r (t + n * unitC p) 0 (p + 1) := by
  rw [rdT, if_neg (by omega), if_pos ⟨h, hp⟩]
theorem rdT_stop {c : UInt8} {r : List UInt8} {t n : Int} {p : Nat} (h1 : ¬ (48 ≤ c.toNat ∧ c.toNat ≤ 57 ∧ n ≤ 36524)) (h2 : ¬ ((c.toNat = 32 ∨ c.toNat = 58) ∧ p + 1 < 4)) : rdT (c :: r) t n p = t + n * unitC p := by
  rw [rdT, if_neg h1, if_neg h2]
theorem rdA_ge : ∀ (l : List UInt8) (n : Nat), n ≤ rdA l n
  | [], n => Nat.le_refl n
  | c :: r, n => by
    show n ≤ rdA r (if isD c then 10 * n + (c.toNat - 48) else n)
    refine Nat.le_trans ?_ (rdA_ge r _)
    split <;> omega
theorem rdT_digits : ∀ (l r : List UInt8) (t : Int) (n p : Nat), l.all isD = true → rdA l n ≤ 36524 → rdT (l ++ r) t n p = rdT r t (rdA l n : Nat) p
  | [], r, t, n, p, _, _ => rfl
  | c :: l, r, t, n, p, hd, hn => by
    have hc : isD c = true ∧ l.all isD = true := by simpa using hd
    have hc1 : 48 ≤ c.toNat ∧ c.toNat ≤ 57 := by have := hc.1; rw [isD_is] at this; simpa using this
    have e : rdA (c :: l) n = rdA l (10 * n + (c.toNat - 48)) := by simp [rdA, hc.1]
    rw [e] at hn ⊢
    have := rdA_ge l (10 * n + (c.toNat - 48))
    rw [List.cons_append, rdT_digit ⟨hc1.1, hc1.2, by omega⟩]
    have e2 : 10 * (n : Int) + ((c.toNat : Int) - 48) = ((10 * n + (c.toNat - 48) : Nat) : Int) := by omega
    rw [e2]
    exact rdT_digits l r t _ p hc.2 hn
theorem rdT_dec (N w : Nat) (r : List UInt8) (t : Int) (p : Nat) (hN : N ≤ 36524) : rdT (decL N w ++ r) t 0 p = rdT r t (N : Nat) p := by
  have hd : (decL N w).all isD = true := by rw [List.all_eq_true]; exact low_digits _ _
  have hv := numA_dec (n := N) w (by omega)
  unfold numA at hv
  rw [if_pos hd] at hv
  have hv' : rdA (decL N w) 0 = N := by omega
  have := rdT_digits (decL N w) r t 0 p hd (by omega)
  rw [hv'] at this
  exact this
/-- the text of a moment is read as the moment -/
theorem rdT_fmt {t : Int} (h : mB t = true) : rdT (fmtC t) 0 0 0 = t := by
  have hb := mB_true.1 h
  unfold fmtC
  simp only [List.append_assoc]
  rw [rdT_dec _ _ _ _ _ (by omega)]
  rw [List.cons_append, List.nil_append, rdT_sep (Or.inl rfl) (by omega), rdT_dec _ _ _ _ _ (by omega)]
  rw [List.cons_append, List.nil_append, rdT_sep (Or.inr rfl) (by omega), rdT_dec _ _ _ _ _ (by omega)]
  rw [List.cons_append, List.nil_append, rdT_sep (Or.inr rfl) (by omega)]
  have := rdT_dec (t % 60).toNat 2 [] (0 + ((t / 86400).toNat : Int) * unitC 0 + ((t % 86400 / 3600).toNat : Int) * unitC (0 + 1) + ((t % 86400 / 60 % 60).toNat : Int) * unitC (0 + 1 + 1)) 3 (by omega)
  rw [List.append_nil] at this
  rw [this]
  simp only [rdT, unitC]
  omega

/-- the library's digits -/
theorem low_snoc (k m : Nat) : low (k + 1) m = low k (m / 10) ++ [dg m] := rfl
theorem lib_dg (m : Nat) : UInt8.ofNat (48 + m % 10) = dg m := rfl
theorem lib_decimal (u : Nat) : ∀ k, 1 ≤ k → u < 10 ^ k → (k = 1 ∨ 10 ^ (k - 1) ≤ u) → Lib.decDigits u = low k u := by
  induction u using Nat.strongRecOn with
  | ind u ih =>
    intro k h1 h2 h3
    rw [Lib.decDigits]
    split
    · rename_i h
      have hk : k = 1 := by
        rcases h3 with h3 | h3
        · exact h3
        · apply Classical.byContradiction
          intro hk
          have : 10 ^ 1 ≤ 10 ^ (k - 1) := Nat.pow_le_pow_right (by omega) (by omega)
          omega
      subst hk
      rw [low_snoc, ← lib_dg, Nat.mod_eq_of_lt h]
      rfl
    · rename_i h
      obtain ⟨j, rfl⟩ : ∃ j, k = j + 1 + 1 := by
        have : k ≠ 1 := by intro e; subst e; omega
        exact ⟨k - 2, by omega⟩
      rw [low_snoc, ← lib_dg, ih (u / 10) (by omega) (j + 1) (by omega)]
      · rw [Nat.pow_succ] at h2; omega
      · rcases h3 with h3 | h3
        · omega
        · by_cases hj : j = 0
          · left; omega
          · right
            rw [show j + 1 + 1 - 1 = (j + 1 - 1) + 1 by omega, Nat.pow_succ] at h3
            omega
theorem lib_nd {u : Nat} (h0 : 0 < u) (h : u ≤ 1125899906842624) : 1 ≤ nd 20 u ∧ u < 10 ^ (nd 20 u) ∧ 10 ^ (nd 20 u - 1) ≤ u := by
  have a := nd_le 20 u (nd 20 u) (lt20 h)
  have b := nd_le 20 u (nd 20 u - 1) (lt20 h)
  have c := nd_le 20 u 0 (lt20 h)
  have e0 : ¬ nd 20 u ≤ 0 := by
    intro hc
    have := c.1 hc
    simp at this
    omega
  have p1 : 0 < 10 ^ (nd 20 u) := Nat.pow_pos (by omega)
  have p2 : 0 < 10 ^ (nd 20 u - 1) := Nat.pow_pos (by omega)
  have a' := a.1 (Nat.le_refl _)
  refine ⟨by omega, ?_, ?_⟩
  · rcases (Nat.div_eq_zero_iff).1 a' with h | h <;> omega
  · apply Classical.byContradiction
    intro hc
    have := b.2 (Nat.div_eq_of_lt (by omega))
    omega
theorem lib_decL (u : Nat) (h : u ≤ 1125899906842624) : Lib.decDigits u = decL u 1 := by
  unfold decL
  by_cases h0 : u = 0
  · subst h0
    rw [Lib.decDigits_one (by omega)]
    rfl
  · obtain ⟨h1, h2, h3⟩ := lib_nd (Nat.pos_of_ne_zero h0) h
    rw [show max (nd 20 u) 1 = nd 20 u by omega]
    exact lib_decimal u _ h1 h2 (Or.inr h3)
theorem lib_itoa (n : Int) (h0 : 0 ≤ n) (h : n ≤ 1125899906842624) : Lib.itoa n = decL n.toNat 1 := by
  obtain ⟨u, rfl⟩ := Int.eq_ofNat_of_zero_le h0
  rw [Lib.itoa_nonneg, lib_decL u (by omega)]
  rfl
theorem lib_two (n : Nat) (h : n < 100) : Lib.decDigits (n / 10) ++ Lib.decDigits (n % 10) = decL n 2 := by
  rw [Lib.decDigits_one (by omega), Lib.decDigits_one (by omega)]
  have h2 : nd 20 n ≤ 2 := (nd_le 20 n 2 (lt20 (by omega))).2 (Nat.div_eq_of_lt h)
  unfold decL
  rw [show max (nd 20 n) 2 = 0 + 1 + 1 by omega, low_snoc, low_snoc, ← lib_dg, ← lib_dg, show n / 10 % 10 = n / 10 by omega]
  rfl
end Go.Proofs.YtjmbbhhfbdjbdaaDoor
