/-
  Plain mathematics for package num: decimal forms and their reading.
-/
import Derived.WalkKit
namespace Go.Proofs.YtdkhajpkldjlmaaDoor

/-- the byte of a digit -/
def dg (n : Nat) : UInt8 := UInt8.ofNat (48 + n % 10)
/-- the last k digits of m -/
def low : Nat → Nat → List UInt8
  | 0, _ => []
  | k + 1, m => low k (m / 10) ++ [dg m]
/-- the last k digits of m, a full stop ahead of the last p if there are more -/
def txt (p k m : Nat) : List UInt8 := if 0 < p ∧ p < k then low (k - p) (m / 10 ^ p) ++ 46 :: low p m else low k m
/-- the number of digits of m, none for 0 -/
def nd : Nat → Nat → Nat
  | 0, _ => 0
  | f + 1, m => if m = 0 then 0 else nd f (m / 10) + 1
def wid (p m : Nat) : Nat := max (p + 1) (nd 20 m)
def sgn (n : Int) : List UInt8 := if n < 0 then [45] else []
/-- the decimal form -/
def formS (n : Int) (p : Nat) : List UInt8 := sgn n ++ txt p (wid p n.natAbs) n.natAbs

theorem low_left (k : Nat) : ∀ m, low (k + 1) m = dg (m / 10 ^ k) :: low k m := by
  induction k with
  | zero => intro m; simp [low]
  | succ k ih =>
    intro m
    rw [low, ih (m / 10), low]
    rw [Nat.div_div_eq_div_mul, List.cons_append]
    rw [show 10 * 10 ^ k = 10 ^ (k + 1) by rw [Nat.pow_succ]; omega]
theorem low_length (k : Nat) : ∀ m, (low k m).length = k := by
  induction k with
  | zero => intro m; rfl
  | succ k ih => intro m; rw [low_left]; simp [ih]
theorem txt_stop (p k m : Nat) (h : k = p) (hp : 0 < p) : txt p (k + 1) m = dg (m / 10 ^ k) :: 46 :: txt p k m := by
  subst h
  unfold txt
  rw [if_pos ⟨hp, by omega⟩, if_neg (by omega)]
  have : k + 1 - k = 1 := by omega
  rw [this]
  simp [low, dg]
theorem txt_digit (p k m : Nat) (h : ¬ (k = p ∧ 0 < p)) : txt p (k + 1) m = dg (m / 10 ^ k) :: txt p k m := by
  unfold txt
  by_cases h1 : 0 < p ∧ p < k
  · rw [if_pos ⟨h1.1, by omega⟩, if_pos h1]
    have e : k + 1 - p = (k - p) + 1 := by omega
    rw [e, low_left, Nat.div_div_eq_div_mul, ← Nat.pow_add]
    have e2 : p + (k - p) = k := by omega
    rw [e2]; rfl
  · rw [if_neg (by omega), if_neg h1, low_left]
theorem nd_le (f : Nat) : ∀ m k, m < 10 ^ f → (nd f m ≤ k ↔ m / 10 ^ k = 0) := by
  induction f with
  | zero => intro m k h; have : m = 0 := by simpa using h
            subst this; simp [nd]
  | succ f ih =>
    intro m k h
    unfold nd
    by_cases h0 : m = 0
    · subst h0; simp
    · rw [if_neg h0]
      cases k with
      | zero => simp [h0]
      | succ j =>
        have hm : m / 10 < 10 ^ f := by rw [Nat.pow_succ] at h; omega
        have := ih (m / 10) j hm
        rw [Nat.div_div_eq_div_mul, show 10 * 10 ^ j = 10 ^ (j + 1) by rw [Nat.pow_succ]; omega] at this
        rw [← this]; omega
theorem lt20 {m : Nat} (h : m ≤ 1125899906842624) : m < 10 ^ 20 := Nat.lt_of_le_of_lt h (by decide)
theorem wid_gt (p m : Nat) : p < wid p m := by unfold wid; omega
theorem wid_zero {p m : Nat} (h : m ≤ 1125899906842624) : m / 10 ^ wid p m = 0 := (nd_le 20 m _ (lt20 h)).1 (by unfold wid; omega)
theorem wid_first {p m k : Nat} (h : m ≤ 1125899906842624) (hk : k < wid p m) : k ≤ p ∨ 0 < m / 10 ^ k := by
  have := nd_le 20 m k (lt20 h)
  unfold wid at hk
  by_cases hp : k ≤ p
  · exact .inl hp
  · right
    have h2 : ¬ nd 20 m ≤ k := by omega
    rw [this] at h2; exact Nat.pos_of_ne_zero h2
theorem wid_le {p m : Nat} (h : m ≤ 1125899906842624) (hp : p ≤ 6) : wid p m ≤ 16 := by
  have := (nd_le 20 m 16 (lt20 h)).2 (Nat.div_eq_of_lt (Nat.lt_of_le_of_lt h (by decide)))
  unfold wid; omega

/-! ### reading -/
def isD (c : UInt8) : Bool := decide (48 ≤ c.toNat ∧ c.toNat ≤ 57)
/-- the number that the digits form, everything else passed over -/
def rdA : List UInt8 → Nat → Nat
  | [], n => n
  | c :: r, n => rdA r (if isD c then 10 * n + (c.toNat - 48) else n)
/-- the same, until the number is too large -/
def rd : List UInt8 → Nat → Nat
  | [], n => n
  | c :: r, n => if n ≤ 1125899906842624 then rd r (if isD c then 10 * n + (c.toNat - 48) else n) else n
def digits (l : List UInt8) : Prop := ∀ c ∈ l, isD c = true ∨ c = 46

theorem rdA_append (a b : List UInt8) : ∀ n, rdA (a ++ b) n = rdA b (rdA a n) := by
  induction a with
  | nil => intro n; rfl
  | cons c r ih => intro n; simp only [List.cons_append, rdA]; exact ih _
theorem rdA_le (l : List UInt8) : ∀ n, n ≤ rdA l n := by
  induction l with
  | nil => intro n; exact Nat.le_refl _
  | cons c r ih =>
    intro n
    cases hd : isD c
    · simp only [rdA, hd, Bool.false_eq_true, if_false]; exact ih n
    · simp only [rdA, hd, if_true]
      have := ih (10 * n + (c.toNat - 48)); omega
theorem rd_eq (l : List UInt8) : ∀ n, rdA l n ≤ 1125899906842624 → rd l n = rdA l n := by
  induction l with
  | nil => intro n _; rfl
  | cons c r ih =>
    intro n h
    have h1 := rdA_le (c :: r) n
    simp only [rdA] at h h1
    rw [rd, if_pos (by omega), rdA]
    exact ih _ h
theorem dg_toNat (n : Nat) : (dg n).toNat = 48 + n % 10 := by
  unfold dg
  rw [UInt8.toNat_ofNat']; omega
theorem dg_isD (n : Nat) : isD (dg n) = true := by
  unfold isD; rw [dg_toNat]; simp; omega
theorem low_digits (k : Nat) : ∀ m, ∀ c ∈ low k m, isD c = true := by
  induction k with
  | zero => intro m c h; cases h
  | succ k ih =>
    intro m c h
    rw [low, List.mem_append] at h
    rcases h with h | h
    · exact ih _ c h
    · simp at h; subst h; exact dg_isD _
theorem rdA_low (k : Nat) : ∀ m n, rdA (low k m) n = n * 10 ^ k + m % 10 ^ k := by
  induction k with
  | zero => intro m n; simp [low, rdA, Nat.mod_one]
  | succ k ih =>
    intro m n
    rw [low, rdA_append, ih (m / 10) n]
    simp only [rdA, dg_isD, if_true, dg_toNat]
    rw [Nat.pow_succ, Nat.mul_comm (10 ^ k) 10, Nat.mod_mul, Nat.mul_left_comm]
    omega
theorem txt_digits (p k m : Nat) : digits (txt p k m) := by
  intro c h
  unfold txt at h
  split at h
  · rw [List.mem_append, List.mem_cons] at h
    rcases h with h | h | h
    · exact .inl (low_digits _ _ c h)
    · exact .inr h
    · exact .inl (low_digits _ _ c h)
  · exact .inl (low_digits _ _ c h)
theorem rdA_txt (p k m : Nat) (h : m / 10 ^ k = 0) : rdA (txt p k m) 0 = m := by
  have hm : m < 10 ^ k := by
    rcases (Nat.div_eq_zero_iff).1 h with h | h
    · have := Nat.pow_pos (n := k) (show 0 < 10 by omega); omega
    · exact h
  unfold txt
  split
  · rename_i hp
    rw [rdA_append]
    have e1 : isD 46 = false := by decide
    simp only [rdA, e1, Bool.false_eq_true, if_false, rdA_low, Nat.zero_mul, Nat.zero_add]
    have h1 : m / 10 ^ p % 10 ^ (k - p) = m / 10 ^ p := by
      apply Nat.mod_eq_of_lt
      rw [Nat.div_lt_iff_lt_mul (Nat.pow_pos (by omega)), ← Nat.pow_add]
      rw [show k - p + p = k by omega]
      exact hm
    rw [h1, Nat.mul_comm]
    exact Nat.div_add_mod m (10 ^ p)
  · rw [rdA_low, Nat.zero_mul, Nat.zero_add, Nat.mod_eq_of_lt hm]

/-- what the reference reads -/
def cand (l : List UInt8) : Int := if l.head? = some 45 then -(rd l 0 : Int) else rd l 0
theorem txt_cons (p k m : Nat) (h : 0 < k) : ∃ c r, txt p k m = c :: r ∧ isD c = true := by
  obtain ⟨j, rfl⟩ : ∃ j, k = j + 1 := ⟨k - 1, by omega⟩
  by_cases hj : j = p ∧ 0 < p
  · exact ⟨_, _, txt_stop p j m hj.1 hj.2, dg_isD _⟩
  · exact ⟨_, _, txt_digit p j m hj, dg_isD _⟩
theorem cand_form (n : Int) (p : Nat) (h : n.natAbs ≤ 1125899906842624) : cand (formS n p) = n := by
  obtain ⟨c, r, hc, hd⟩ := txt_cons p (wid p n.natAbs) n.natAbs (Nat.lt_of_le_of_lt (Nat.zero_le _) (wid_gt _ _))
  have hv := rdA_txt p (wid p n.natAbs) n.natAbs (wid_zero h)
  have e45 : isD 45 = false := by decide
  unfold cand formS sgn
  by_cases hn : n < 0
  · rw [if_pos hn]
    have h1 : rd ([45] ++ txt p (wid p n.natAbs) n.natAbs) 0 = n.natAbs := by
      rw [rd_eq]
      · simp only [List.cons_append, List.nil_append, rdA, e45, Bool.false_eq_true, if_false]; exact hv
      · simp only [List.cons_append, List.nil_append, rdA, e45, Bool.false_eq_true, if_false]; omega
    rw [h1]
    simp; omega
  · rw [if_neg hn, List.nil_append]
    have h1 : rd (txt p (wid p n.natAbs) n.natAbs) 0 = n.natAbs := by rw [rd_eq _ _ (by omega)]; exact hv
    rw [h1, hc]
    have : c ≠ 45 := by rintro rfl; rw [e45] at hd; cases hd
    simp [this]; omega

/-- what the program reads: none if it meets anything but digits, full stops and a leading minus sign, or the number gets too large -/
def rc : List UInt8 → Bool → Nat → Bool → Option Int
  | [], _, n, neg => some (if neg then -(n : Int) else n)
  | c :: r, first, n, neg =>
    if isD c then (if 10 * n + (c.toNat - 48) ≤ 1125899906842624 then rc r false (10 * n + (c.toNat - 48)) neg else none)
    else if c = 45 ∧ first = true then rc r false n true
    else if c = 46 then rc r false n neg else none
theorem rc_digits (l : List UInt8) : ∀ first n neg, digits l → rdA l n ≤ 1125899906842624 → rc l first n neg = some (if neg then -(rdA l n : Int) else rdA l n) := by
  induction l with
  | nil => intro first n neg _ _; rfl
  | cons c r ih =>
    intro first n neg hd h
    have hr : digits r := fun x hx => hd x (List.mem_cons_of_mem _ hx)
    simp only [rdA] at h
    simp only [rc, rdA]
    rcases hd c List.mem_cons_self with h1 | h1
    · rw [h1] at h ⊢
      simp only [if_true] at h ⊢
      have := rdA_le r (10 * n + (c.toNat - 48))
      rw [if_pos (by omega)]
      exact ih false _ neg hr h
    · subst h1
      have e1 : isD 46 = false := by decide
      rw [e1] at h ⊢
      simp only [Bool.false_eq_true, if_false] at h ⊢
      rw [if_neg (by rintro ⟨h, _⟩; cases h)]
      simp only [if_true]
      exact ih false _ neg hr h
theorem rc_form (n : Int) (p : Nat) (h : n.natAbs ≤ 1125899906842624) : rc (formS n p) true 0 false = some n := by
  have hv := rdA_txt p (wid p n.natAbs) n.natAbs (wid_zero h)
  unfold formS sgn
  by_cases hn : n < 0
  · rw [if_pos hn]
    have e45 : isD 45 = false := by decide
    simp only [List.cons_append, List.nil_append, rc, e45, Bool.false_eq_true, if_false, and_self, if_true]
    rw [rc_digits _ _ _ _ (txt_digits _ _ _) (by omega), hv]
    simp; omega
  · rw [if_neg hn, List.nil_append, rc_digits _ _ _ _ (txt_digits _ _ _) (by omega), hv]
    simp; omega
theorem rc_range (l : List UInt8) : ∀ first n neg v, n ≤ 1125899906842624 → rc l first n neg = some v → v.natAbs ≤ 1125899906842624 := by
  induction l with
  | nil => intro first n neg v hn h; simp only [rc, Option.some.injEq] at h; subst h; cases neg <;> simp <;> omega
  | cons c r ih =>
    intro first n neg v hn h
    simp only [rc] at h
    split at h
    · split at h
      · exact ih _ _ _ _ (by assumption) h
      · cases h
    · split at h
      · exact ih _ _ _ _ hn h
      · split at h
        · exact ih _ _ _ _ hn h
        · cases h

/-- what Parse returns, as the reference finds it -/
def parseL (l : List UInt8) (p : Nat) : Int × Int := if (cand l).natAbs ≤ 1125899906842624 ∧ formS (cand l) p = l then (cand l, 0) else (0, 3)
theorem parse_none {l : List UInt8} {p : Nat} (h : rc l true 0 false = none) : parseL l p = (0, 3) := by
  unfold parseL
  rw [if_neg]
  rintro ⟨h1, h2⟩
  have := rc_form (cand l) p h1
  rw [h2, h] at this; cases this
theorem parse_no {l : List UInt8} {p : Nat} {n : Int} (h : rc l true 0 false = some n) (hf : formS n p ≠ l) : parseL l p = (0, 3) := by
  unfold parseL
  rw [if_neg]
  rintro ⟨h1, h2⟩
  have := rc_form (cand l) p h1
  rw [h2, h] at this
  injection this with this
  subst this
  exact hf h2
theorem parse_yes {l : List UInt8} {p : Nat} {n : Int} (h : rc l true 0 false = some n) (hf : formS n p = l) : parseL l p = (n, 0) := by
  have hn := rc_range l true 0 false n (by omega) h
  have hc := cand_form n p hn
  rw [hf] at hc
  unfold parseL
  rw [hc, if_pos ⟨hn, hf⟩]
theorem parse_form (n : Int) (p : Nat) (h : n.natAbs ≤ 1125899906842624) : parseL (formS n p) p = (n, 0) := parse_yes (rc_form n p h) rfl
end Go.Proofs.YtdkhajpkldjlmaaDoor
