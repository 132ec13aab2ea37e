/-
  Plain mathematics for package clock: the text of a moment and its reading.
-/
import Derived.Test.YtjmbbhhfbdjbdaaDoorStr
import Derived.Test.YtjmbbhhfbdjbdaaDoorClkA
namespace Go.Proofs.YtjmbbhhfbdjbdaaDoor

/-- n in decimal, with at least w digits -/
def decL (n w : Nat) : List UInt8 := low (max (nd 20 n) w) n
/-- the text of a moment -/
def fmtC (t : Int) : List UInt8 := decL (t / 86400).toNat 1 ++ [32] ++ decL (t % 86400 / 3600).toNat 2 ++ [58] ++ decL (t % 86400 / 60 % 60).toNat 2 ++ [58] ++ decL (t % 60).toNat 2
/-- what Format returns -/
def formatC (t : Int) : List UInt8 × Int := if mB t then (fmtC t, 0) else ([], 1)
theorem formatC_yes {t : Int} (h : mB t = true) : formatC t = (fmtC t, 0) := by simp [formatC, h]
theorem formatC_no {t : Int} (h : mB t = false) : formatC t = ([], 1) := by simp [formatC, h]

/-- the value of digits, counted on from n; -1 where another byte is among them -/
def numA (l : List UInt8) (n : Nat) : Int := if l.all isD then (rdA l n : Int) else -1
theorem numA_digit {c : UInt8} {r : List UInt8} {n : Nat} (h : 48 ≤ c.toNat ∧ c.toNat ≤ 57) : numA (c :: r) n = numA r (10 * n + (c.toNat - 48)) := by
  have e : isD c = true := by rw [isD_is]; simpa using h
  simp [numA, rdA, e]
theorem numA_else {c : UInt8} {r : List UInt8} {n : Nat} (h : ¬ (48 ≤ c.toNat ∧ c.toNat ≤ 57)) : numA (c :: r) n = -1 := by
  have e : isD c = false := by rw [isD_is]; simpa using h
  simp [numA, e]
theorem rdA_lt (l : List UInt8) : ∀ n, rdA l n < (n + 1) * 10 ^ l.length := by
  induction l with
  | nil => intro n; simp [rdA]
  | cons c r ih =>
    intro n
    have h1 := ih (10 * n + (c.toNat - 48))
    have h2 := ih n
    have h3 : (if isD c then 10 * n + (c.toNat - 48) else n) + 1 ≤ (n + 1) * 10 := by
      split
      · rename_i hd
        rw [isD_is] at hd
        have := of_decide_eq_true hd
        omega
      · omega
    show rdA r (if isD c then 10 * n + (c.toNat - 48) else n) < _
    refine Nat.lt_of_lt_of_le (ih _) ?_
    rw [List.length_cons, Nat.pow_succ, Nat.mul_comm (10 ^ r.length) 10, ← Nat.mul_assoc]
    exact Nat.mul_le_mul_right _ h3
theorem numA_bounds {l : List UInt8} {k : Nat} (h : l.length = k) : -1 ≤ numA l 0 ∧ numA l 0 < ((10 ^ k : Nat) : Int) := by
  have h1 := rdA_lt l 0
  rw [h] at h1
  have h2 : 0 < 10 ^ k := Nat.pow_pos (by omega)
  unfold numA
  split
  · constructor
    · omega
    · have : rdA l 0 < 10 ^ k := by omega
      exact_mod_cast this
  · constructor
    · omega
    · have : (0 : Int) < ((10 ^ k : Nat) : Int) := by exact_mod_cast h2
      omega
theorem decL_length (n w : Nat) : (decL n w).length = max (nd 20 n) w := by unfold decL; rw [low_length]
theorem numA_dec {n : Nat} (w : Nat) (hn : n ≤ 1125899906842624) : numA (decL n w) 0 = n := by
  have hd : (decL n w).all isD = true := by rw [List.all_eq_true]; exact low_digits _ _
  have h0 : n / 10 ^ (max (nd 20 n) w) = 0 := (nd_le 20 n _ (lt20 hn)).1 (Nat.le_max_left _ _)
  have hlt : n < 10 ^ (max (nd 20 n) w) := by
    rcases (Nat.div_eq_zero_iff).1 h0 with h | h
    · have := Nat.pow_pos (n := max (nd 20 n) w) (show 0 < 10 by omega); omega
    · exact h
  unfold numA
  rw [if_pos hd]
  unfold decL
  rw [rdA_low, Nat.zero_mul, Nat.zero_add, Nat.mod_eq_of_lt hlt]
theorem decL_two {n : Nat} (hn : n < 100) : (decL n 2).length = 2 := by
  have := (nd_le 20 n 2 (lt20 (by omega))).2 (Nat.div_eq_of_lt hn)
  rw [decL_length]; omega
theorem decL_day {n : Nat} (hn : n < 100000) : 1 ≤ (decL n 1).length ∧ (decL n 1).length ≤ 5 := by
  have := (nd_le 20 n 5 (lt20 (by omega))).2 (Nat.div_eq_of_lt hn)
  rw [decL_length]; omega

theorem drop_past (a b : List UInt8) (k : Nat) : (a ++ b).drop (a.length + k) = b.drop k := by
  rw [← List.drop_drop, List.drop_left]
theorem two_of {l : List UInt8} (h : l.length = 2) : ∃ x y, l = [x, y] := by
  match l, h with
  | [x, y], _ => exact ⟨x, y, rfl⟩
/-- the parts of the text of a moment -/
theorem parts {t : Int} {l : List UInt8} (ht : mB t = true) (h : fmtC t = l) : ∃ n, l.length = n + 9 ∧ 1 ≤ n ∧ n ≤ 5 ∧
    numA (l.take n) 0 = t / 86400 ∧ numA ((l.drop (n + 1)).take 2) 0 = t % 86400 / 3600 ∧ numA ((l.drop (n + 4)).take 2) 0 = t % 86400 / 60 % 60 ∧ numA (l.drop (n + 7)) 0 = t % 60 := by
  have hb := mB_true.1 ht
  subst h
  unfold fmtC
  have e0 : ((t / 86400).toNat : Int) = t / 86400 := by omega
  have e1 : ((t % 86400 / 3600).toNat : Int) = t % 86400 / 3600 := by omega
  have e2 : ((t % 86400 / 60 % 60).toNat : Int) = t % 86400 / 60 % 60 := by omega
  have e3 : ((t % 60).toNat : Int) = t % 60 := by omega
  have b0 : (t / 86400).toNat < 100000 := by omega
  have b1 : (t % 86400 / 3600).toNat < 100 := by omega
  have b2 : (t % 86400 / 60 % 60).toNat < 100 := by omega
  have b3 : (t % 60).toNat < 100 := by omega
  rw [← e0, ← e1, ← e2, ← e3]
  simp only [Int.toNat_natCast]
  generalize (t / 86400).toNat = d at *
  generalize (t % 86400 / 3600).toNat = h at *
  generalize (t % 86400 / 60 % 60).toNat = m at *
  generalize (t % 60).toNat = s at *
  have l0 := decL_day b0
  have l1 := decL_two b1
  have l2 := decL_two b2
  have l3 := decL_two b3
  have v0 := numA_dec 1 (show d ≤ 1125899906842624 by omega)
  have v1 := numA_dec 2 (show h ≤ 1125899906842624 by omega)
  have v2 := numA_dec 2 (show m ≤ 1125899906842624 by omega)
  have v3 := numA_dec 2 (show s ≤ 1125899906842624 by omega)
  rw [← v0, ← v1, ← v2, ← v3]
  clear v0 v1 v2 v3 e0 e1 e2 e3
  generalize decL d 1 = D at *
  generalize decL h 2 = H at *
  generalize decL m 2 = M at *
  generalize decL s 2 = S at *
  obtain ⟨H1, H2, rfl⟩ := two_of l1
  obtain ⟨M1, M2, rfl⟩ := two_of l2
  obtain ⟨S1, S2, rfl⟩ := two_of l3
  simp only [List.append_assoc, List.cons_append, List.nil_append]
  refine ⟨D.length, by simp, l0.1, l0.2, ?_, ?_, ?_, ?_⟩
  · rw [List.take_left']; rfl
  · rw [drop_past]; rfl
  · rw [drop_past]; rfl
  · rw [drop_past]; rfl

theorem fmtC_inj {t t' : Int} (h : mB t = true) (h' : mB t' = true) (e : fmtC t = fmtC t') : t = t' := by
  obtain ⟨n, h1, _, _, a, b, c, d⟩ := parts h rfl
  obtain ⟨n', h1', _, _, a', b', c', d'⟩ := parts h' rfl
  have hn : n = n' := by rw [e] at h1; omega
  subst hn
  rw [e] at a b c d
  have hb := mB_true.1 h
  have hb' := mB_true.1 h'
  omega

open Classical in
/-- what Parse returns -/
noncomputable def parseC (l : List UInt8) : Int × Int := if h : ∃ t, mB t = true ∧ fmtC t = l then (Classical.choose h, 0) else (0, 3)
theorem parseC_yes {l : List UInt8} {t : Int} (h : mB t = true) (e : fmtC t = l) : parseC l = (t, 0) := by
  have hx : ∃ t, mB t = true ∧ fmtC t = l := ⟨t, h, e⟩
  unfold parseC
  rw [dif_pos hx]
  have := Classical.choose_spec hx
  rw [fmtC_inj this.1 h (by rw [this.2, e])]
theorem parseC_no {l : List UInt8} (h : ∀ t, mB t = true → fmtC t ≠ l) : parseC l = (0, 3) := by
  unfold parseC
  rw [dif_neg]
  rintro ⟨t, h1, h2⟩
  exact h t h1 h2
end Go.Proofs.YtjmbbhhfbdjbdaaDoor
