/-
  Varints, zigzag codes, strings and lists in bytes, in plain words (no program); what is written is read, what is read is what is written.
-/
import Derived.Lib.Hide
namespace Go.Proofs.Ytedgcgdgdjilhaa
set_option linter.unusedVariables false
set_option linter.unusedSimpArgs false

theorem byte_of {n : Nat} (h : n < 256) : (UInt8.ofNat n).toNat = n := by
  rw [UInt8.toNat_ofNat']
  omega
theorem of_byte (c : UInt8) : UInt8.ofNat c.toNat = c := by simp

/-- the varint of u -/
def vL (u : Nat) : List UInt8 := if u < 128 then [UInt8.ofNat u] else UInt8.ofNat (u % 128 + 128) :: vL (u / 128)
termination_by u
decreasing_by omega
theorem vL_one {u : Nat} (h : u < 128) : vL u = [UInt8.ofNat u] := by rw [vL, if_pos h]
theorem vL_more {u : Nat} (h : ¬ u < 128) : vL u = UInt8.ofNat (u % 128 + 128) :: vL (u / 128) := by rw [vL, if_neg h]
/-- reading a varint: rounds left, byte number, value so far, unit -/
def takeA : Nat → Nat → Nat → Nat → List UInt8 → Nat × Nat × Int
  | 0, _, _, _, _ => (0, 0, 2)
  | _ + 1, _, _, _, [] => (0, 0, 4)
  | f + 1, i, u, unit, c :: r => if i = 9 ∧ 1 < c.toNat then (0, 0, 2) else
      if c.toNat < 128 then (if 0 < i ∧ c.toNat = 0 then (0, 0, 3) else (u + unit * c.toNat, i + 1, 0))
      else takeA f (i + 1) (u + unit * (c.toNat % 128)) (unit * 128) r
def takeU (l : List UInt8) : Nat × Nat × Int := takeA 10 0 0 1 l

theorem pow_step {i : Nat} (h : i < 9) : 2 ^ (64 - 7 * i) = 128 * 2 ^ (64 - 7 * (i + 1)) := by
  rw [show 64 - 7 * i = 7 + (64 - 7 * (i + 1)) by omega, Nat.pow_add]
theorem pow_big {i : Nat} (h : i < 9) : 128 ≤ 2 ^ (64 - 7 * i) := by
  rw [pow_step h]
  have : 0 < 2 ^ (64 - 7 * (i + 1)) := Nat.pow_pos (by decide)
  omega
theorem takeA_put : ∀ (f i u unit v : Nat) (r : List UInt8), f + i = 10 → i ≤ 9 → v < 2 ^ (64 - 7 * i) → (0 < i → 0 < v) → takeA f i u unit (vL v ++ r) = (u + unit * v, i + (vL v).length, 0)
  | 0, i, u, unit, v, r, hf, hi, _, _ => by omega
  | f + 1, i, u, unit, v, r, hf, hi, hv, h0 => by
    by_cases h : v < 128
    · rw [vL_one h]
      simp only [List.cons_append, List.nil_append, takeA, byte_of (show v < 256 by omega)]
      have h9 : ¬ (i = 9 ∧ 1 < v) := by
        rintro ⟨rfl, h1⟩
        have : v < 2 := hv
        omega
      rw [if_neg h9, if_pos h, if_neg (by omega)]
      rfl
    · have hi9 : i < 9 := by
        rcases Nat.lt_or_ge i 9 with h1 | h1
        · exact h1
        · have : i = 9 := by omega
          subst this
          have : v < 2 := hv
          omega
      rw [vL_more h]
      simp only [List.cons_append, takeA, byte_of (show v % 128 + 128 < 256 by omega)]
      rw [if_neg (by omega), if_neg (by omega)]
      rw [pow_step hi9] at hv
      rw [takeA_put f (i + 1) _ _ (v / 128) r (by omega) (by omega) (by rw [Nat.div_lt_iff_lt_mul (by omega)]; rw [Nat.mul_comm]; exact hv) (fun _ => by omega)]
      rw [show (v % 128 + 128) % 128 = v % 128 by omega]
      simp only [List.length_cons]
      refine Prod.ext ?_ (Prod.ext ?_ rfl)
      · show u + unit * (v % 128) + unit * 128 * (v / 128) = u + unit * v
        have : unit * v = unit * (v % 128) + unit * 128 * (v / 128) := by
          rw [Nat.mul_assoc, ← Nat.mul_add]
          congr 1
          omega
        omega
      · show i + 1 + (vL (v / 128)).length = i + ((vL (v / 128)).length + 1)
        omega
theorem take_put (v : Nat) (r : List UInt8) (hv : v < 18446744073709551616) : takeU (vL v ++ r) = (v, (vL v).length, 0) := by
  unfold takeU
  rw [takeA_put 10 0 0 1 v r rfl (by omega) hv (by omega)]
  simp
theorem takeA_back : ∀ (f i u unit : Nat) (l : List UInt8) (x k : Nat), f + i = 10 → takeA f i u unit l = (x, k, 0) → ∃ v, l.take (k - i) = vL v ∧ x = u + unit * v ∧ i < k ∧ k - i ≤ l.length ∧ (0 < i → 0 < v) ∧ v < 2 ^ (64 - 7 * i)
  | 0, i, u, unit, l, x, k, _, h => by simp [takeA] at h
  | f + 1, i, u, unit, [], x, k, _, h => by simp [takeA] at h
  | f + 1, i, u, unit, c :: r, x, k, hf, h => by
    rw [takeA] at h
    split at h
    · simp at h
    · rename_i h9
      split at h
      · rename_i hc
        split at h
        · simp at h
        · rename_i hz
          simp at h
          obtain ⟨rfl, rfl⟩ := h
          refine ⟨c.toNat, ?_, rfl, by omega, by simp, fun h => by omega, ?_⟩
          · rw [show i + 1 - i = 1 by omega, vL_one hc, of_byte]
            rfl
          · by_cases hi : i = 9
            · subst hi
              have : c.toNat ≤ 1 := by omega
              show c.toNat < 2
              omega
            · have := pow_big (show i < 9 by omega)
              omega
      · rename_i hc
        have hi9 : i < 9 := by
          rcases Nat.lt_or_ge i 9 with h1 | h1
          · exact h1
          · have hf0 : f = 0 := by omega
            subst hf0
            simp [takeA] at h
        obtain ⟨v, h1, h2, h3, h4, h5, h6⟩ := takeA_back f (i + 1) _ _ r x k (by omega) h
        have hv := h5 (by omega)
        have hcb : c.toNat < 256 := c.toNat_lt
        refine ⟨c.toNat % 128 + 128 * v, ?_, ?_, by omega, by simp; omega, fun _ => by omega, ?_⟩
        · rw [vL_more (by omega)]
          rw [show (c.toNat % 128 + 128 * v) % 128 + 128 = c.toNat by omega, show (c.toNat % 128 + 128 * v) / 128 = v by omega, of_byte, ← h1, show k - i = (k - (i + 1)) + 1 by omega]
          rfl
        · rw [h2, Nat.mul_add, ← Nat.mul_assoc, Nat.add_assoc]
        · rw [pow_step hi9]
          omega
theorem take_back {l : List UInt8} {x k : Nat} (h : takeU l = (x, k, 0)) : l.take k = vL x ∧ 0 < k ∧ k ≤ l.length ∧ x < 18446744073709551616 := by
  obtain ⟨v, h1, h2, h3, h4, _, h6⟩ := takeA_back 10 0 0 1 l x k rfl h
  rw [Nat.zero_add, Nat.one_mul] at h2
  subst h2
  exact ⟨h1, h3, h4, h6⟩
theorem takeA_short : ∀ (f i u unit v j : Nat), f + i = 10 → i ≤ 9 → v < 2 ^ (64 - 7 * i) → j < (vL v).length → takeA f i u unit ((vL v).take j) = (0, 0, 4)
  | 0, i, u, unit, v, j, hf, hi, _, _ => by omega
  | f + 1, i, u, unit, v, 0, hf, hi, hv, hj => rfl
  | f + 1, i, u, unit, v, j + 1, hf, hi, hv, hj => by
    by_cases h : v < 128
    · rw [vL_one h] at hj
      simp at hj
    · have hi9 : i < 9 := by
        rcases Nat.lt_or_ge i 9 with h1 | h1
        · exact h1
        · have : i = 9 := by omega
          subst this
          have : v < 2 := hv
          omega
      rw [vL_more h] at hj ⊢
      simp only [List.length_cons] at hj
      rw [List.take_succ_cons, takeA, byte_of (show v % 128 + 128 < 256 by omega), if_neg (by omega), if_neg (by omega)]
      rw [pow_step hi9] at hv
      exact takeA_short f (i + 1) _ _ (v / 128) j (by omega) (by omega) (by rw [Nat.div_lt_iff_lt_mul (by omega)]; rw [Nat.mul_comm]; exact hv) (by omega)
theorem take_short {v j : Nat} (hv : v < 18446744073709551616) (hj : j < (vL v).length) : takeU ((vL v).take j) = (0, 0, 4) := takeA_short 10 0 0 1 v j rfl (by omega) hv hj
theorem takeA_err : ∀ (f i u unit : Nat) (l : List UInt8), (takeA f i u unit l).2.2 = 0 ∨ takeA f i u unit l = (0, 0, 2) ∨ takeA f i u unit l = (0, 0, 3) ∨ takeA f i u unit l = (0, 0, 4)
  | 0, _, _, _, _ => Or.inr (Or.inl rfl)
  | _ + 1, _, _, _, [] => Or.inr (Or.inr (Or.inr rfl))
  | f + 1, i, u, unit, c :: r => by
    rw [takeA]
    split
    · exact Or.inr (Or.inl rfl)
    · split
      · split
        · exact Or.inr (Or.inr (Or.inl rfl))
        · exact Or.inl rfl
      · exact takeA_err f _ _ _ r
theorem take_err (l : List UInt8) : (takeU l).2.2 = 0 ∨ takeU l = (0, 0, 2) ∨ takeU l = (0, 0, 3) ∨ takeU l = (0, 0, 4) := takeA_err _ _ _ _ l
theorem take_nil : takeU [] = (0, 0, 4) := rfl
theorem vL_length : ∀ (f v : Nat), v < 2 ^ (7 * f) → 1 ≤ (vL v).length ∧ (vL v).length ≤ max 1 f
  | 0, v, h => by
    have : v = 0 := by simpa using h
    subst this
    rw [vL_one (by omega)]
    simp
  | f + 1, v, h => by
    by_cases h1 : v < 128
    · rw [vL_one h1]; simp
    · rw [vL_more h1]
      have hf : v / 128 < 2 ^ (7 * f) := by
        rw [Nat.div_lt_iff_lt_mul (by omega), Nat.mul_comm]
        rw [show 7 * (f + 1) = 7 + 7 * f by omega, Nat.pow_add] at h
        exact h
      have := vL_length f (v / 128) hf
      have hf0 : 1 ≤ f := by
        rcases Nat.eq_zero_or_pos f with h0 | h0
        · subst h0
          have : v / 128 < 1 := hf
          omega
        · exact h0
      simp only [List.length_cons]
      omega
theorem vL_le10 {v : Nat} (h : v < 18446744073709551616) : 1 ≤ (vL v).length ∧ (vL v).length ≤ 10 := by
  have := vL_length 10 v (Nat.lt_of_lt_of_le h (by decide))
  omega
theorem vL_mono : ∀ (f u v : Nat), u ≤ v → v < f → (vL u).length ≤ (vL v).length
  | 0, u, v, _, h => by omega
  | f + 1, u, v, huv, h => by
    by_cases h1 : u < 128
    · rw [vL_one h1]
      by_cases h2 : v < 128
      · rw [vL_one h2]; simp
      · rw [vL_more h2]; simp
    · rw [vL_more h1, vL_more (show ¬ v < 128 by omega)]
      simp only [List.length_cons]
      have := vL_mono f (u / 128) (v / 128) (Nat.div_le_div_right huv) (by omega)
      omega

/-! ### integers -/
def zz (n : Int) : Nat := if 0 ≤ n then 2 * n.toNat else 2 * (-(n + 1)).toNat + 1
def unzz (u : Nat) : Int := if u % 2 = 0 then ((u / 2 : Nat) : Int) else -((u / 2 : Nat) : Int) - 1
theorem unzz_zz (n : Int) : unzz (zz n) = n := by
  unfold unzz zz
  split <;> split <;> omega
theorem zz_unzz (u : Nat) : zz (unzz u) = u := by
  unfold unzz zz
  split <;> split <;> omega
theorem zz_lt {n : Int} (h1 : -9223372036854775808 ≤ n) (h2 : n ≤ 9223372036854775807) : zz n < 18446744073709551616 := by
  unfold zz
  split <;> omega
theorem unzz_in {u : Nat} (h : u < 18446744073709551616) : -9223372036854775808 ≤ unzz u ∧ unzz u ≤ 9223372036854775807 := by
  unfold unzz
  split <;> omega
def iL (n : Int) : List UInt8 := vL (zz n)
def takeI (l : List UInt8) : Int × Nat × Int := if (takeU l).2.2 = 0 then (unzz (takeU l).1, (takeU l).2.1, 0) else (0, 0, (takeU l).2.2)
theorem takeI_put (n : Int) (r : List UInt8) (h : zz n < 18446744073709551616) : takeI (iL n ++ r) = (n, (iL n).length, 0) := by
  unfold takeI iL
  rw [take_put _ _ h]
  simp [unzz_zz]
theorem takeI_back {l : List UInt8} {n : Int} {k : Nat} (h : takeI l = (n, k, 0)) : l.take k = iL n ∧ 0 < k ∧ k ≤ l.length ∧ zz n < 18446744073709551616 := by
  unfold takeI at h
  split at h
  · rename_i h0
    obtain ⟨h1, h2⟩ := Prod.mk.inj h
    obtain ⟨h2, _⟩ := Prod.mk.inj h2
    have hb := take_back (l := l) (x := (takeU l).1) (k := (takeU l).2.1) (by rw [← h0])
    rw [← h1, ← h2]
    unfold iL
    rw [zz_unzz]
    exact hb
  · rename_i h0
    exact absurd (Prod.mk.inj (Prod.mk.inj h).2).2 h0
theorem takeI_err (l : List UInt8) : (takeI l).2.2 = 0 ∨ ((takeI l).2.2 ≠ 0 ∧ takeI l = (0, 0, (takeI l).2.2) ∧ 2 ≤ (takeI l).2.2 ∧ (takeI l).2.2 ≤ 4) := by
  unfold takeI
  split
  · exact Or.inl rfl
  · rename_i h
    refine Or.inr ⟨h, rfl, ?_⟩
    rcases take_err l with h1 | h1 | h1 | h1
    · exact absurd h1 h
    all_goals rw [h1]; simp
theorem takeI_short {n : Int} {j : Nat} (h : zz n < 18446744073709551616) (hj : j < (iL n).length) : takeI ((iL n).take j) = (0, 0, 4) := by
  unfold takeI
  unfold iL at hj ⊢
  rw [take_short h hj]
  simp

/-! ### strings -/
/-- a length of at most most -/
def lenS (l : List UInt8) (most : Int) : Nat × Nat × Int := if (takeU l).2.2 = 0 then (if most < 0 ∨ most < ((takeU l).1 : Int) then (0, 0, 8) else takeU l) else (0, 0, (takeU l).2.2)
def textL (s : List UInt8) : List UInt8 := vL s.length ++ s
def takeT (l : List UInt8) (most : Int) : List UInt8 × Nat × Int :=
  if (lenS l most).2.2 = 0 then (if l.length - (lenS l most).2.1 < (lenS l most).1 then ([], 0, 4) else ((l.drop (lenS l most).2.1).take (lenS l most).1, (lenS l most).2.1 + (lenS l most).1, 0)) else ([], 0, (lenS l most).2.2)
theorem lenS_put (v : Nat) (r : List UInt8) (most : Int) (hv : v < 18446744073709551616) (hm : (v : Int) ≤ most) : lenS (vL v ++ r) most = (v, (vL v).length, 0) := by
  unfold lenS
  rw [take_put _ _ hv]
  simp only [if_true]
  rw [if_neg (by omega)]
theorem lenS_back {l : List UInt8} {most : Int} {v k : Nat} (h : lenS l most = (v, k, 0)) : l.take k = vL v ∧ 0 < k ∧ k ≤ l.length ∧ v < 18446744073709551616 ∧ (v : Int) ≤ most := by
  unfold lenS at h
  split at h
  · split at h
    · simp at h
    · rename_i h0 h1
      have hb := take_back h
      have hv : (takeU l).1 = v := by rw [h]
      rw [hv] at h1
      exact ⟨hb.1, hb.2.1, hb.2.2.1, hb.2.2.2, by omega⟩
  · rename_i h0
    exact absurd (Prod.mk.inj (Prod.mk.inj h).2).2 h0
theorem lenS_short {v j : Nat} {most : Int} (hv : v < 18446744073709551616) (hj : j < (vL v).length) : lenS ((vL v).take j) most = (0, 0, 4) := by
  unfold lenS
  rw [take_short hv hj]
  simp
theorem lenS_err (l : List UInt8) (most : Int) : (lenS l most).2.2 = 0 ∨ ((lenS l most).2.2 ≠ 0 ∧ lenS l most = (0, 0, (lenS l most).2.2) ∧ 2 ≤ (lenS l most).2.2 ∧ (lenS l most).2.2 ≤ 8) := by
  unfold lenS
  split
  · split
    · right; simp
    · rename_i h _; exact Or.inl h
  · rename_i h
    refine Or.inr ⟨h, rfl, ?_⟩
    rcases take_err l with h1 | h1 | h1 | h1
    · exact absurd h1 h
    all_goals rw [h1]; simp
theorem takeT_put (s r : List UInt8) (most : Int) (hs : s.length < 18446744073709551616) (hm : (s.length : Int) ≤ most) : takeT (textL s ++ r) most = (s, (textL s).length, 0) := by
  unfold takeT textL
  rw [List.append_assoc, lenS_put _ _ _ hs hm]
  simp only [if_true]
  rw [if_neg (by simp)]
  simp
theorem takeT_back {l s : List UInt8} {most : Int} {k : Nat} (h : takeT l most = (s, k, 0)) : l.take k = textL s ∧ 0 < k ∧ k ≤ l.length := by
  unfold takeT at h
  split at h
  · rename_i h0
    split at h
    · simp at h
    · rename_i h1
      obtain ⟨hs, h2⟩ := Prod.mk.inj h
      obtain ⟨hk, _⟩ := Prod.mk.inj h2
      obtain ⟨b1, b2, b3, b4, b5⟩ := lenS_back (l := l) (most := most) (v := (lenS l most).1) (k := (lenS l most).2.1) (by rw [← h0])
      have hl : s.length = (lenS l most).1 := by
        rw [← hs, List.length_take, List.length_drop]
        omega
      refine ⟨?_, by omega, by omega⟩
      unfold textL
      rw [hl, ← b1, ← hs, ← hk, List.take_add]
  · rename_i h0
    exact absurd (Prod.mk.inj (Prod.mk.inj h).2).2 h0
theorem takeT_short {s : List UInt8} {j : Nat} {most : Int} (hs : s.length < 18446744073709551616) (hm : (s.length : Int) ≤ most) (hj : j < (textL s).length) : takeT ((textL s).take j) most = ([], 0, 4) := by
  unfold takeT
  unfold textL at hj ⊢
  by_cases h : j < (vL s.length).length
  · rw [List.take_append_of_le_length (by omega), lenS_short hs h]
    simp
  · rw [List.take_append, List.take_of_length_le (by omega), lenS_put _ _ _ hs hm]
    simp only [if_true]
    rw [if_pos]
    simp at hj ⊢
    omega

/-! ### lists -/
def itemsL : List Int → List UInt8
  | [] => []
  | n :: r => iL n ++ itemsL r
def listL (l : List Int) : List UInt8 := vL l.length ++ itemsL l
/-- elements left, the bytes, the place, the elements so far -/
def takeN : Nat → List UInt8 → Nat → List Int → List Int × Nat × Int
  | 0, _, at_, acc => (acc, at_, 0)
  | n + 1, l, at_, acc => if (takeI (l.drop at_)).2.2 = 0 then takeN n l (at_ + (takeI (l.drop at_)).2.1) (acc ++ [(takeI (l.drop at_)).1]) else ([], 0, (takeI (l.drop at_)).2.2)
def takeLs (l : List UInt8) (most : Int) : List Int × Nat × Int := if (lenS l most).2.2 = 0 then takeN (lenS l most).1 l (lenS l most).2.1 [] else ([], 0, (lenS l most).2.2)
theorem takeN_put : ∀ (x : List Int) (l r : List UInt8) (at_ : Nat) (acc : List Int), (∀ n ∈ x, zz n < 18446744073709551616) → l.drop at_ = itemsL x ++ r → takeN x.length l at_ acc = (acc ++ x, at_ + (itemsL x).length, 0)
  | [], l, r, at_, acc, _, _ => by simp [takeN, itemsL]
  | n :: x, l, r, at_, acc, hx, hl => by
    have h1 : takeI (l.drop at_) = (n, (iL n).length, 0) := by
      rw [hl, show itemsL (n :: x) = iL n ++ itemsL x from rfl, List.append_assoc]
      exact takeI_put n _ (hx n (by simp))
    rw [List.length_cons, takeN, h1]
    simp only [if_true]
    rw [takeN_put x l r (at_ + (iL n).length) (acc ++ [n]) (fun m hm => hx m (by simp [hm])) (by
      rw [← List.drop_drop, hl, show itemsL (n :: x) = iL n ++ itemsL x from rfl, List.append_assoc, List.drop_left])]
    refine Prod.ext (by simp) (Prod.ext ?_ rfl)
    show at_ + (iL n).length + (itemsL x).length = at_ + (itemsL (n :: x)).length
    rw [show itemsL (n :: x) = iL n ++ itemsL x from rfl, List.length_append]
    omega
theorem takeLs_put (x : List Int) (r : List UInt8) (most : Int) (hx : ∀ n ∈ x, zz n < 18446744073709551616) (hl : x.length < 18446744073709551616) (hm : (x.length : Int) ≤ most) : takeLs (listL x ++ r) most = (x, (listL x).length, 0) := by
  unfold takeLs listL
  rw [List.append_assoc, lenS_put _ _ _ hl hm]
  simp only [if_true]
  rw [takeN_put x _ r _ [] hx (by rw [List.drop_left])]
  simp
theorem takeN_back : ∀ (n : Nat) (l : List UInt8) (at_ : Nat) (acc x : List Int) (k : Nat), at_ ≤ l.length → takeN n l at_ acc = (x, k, 0) → ∃ y, x = acc ++ y ∧ y.length = n ∧ at_ ≤ k ∧ k ≤ l.length ∧ (l.drop at_).take (k - at_) = itemsL y ∧ ∀ m ∈ y, zz m < 18446744073709551616
  | 0, l, at_, acc, x, k, ha, h => by
    simp [takeN] at h
    obtain ⟨rfl, rfl⟩ := h
    exact ⟨[], by simp, rfl, Nat.le_refl _, ha, by simp [itemsL], fun m hm => by cases hm⟩
  | n + 1, l, at_, acc, x, k, ha, h => by
    rw [takeN] at h
    split at h
    · rename_i h0
      obtain ⟨b1, b2, b3, b4⟩ := takeI_back (l := l.drop at_) (n := (takeI (l.drop at_)).1) (k := (takeI (l.drop at_)).2.1) (by rw [← h0])
      rw [List.length_drop] at b3
      obtain ⟨y, rfl, h2, h3, h4, h5, h6⟩ := takeN_back n l _ _ x k (by omega) h
      refine ⟨(takeI (l.drop at_)).1 :: y, by simp, by simp [h2], by omega, h4, ?_, ?_⟩
      · rw [show itemsL ((takeI (l.drop at_)).1 :: y) = iL (takeI (l.drop at_)).1 ++ itemsL y from rfl, ← b1, ← h5]
        rw [show k - at_ = (takeI (l.drop at_)).2.1 + (k - (at_ + (takeI (l.drop at_)).2.1)) by omega, List.take_add, List.drop_drop]
      · intro m hm
        rcases List.mem_cons.1 hm with rfl | hm
        · exact b4
        · exact h6 m hm
    · rename_i h0
      exact absurd (Prod.mk.inj (Prod.mk.inj h).2).2 h0
theorem takeLs_back {l : List UInt8} {most : Int} {x : List Int} {k : Nat} (h : takeLs l most = (x, k, 0)) : l.take k = listL x ∧ 0 < k ∧ k ≤ l.length ∧ (∀ n ∈ x, zz n < 18446744073709551616) ∧ (x.length : Int) ≤ most ∧ x.length < 18446744073709551616 := by
  unfold takeLs at h
  split at h
  · rename_i h0
    obtain ⟨b1, b2, b3, b4, b5⟩ := lenS_back (l := l) (most := most) (v := (lenS l most).1) (k := (lenS l most).2.1) (by rw [← h0])
    obtain ⟨y, hy, h2, h3, h4, h5, h6⟩ := takeN_back _ l _ _ x k b3 h
    rw [List.nil_append] at hy
    subst hy
    refine ⟨?_, by omega, h4, h6, by rw [h2]; exact b5, by rw [h2]; exact b4⟩
    unfold listL
    rw [h2, ← b1, ← h5]
    conv => lhs; rw [show k = (lenS l most).2.1 + (k - (lenS l most).2.1) by omega, List.take_add]
  · rename_i h0
    exact absurd (Prod.mk.inj (Prod.mk.inj h).2).2 h0
theorem takeN_short : ∀ (x : List Int) (l : List UInt8) (at_ j : Nat) (acc : List Int), (∀ n ∈ x, zz n < 18446744073709551616) → l.drop at_ = (itemsL x).take j → j < (itemsL x).length → takeN x.length l at_ acc = ([], 0, 4)
  | [], l, at_, j, acc, _, _, hj => by simp [itemsL] at hj
  | n :: x, l, at_, j, acc, hx, hl, hj => by
    rw [show itemsL (n :: x) = iL n ++ itemsL x from rfl] at hl hj
    rw [List.length_cons, takeN]
    by_cases h : j < (iL n).length
    · rw [hl, List.take_append_of_le_length (by omega), takeI_short (hx n (by simp)) h]
      simp
    · rw [List.take_append, List.take_of_length_le (l := iL n) (by omega)] at hl
      rw [hl, takeI_put n _ (hx n (by simp))]
      simp only [if_true]
      exact takeN_short x l _ (j - (iL n).length) _ (fun m hm => hx m (by simp [hm])) (by rw [← List.drop_drop, hl, List.drop_left]) (by rw [List.length_append] at hj; omega)
theorem takeLs_short {x : List Int} {j : Nat} {most : Int} (hx : ∀ n ∈ x, zz n < 18446744073709551616) (hl : x.length < 18446744073709551616) (hm : (x.length : Int) ≤ most) (hj : j < (listL x).length) : takeLs ((listL x).take j) most = ([], 0, 4) := by
  unfold takeLs
  unfold listL at hj ⊢
  by_cases h : j < (vL x.length).length
  · rw [List.take_append_of_le_length (by omega), lenS_short hl h]
    simp
  · rw [List.take_append, List.take_of_length_le (l := vL x.length) (by omega), lenS_put _ _ _ hl hm]
    simp only [if_true]
    exact takeN_short x _ _ (j - (vL x.length).length) [] hx (by rw [List.drop_left]) (by rw [List.length_append] at hj; omega)
theorem takeN_err : ∀ (n : Nat) (l : List UInt8) (at_ : Nat) (acc : List Int), (takeN n l at_ acc).2.2 = 0 ∨ (takeN n l at_ acc = ([], 0, (takeN n l at_ acc).2.2) ∧ 2 ≤ (takeN n l at_ acc).2.2 ∧ (takeN n l at_ acc).2.2 ≤ 8)
  | 0, _, _, _ => Or.inl rfl
  | n + 1, l, at_, acc => by
    rw [takeN]
    split
    · exact takeN_err n l _ _
    · rename_i h
      rcases takeI_err (l.drop at_) with h1 | ⟨_, _, h2, h3⟩
      · exact absurd h1 h
      · exact Or.inr ⟨rfl, h2, Int.le_trans h3 (by decide)⟩
theorem takeN_count : ∀ (n : Nat) (l : List UInt8) (at_ : Nat) (acc : List Int), acc.length ≤ at_ → at_ ≤ l.length → (takeN n l at_ acc).1.length ≤ l.length
  | 0, l, at_, acc, h, h2 => by
    simp only [takeN]
    omega
  | n + 1, l, at_, acc, h, h2 => by
    rw [takeN]
    split
    · rename_i h0
      have hb := takeI_back (l := l.drop at_) (n := (takeI (l.drop at_)).1) (k := (takeI (l.drop at_)).2.1) (by rw [← h0])
      rw [List.length_drop] at hb
      exact takeN_count n l _ _ (by simp; omega) (by omega)
    · simp
theorem takeLs_count (l : List UInt8) (most : Int) : (takeLs l most).1.length ≤ l.length := by
  unfold takeLs
  split
  · rename_i h0
    have hb := lenS_back (l := l) (most := most) (v := (lenS l most).1) (k := (lenS l most).2.1) (by rw [← h0])
    exact takeN_count _ l _ [] (by simp) hb.2.2.1
  · simp
end Go.Proofs.Ytedgcgdgdjilhaa
