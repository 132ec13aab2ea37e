/-
  What the landed package reads, in plain words (no program): a quoted field byte by byte, a field and what follows it and a space; Split by it.
-/
import Derived.Test.YtdkhajpkldjlmaaDoorFldPlain
namespace Go.Proofs.YtdkhajpkldjlmaaDoor
set_option linter.unusedVariables false
set_option linter.unusedSimpArgs false

/-- a quoted field behind its first quotation mark, as the loop reads it (escaped or not), and what follows it -/
def rq : Bool → List UInt8 → List UInt8 × List UInt8
  | _, [] => ([], [])
  | e, c :: r => if c.toNat = 34 ∧ e = false then ([], r) else if c.toNat = 92 ∧ e = false then rq true r else (c :: (rq false r).1, (rq false r).2)
def trimSp (l : List UInt8) : List UInt8 := match l with | [] => [] | c :: r => if c.toNat = 32 then r else c :: r
def readL (s : List UInt8) : List UInt8 × List UInt8 :=
  match s with
  | [] => ([], [])
  | c :: r => if c.toNat = 34 then ((rq false r).1, trimSp (rq false r).2) else ((c :: r).takeWhile notSp, ((c :: r).dropWhile notSp).tail)
def flds : Nat → List UInt8 → List (List UInt8)
  | 0, _ => []
  | _ + 1, [] => []
  | f + 1, c :: r => (readL (c :: r)).1 :: flds f (readL (c :: r)).2

theorem rq_nil (e : Bool) : rq e [] = ([], []) := by cases e <;> rfl
theorem rq_quote {c : UInt8} (h : c.toNat = 34) (r : List UInt8) : rq false (c :: r) = ([], r) := by rw [rq, if_pos ⟨h, rfl⟩]
theorem rq_back {c : UInt8} (h : c.toNat = 92) (r : List UInt8) : rq false (c :: r) = rq true r := by rw [rq, if_neg (by omega), if_pos ⟨h, rfl⟩]
theorem rq_esc (c : UInt8) (r : List UInt8) : rq true (c :: r) = (c :: (rq false r).1, (rq false r).2) := by rw [rq, if_neg (by simp), if_neg (by simp)]
theorem rq_else {c : UInt8} (h : c.toNat ≠ 34) (h2 : c.toNat ≠ 92) (r : List UInt8) : rq false (c :: r) = (c :: (rq false r).1, (rq false r).2) := by rw [rq, if_neg (by omega), if_neg (by omega)]
theorem rq_escL : ∀ (x r : List UInt8), rq false (escL x ++ 34 :: r) = (x, r)
  | [], r => by rw [show escL [] = [] from rfl, List.nil_append, rq_quote (by rfl)]
  | c :: x, r => by
    rw [escL_cons]
    by_cases h : esc c = true
    · rw [show escB c = [92, c] by simp [escB, h]]
      rw [show [92, c] ++ escL x ++ 34 :: r = 92 :: c :: (escL x ++ 34 :: r) by simp, rq_back (by rfl), rq_esc, rq_escL x r]
    · have h' : c.toNat ≠ 34 ∧ c.toNat ≠ 92 := by simpa [esc] using h
      rw [show escB c = [c] by simp [escB, h]]
      rw [show [c] ++ escL x ++ 34 :: r = c :: (escL x ++ 34 :: r) by simp, rq_else h'.1 h'.2, rq_escL x r]
theorem rq_len : ∀ (l : List UInt8) (e : Bool), (rq e l).1.length ≤ l.length ∧ (rq e l).2.length ≤ l.length
  | [], e => by rw [rq_nil]; exact ⟨Nat.le_refl _, Nat.le_refl _⟩
  | c :: l, e => by
    unfold rq
    have h1 := rq_len l false
    have h2 := rq_len l true
    split
    · simp
    · split
      · simp only [List.length_cons]; omega
      · simp only [List.length_cons]; omega
theorem trimSp_len (l : List UInt8) : (trimSp l).length ≤ l.length := by
  unfold trimSp
  split
  · exact Nat.le_refl _
  · split <;> simp
theorem readL_len (c : UInt8) (r : List UInt8) : (readL (c :: r)).1.length ≤ r.length + 1 ∧ (readL (c :: r)).2.length ≤ r.length := by
  unfold readL
  simp only []
  split
  · have h1 := rq_len r false
    have h2 := trimSp_len (rq false r).2
    simp only []
    omega
  · have := span_len notSp (c :: r)
    simp only [List.length_cons, List.length_tail] at this ⊢
    omega
theorem readL_wr (x r : List UInt8) (hr : ∀ c q, r = c :: q → c.toNat = 32) : readL (wrL x ++ r) = (x, r.tail) := by
  unfold wrL
  by_cases h : plainL x = true
  · rw [if_pos h]
    obtain ⟨c, q, rfl, hc, hall⟩ := plain_cons h
    have hn := need_no hc
    obtain ⟨h1, h2⟩ := takeWhile_all (p := notSp) (x := c :: q) r (fun d hd => by have := need_no (hall d hd); simp [notSp, this.1]) (fun d s e => by have := hr d s e; simp [notSp, this])
    rw [show (c :: q) ++ r = c :: (q ++ r) from rfl] at h1 h2 ⊢
    unfold readL
    simp only [hn.2.1, if_false]
    rw [h1, h2]
  · rw [if_neg h]
    rw [show 34 :: (escL x ++ [34]) ++ r = 34 :: (escL x ++ 34 :: r) by simp]
    unfold readL
    simp only [show (34 : UInt8).toNat = 34 from rfl, if_true]
    rw [rq_escL x r]
    unfold trimSp
    cases r with
    | nil => rfl
    | cons c q => simp [hr c q rfl]
theorem flds_line : ∀ (f : Nat) (ls : List (List UInt8)), (lineL ls).length < f → flds f (lineL ls) = ls
  | 0, ls, h => by omega
  | f + 1, [], _ => rfl
  | f + 1, x :: ls, hf => by
    have hne := lineL_ne (ls := x :: ls) (by simp)
    obtain ⟨c, r, hcr⟩ : ∃ c r, lineL (x :: ls) = c :: r := by
      cases hl : lineL (x :: ls) with
      | nil => exact absurd hl hne
      | cons c r => exact ⟨c, r, rfl⟩
    rw [hcr, flds, ← hcr]
    rw [lineL_cons] at hf ⊢
    by_cases hls : ls = []
    · subst hls
      rw [if_pos rfl] at hf ⊢
      rw [readL_wr x [] (fun c q e => by cases e)]
      cases f <;> rfl
    · rw [if_neg hls] at hf ⊢
      rw [readL_wr x (32 :: lineL ls) (fun c q e => by cases e; rfl)]
      simp only [List.tail_cons]
      rw [flds_line f ls (by rw [List.length_append, List.length_cons] at hf; omega)]
theorem flds_more : ∀ (f : Nat) (l : List UInt8) (g : Nat), l.length < f → l.length < g → flds f l = flds g l
  | 0, l, g, h, _ => by omega
  | f + 1, l, 0, _, h => by omega
  | f + 1, [], g + 1, hf, hg => rfl
  | f + 1, c :: r, g + 1, hf, hg => by
    unfold flds
    have := (readL_len c r).2
    simp only [List.length_cons] at hf hg
    rw [flds_more f _ g (by omega) (by omega)]
theorem flds_nil (f : Nat) : flds f [] = [] := by cases f <;> rfl
/-- one field more -/
theorem flds_step {l : List UInt8} (h : l ≠ []) : flds (l.length + 1) l = (readL l).1 :: flds ((readL l).2.length + 1) (readL l).2 := by
  cases l with
  | nil => exact absurd rfl h
  | cons c r =>
    rw [flds]
    have := (readL_len c r).2
    rw [flds_more _ _ ((readL (c :: r)).2.length + 1) (by simp only [List.length_cons]; omega) (by omega)]
theorem readL_less {l : List UInt8} (h : l ≠ []) : (readL l).2.length < l.length ∧ (readL l).1.length ≤ l.length := by
  cases l with
  | nil => exact absurd rfl h
  | cons c r =>
    have := readL_len c r
    simp only [List.length_cons]
    omega
/-- Split by what the program reads -/
theorem split_flds {s : List UInt8} (h : s.length ≤ 1024) : splitL s = if joinL (flds (s.length + 1) s) = (s, 0) then (flds (s.length + 1) s, 0) else ([], 3) := by
  by_cases hj : joinL (flds (s.length + 1) s) = (s, 0)
  · rw [if_pos hj]
    exact split_join hj
  · rw [if_neg hj]
    have no : ∀ ls, splitL s ≠ (ls, 0) := fun ls hs => by
      have h1 := join_split hs
      obtain ⟨rfl, _, h3⟩ := join_line h1
      rw [flds_line _ ls (by omega)] at hj
      exact hj h1
    unfold splitL at no ⊢
    rw [if_neg (by omega)] at no ⊢
    by_cases h0 : s = []
    · rw [if_pos h0] at no
      exact absurd rfl (no [])
    · rw [if_neg h0] at no ⊢
      split
      · rename_i h1
        rw [if_pos h1] at no
        exact absurd rfl (no _)
      · rfl
end Go.Proofs.YtdkhajpkldjlmaaDoor
