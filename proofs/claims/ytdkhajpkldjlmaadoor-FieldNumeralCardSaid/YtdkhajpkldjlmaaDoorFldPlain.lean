/-
  Fields, lines and texts in plain words (no program): the written form of a field, the line of fields, reading a line; Join and Split undo each other.
-/
import Derived.Test.YtdkhajpkldjlmaaDoorNumText
namespace Go.Proofs.YtdkhajpkldjlmaaDoor
set_option linter.unusedVariables false
set_option linter.unusedSimpArgs false

/-- a byte that wants quotation marks; a byte that wants a backslash; a byte of a field -/
def need (c : UInt8) : Bool := decide (c.toNat = 32) || decide (c.toNat = 34) || decide (c.toNat = 92)
def esc (c : UInt8) : Bool := decide (c.toNat = 34) || decide (c.toNat = 92)
def okC (c : UInt8) : Bool := decide (32 ≤ c.toNat) && decide (c.toNat ≤ 126)
def plainL (l : List UInt8) : Bool := !l.isEmpty && l.all fun c => !need c
def escB (c : UInt8) : List UInt8 := if esc c then [92, c] else [c]
def escL (l : List UInt8) : List UInt8 := l.flatMap escB
/-- the written form -/
def wrL (l : List UInt8) : List UInt8 := if plainL l then l else 34 :: (escL l ++ [34])
def faultL (l : List UInt8) : Int := if 256 < l.length then 8 else if l.all okC then 0 else 3
def faults : List (List UInt8) → Int
  | [] => 0
  | x :: r => if faultL x = 0 then faults r else faultL x
/-- the line of fields -/
def lineL : List (List UInt8) → List UInt8
  | [] => []
  | [x] => wrL x
  | x :: y :: r => wrL x ++ 32 :: lineL (y :: r)
def joinL (ls : List (List UInt8)) : List UInt8 × Int := if faults ls = 0 then (if 1024 < (lineL ls).length then ([], 8) else (lineL ls, 0)) else ([], faults ls)

/-- a quoted field behind its first quotation mark, and what follows it -/
def unq : List UInt8 → List UInt8 × List UInt8
  | [] => ([], [])
  | c :: r => if c.toNat = 34 then ([], r) else if c.toNat = 92 then
      (match r with
        | [] => ([c], [])
        | d :: q => (d :: (unq q).1, (unq q).2))
    else (c :: (unq r).1, (unq r).2)
def notSp (c : UInt8) : Bool := !decide (c.toNat = 32)
def takeL (s : List UInt8) : List UInt8 × List UInt8 :=
  match s with
  | [] => ([], [])
  | c :: r => if c.toNat = 34 then unq r else ((c :: r).takeWhile notSp, (c :: r).dropWhile notSp)
/-- the fields as they come -/
def takes : Nat → List UInt8 → List (List UInt8)
  | 0, _ => []
  | f + 1, s => (takeL s).1 :: (match (takeL s).2 with
    | [] => []
    | _ :: rest => takes f rest)
def splitL (s : List UInt8) : List (List UInt8) × Int :=
  if 1024 < s.length then ([], 8) else if s = [] then ([], 0) else
    (if joinL (takes (s.length + 1) s) = (s, 0) then (takes (s.length + 1) s, 0) else ([], 3))

/-! ### written forms -/
theorem unq_nil : unq [] = ([], []) := rfl
theorem unq_quote {c : UInt8} (h : c.toNat = 34) (r : List UInt8) : unq (c :: r) = ([], r) := by rw [unq.eq_def]; exact if_pos h
theorem unq_esc {c : UInt8} (h : c.toNat = 92) (d : UInt8) (q : List UInt8) : unq (c :: d :: q) = (d :: (unq q).1, (unq q).2) := by
  rw [unq.eq_def]; simp only []; rw [if_neg (by omega), if_pos h]
theorem unq_last {c : UInt8} (h : c.toNat = 92) : unq [c] = ([c], []) := by
  rw [unq.eq_def]; simp only []; rw [if_neg (by omega), if_pos h]
theorem unq_else {c : UInt8} (h : c.toNat ≠ 34) (h2 : c.toNat ≠ 92) (r : List UInt8) : unq (c :: r) = (c :: (unq r).1, (unq r).2) := by
  rw [unq.eq_def]; simp only []; rw [if_neg h, if_neg h2]
theorem escL_cons (c : UInt8) (l : List UInt8) : escL (c :: l) = escB c ++ escL l := by simp [escL]
theorem escL_snoc (c : UInt8) (l : List UInt8) : escL (l ++ [c]) = escL l ++ escB c := by simp [escL]
theorem unq_escL : ∀ (x r : List UInt8), unq (escL x ++ 34 :: r) = (x, r)
  | [], r => by rw [show escL [] = [] from rfl, List.nil_append, unq_quote (by rfl)]
  | c :: x, r => by
    rw [escL_cons]
    by_cases h : esc c = true
    · rw [show escB c = [92, c] by simp [escB, h]]
      rw [show [92, c] ++ escL x ++ 34 :: r = 92 :: c :: (escL x ++ 34 :: r) by simp, unq_esc (by rfl), unq_escL x r]
    · have h' : c.toNat ≠ 34 ∧ c.toNat ≠ 92 := by simpa [esc] using h
      rw [show escB c = [c] by simp [escB, h]]
      rw [show [c] ++ escL x ++ 34 :: r = c :: (escL x ++ 34 :: r) by simp, unq_else h'.1 h'.2, unq_escL x r]
theorem plain_cons {x : List UInt8} (h : plainL x = true) : ∃ c r, x = c :: r ∧ need c = false ∧ ∀ d ∈ x, need d = false := by
  unfold plainL at h
  rw [Bool.and_eq_true] at h
  cases x with
  | nil => simp at h
  | cons c r =>
    have h2 : ∀ d ∈ c :: r, need d = false := fun d hd => by
      have := List.all_eq_true.1 h.2 d hd
      simpa using this
    exact ⟨c, r, rfl, h2 c (by simp), h2⟩
theorem need_no {c : UInt8} (h : need c = false) : c.toNat ≠ 32 ∧ c.toNat ≠ 34 ∧ c.toNat ≠ 92 := by
  simp [need] at h
  omega
theorem takeWhile_all {p : UInt8 → Bool} : ∀ {x : List UInt8} (r : List UInt8), (∀ d ∈ x, p d = true) → (∀ c q, r = c :: q → p c = false) → (x ++ r).takeWhile p = x ∧ (x ++ r).dropWhile p = r
  | [], r, _, hr => by
    cases r with
    | nil => exact ⟨rfl, rfl⟩
    | cons c q => simp [hr c q rfl]
  | d :: x, r, hx, hr => by
    have hd := hx d (by simp)
    have := takeWhile_all (x := x) r (fun e he => hx e (by simp [he])) hr
    simp [hd, this]
theorem takeL_wr (x r : List UInt8) (hr : ∀ c q, r = c :: q → c.toNat = 32) : takeL (wrL x ++ r) = (x, r) := by
  unfold wrL
  by_cases h : plainL x = true
  · rw [if_pos h]
    obtain ⟨c, q, rfl, hc, hall⟩ := plain_cons h
    have hn := need_no hc
    obtain ⟨h1, h2⟩ := takeWhile_all (p := notSp) (x := c :: q) r (fun d hd => by have := need_no (hall d hd); simp [notSp, this.1]) (fun d s e => by have := hr d s e; simp [notSp, this])
    rw [show (c :: q) ++ r = c :: (q ++ r) from rfl] at h1 h2 ⊢
    unfold takeL
    simp only [hn.2.1, if_false]
    rw [h1, h2]
  · rw [if_neg h]
    rw [show 34 :: (escL x ++ [34]) ++ r = 34 :: (escL x ++ 34 :: r) by simp]
    unfold takeL
    simp only [show (34 : UInt8).toNat = 34 from rfl, if_true]
    exact unq_escL x r
theorem wrL_ne (x : List UInt8) : wrL x ≠ [] := by
  unfold wrL
  split
  · rename_i h
    obtain ⟨c, q, rfl, _⟩ := plain_cons h
    simp
  · simp
theorem lineL_cons (x : List UInt8) (ls : List (List UInt8)) : lineL (x :: ls) = wrL x ++ (if ls = [] then [] else 32 :: lineL ls) := by
  cases ls with
  | nil => simp [lineL]
  | cons y r => simp [lineL]
theorem takes_line : ∀ (f : Nat) (ls : List (List UInt8)), ls ≠ [] → (lineL ls).length < f → takes f (lineL ls) = ls
  | 0, ls, _, h => by omega
  | f + 1, [], h, _ => absurd rfl h
  | f + 1, x :: ls, _, hf => by
    rw [lineL_cons] at hf ⊢
    by_cases hls : ls = []
    · subst hls
      rw [if_pos rfl, takes, takeL_wr x [] (fun c q e => by cases e)]
    · rw [if_neg hls] at hf ⊢
      rw [takes, takeL_wr x (32 :: lineL ls) (fun c q e => by cases e; rfl)]
      simp only []
      rw [takes_line f ls hls (by rw [List.length_append, List.length_cons] at hf; omega)]
theorem lineL_ne {ls : List (List UInt8)} (h : ls ≠ []) : lineL ls ≠ [] := by
  cases ls with
  | nil => exact absurd rfl h
  | cons x r =>
    rw [lineL_cons]
    intro e
    exact wrL_ne x (List.append_eq_nil_iff.1 e).1
theorem join_line {ls : List (List UInt8)} {s : List UInt8} (h : joinL ls = (s, 0)) : s = lineL ls ∧ faults ls = 0 ∧ (lineL ls).length ≤ 1024 := by
  unfold joinL at h
  split at h
  · split at h
    · simp at h
    · rename_i h1 h2
      exact ⟨by simp at h; exact h.symm, h1, by omega⟩
  · rename_i h1
    simp at h
    exact absurd h.2 h1
/-- P5.5, one way -/
theorem split_join {ls : List (List UInt8)} {s : List UInt8} (h : joinL ls = (s, 0)) : splitL s = (ls, 0) := by
  obtain ⟨rfl, h1, h2⟩ := join_line h
  unfold splitL
  rw [if_neg (by omega)]
  by_cases hls : ls = []
  · subst hls
    rfl
  · rw [if_neg (lineL_ne hls), takes_line _ ls hls (by omega), if_pos h]
/-- P5.5, the other way -/
theorem join_split {ls : List (List UInt8)} {s : List UInt8} (h : splitL s = (ls, 0)) : joinL ls = (s, 0) := by
  unfold splitL at h
  split at h
  · simp at h
  · split at h
    · rename_i h1
      simp at h
      subst h h1
      rfl
    · split at h
      · rename_i h1 h2 h3
        simp at h
        rw [← h]
        exact h3
      · simp at h
theorem split_err {s : List UInt8} : (splitL s).2 = 0 ∨ ((splitL s).1 = [] ∧ ((splitL s).2 = 8 ∨ (splitL s).2 = 3)) := by
  unfold splitL
  split
  · right; simp
  · split
    · left; rfl
    · split
      · left; rfl
      · right; simp
theorem join_err {ls : List (List UInt8)} : (joinL ls).2 = 0 ∨ ((joinL ls).1 = [] ∧ (joinL ls).2 ≠ 0) := by
  unfold joinL
  split
  · split
    · right; simp
    · left; rfl
  · rename_i h
    right
    exact ⟨rfl, h⟩

/-! ### reading: lengths -/
theorem unq_len : ∀ (n : Nat) (l : List UInt8), l.length ≤ n → (unq l).1.length ≤ l.length ∧ (unq l).2.length ≤ l.length
  | _, [], _ => ⟨Nat.le_refl _, Nat.le_refl _⟩
  | 0, c :: l, h => by simp at h
  | n + 1, c :: l, h => by
    have hl : l.length ≤ n := by simpa using h
    by_cases h1 : c.toNat = 34
    · rw [unq_quote h1]; simp
    · by_cases h2 : c.toNat = 92
      · cases l with
        | nil => rw [unq_last h2]; simp
        | cons d q =>
          rw [unq_esc h2]
          have := unq_len n q (by simp at hl; omega)
          simp
          omega
      · rw [unq_else h1 h2]
        have := unq_len n l hl
        simp
        omega
theorem span_len (p : UInt8 → Bool) : ∀ (l : List UInt8), (l.takeWhile p).length ≤ l.length ∧ (l.dropWhile p).length ≤ l.length
  | [] => ⟨Nat.le_refl _, Nat.le_refl _⟩
  | c :: l => by
    have := span_len p l
    cases h : p c <;> simp [h]
    all_goals omega
theorem takeL_len (l : List UInt8) : (takeL l).1.length ≤ l.length ∧ (takeL l).2.length ≤ l.length := by
  unfold takeL
  split
  · exact ⟨Nat.le_refl _, Nat.le_refl _⟩
  · rename_i c r
    split
    · have := unq_len _ r (Nat.le_refl _)
      simp
      omega
    · exact span_len notSp (c :: r)
theorem takes_more : ∀ (f : Nat) (l : List UInt8) (g : Nat), l.length < f → l.length < g → takes f l = takes g l
  | 0, l, g, h, _ => by omega
  | f + 1, l, 0, _, h => by omega
  | f + 1, l, g + 1, hf, hg => by
    unfold takes
    have hl := (takeL_len l).2
    cases h : (takeL l).2 with
    | nil => rfl
    | cons c r =>
      rw [h] at hl
      simp only [List.length_cons] at hl
      simp only [takes_more f r g (by omega) (by omega)]
theorem takes_step (l : List UInt8) (f : Nat) (h : l.length < f) : takes f l = (takeL l).1 :: (match (takeL l).2 with | [] => [] | _ :: r => takes (r.length + 1) r) := by
  obtain ⟨g, rfl⟩ : ∃ g, f = g + 1 := ⟨f - 1, by omega⟩
  rw [takes]
  have hl := (takeL_len l).2
  cases h2 : (takeL l).2 with
  | nil => rfl
  | cons c r =>
    rw [h2] at hl
    simp only [List.length_cons] at hl
    simp only [takes_more g r (r.length + 1) (by omega) (by omega)]
theorem takes_count : ∀ (f : Nat) (l : List UInt8), l.length < f → (takes f l).length ≤ l.length + 1
  | 0, l, h => by omega
  | f + 1, l, h => by
    rw [takes]
    have hl := (takeL_len l).2
    cases h2 : (takeL l).2 with
    | nil => simp
    | cons c r =>
      rw [h2] at hl
      simp only [List.length_cons] at hl ⊢
      have := takes_count f r (by omega)
      omega
theorem split_count (s : List UInt8) : (splitL s).1.length ≤ 1025 := by
  unfold splitL
  split
  · simp
  · split
    · simp
    · split
      · have := takes_count (s.length + 1) s (by omega)
        simp only []
        omega
      · simp

/-! ### texts -/
def keepL (l : List UInt8) : Bool := match l with | [] => false | c :: _ => !decide (c.toNat = 35)
/-- lines read so far, the line that is being read, what is still to come -/
def linesA (done : List (List (List UInt8))) (acc : List UInt8) : List UInt8 → List (List (List UInt8)) × Int
  | [] => (done, 0)
  | c :: r => if c.toNat = 10 then
      (if keepL acc then (if (splitL acc).2 = 0 then linesA (done ++ [(splitL acc).1]) [] r else ([], (splitL acc).2)) else linesA done [] r)
    else linesA done (acc ++ [c]) r
def endsL (s : List UInt8) : Bool := match s.getLast? with | none => true | some c => decide (c.toNat = 10)
def linesL (s : List UInt8) : List (List (List UInt8)) × Int := if endsL s then linesA [] [] s else ([], 3)
theorem linesA_err (r : List UInt8) : ∀ done acc, (linesA done acc r).2 = 0 ∨ (linesA done acc r).1 = [] := by
  induction r with
  | nil => intro done acc; left; rfl
  | cons c r ih =>
    intro done acc
    unfold linesA
    split
    · split
      · split
        · exact ih _ _
        · right; rfl
      · exact ih _ _
    · exact ih _ _
theorem lines_err (s : List UInt8) : (linesL s).2 = 0 ∨ (linesL s).1 = [] := by
  unfold linesL
  split
  · exact linesA_err s [] []
  · right; rfl
theorem linesA_skip (l : List UInt8) (h : ∀ c ∈ l, c.toNat ≠ 10) : ∀ done acc r, linesA done acc (l ++ r) = linesA done (acc ++ l) r := by
  induction l with
  | nil => intro done acc r; simp
  | cons c l ih =>
    intro done acc r
    rw [List.cons_append, linesA, if_neg (h c (by simp)), ih (fun d hd => h d (by simp [hd]))]
    simp
/-- one joined line -/
theorem linesA_line {s : List UInt8} (h : ∀ c ∈ s, c.toNat ≠ 10) (done : List (List (List UInt8))) (r : List UInt8) :
    linesA done [] (s ++ 10 :: r) = if keepL s then (if (splitL s).2 = 0 then linesA (done ++ [(splitL s).1]) [] r else ([], (splitL s).2)) else linesA done [] r := by
  rw [linesA_skip s h, List.nil_append, linesA, if_pos (by rfl)]
theorem fault_ok {x : List UInt8} (h : faultL x = 0) : x.length ≤ 256 ∧ ∀ c ∈ x, 32 ≤ c.toNat ∧ c.toNat ≤ 126 := by
  unfold faultL at h
  split at h
  · cases h
  · split at h
    · rename_i h1 h2
      refine ⟨by omega, fun c hc => ?_⟩
      have := List.all_eq_true.1 h2 c hc
      simpa [okC] using this
    · cases h
theorem faults_ok : ∀ {ls : List (List UInt8)}, faults ls = 0 → ∀ x ∈ ls, faultL x = 0
  | [], _, x, hx => by simp at hx
  | y :: ls, h, x, hx => by
    unfold faults at h
    split at h
    · rename_i h1
      rcases List.mem_cons.1 hx with rfl | hx
      · exact h1
      · exact faults_ok h x hx
    · rename_i h1
      exact absurd h h1
theorem escL_chars {x : List UInt8} (h : ∀ c ∈ x, c.toNat ≠ 10) : ∀ c ∈ escL x, c.toNat ≠ 10 := by
  intro c hc
  unfold escL at hc
  rw [List.mem_flatMap] at hc
  obtain ⟨d, hd, hc⟩ := hc
  unfold escB at hc
  split at hc
  · simp at hc
    rcases hc with rfl | rfl
    · decide
    · exact h _ hd
  · simp at hc
    subst hc
    exact h _ hd
theorem wrL_chars {x : List UInt8} (h : ∀ c ∈ x, c.toNat ≠ 10) : ∀ c ∈ wrL x, c.toNat ≠ 10 := by
  intro c hc
  unfold wrL at hc
  split at hc
  · exact h c hc
  · simp at hc
    rcases hc with rfl | hc | rfl
    · decide
    · exact escL_chars h c hc
    · decide
theorem lineL_chars : ∀ {ls : List (List UInt8)}, (∀ x ∈ ls, ∀ c ∈ x, c.toNat ≠ 10) → ∀ c ∈ lineL ls, c.toNat ≠ 10
  | [], _, c, hc => by simp [lineL] at hc
  | x :: ls, h, c, hc => by
    rw [lineL_cons] at hc
    rcases List.mem_append.1 hc with hc | hc
    · exact wrL_chars (h x (by simp)) c hc
    · split at hc
      · simp at hc
      · rcases List.mem_cons.1 hc with rfl | hc
        · decide
        · exact lineL_chars (fun y hy => h y (by simp [hy])) c hc
theorem join_chars {ls : List (List UInt8)} {s : List UInt8} (h : joinL ls = (s, 0)) : ∀ c ∈ s, c.toNat ≠ 10 := by
  obtain ⟨rfl, h1, _⟩ := join_line h
  exact lineL_chars fun x hx c hc => by have := (fault_ok (faults_ok h1 x hx)).2 c hc; omega
theorem split_small {s x : List UInt8} (h : x ∈ (splitL s).1) : x.length ≤ 256 := by
  rcases split_err (s := s) with h0 | ⟨h0, _⟩
  · have := join_split (s := s) (ls := (splitL s).1) (by rw [← h0])
    exact (fault_ok (faults_ok (join_line this).2.1 x h)).1
  · rw [h0] at h; cases h

/-! ### numbers -/
def isNeg (s : List UInt8) : Bool := match s with | [] => false | c :: _ => decide (c.toNat = 45)
def digsL (s : List UInt8) : List UInt8 := if isNeg s then s.tail else s
def zeroL (s : List UInt8) : Bool := match s with | [] => false | c :: _ => decide (c.toNat = 48)
/-- the decimal form of no integer -/
def badL (s : List UInt8) : Bool := (digsL s).isEmpty || (zeroL (digsL s) && !decide (s = [48])) || !(digsL s).all isD
def numL (s : List UInt8) : Int × Int := if badL s then (0, 3) else if 1000000000000 < rdA (digsL s) 0 then (0, 1) else (if isNeg s then -(rdA (digsL s) 0 : Int) else (rdA (digsL s) 0 : Int), 0)
end Go.Proofs.YtdkhajpkldjlmaaDoor
