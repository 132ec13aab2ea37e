/-
  Plain: lists of windows in ascending order and apart, what they contain; sorting and uniting.
-/
import Derived.Test.YtjmbbhhfbdjbdaaDoorRows
namespace Go.Proofs.YtjmbbhhfbdjbdaaDoor

/-- whether a window of the list contains t -/
def insB (l : List (Int × Int)) (t : Int) : Bool := l.any fun z => decide (z.1 ≤ t) && decide (t < z.2)
theorem insB_true {l : List (Int × Int)} {t : Int} : insB l t = true ↔ ∃ z ∈ l, z.1 ≤ t ∧ t < z.2 := by simp [insB]
theorem insB_cons (z : Int × Int) (l : List (Int × Int)) (t : Int) : insB (z :: l) t = ((decide (z.1 ≤ t) && decide (t < z.2)) || insB l t) := by simp [insB]
theorem insB_append (l m : List (Int × Int)) (t : Int) : insB (l ++ m) t = (insB l t || insB m t) := by simp [insB]

/-- not empty, in ascending order, the end of each before the beginning of the next -/
def canon : List (Int × Int) → Prop
  | [] => True
  | [z] => z.1 < z.2
  | z :: y :: l => z.1 < z.2 ∧ z.2 < y.1 ∧ canon (y :: l)

theorem canon_tail {z : Int × Int} {l : List (Int × Int)} (h : canon (z :: l)) : canon l := by
  cases l with
  | nil => trivial
  | cons y l => exact h.2.2
theorem canon_head {z : Int × Int} {l : List (Int × Int)} (h : canon (z :: l)) : z.1 < z.2 := by
  cases l with
  | nil => exact h
  | cons y l => exact h.1
theorem canon_lt {z : Int × Int} {l : List (Int × Int)} (h : canon (z :: l)) : ∀ y ∈ l, z.2 < y.1 := by
  induction l generalizing z with
  | nil => intro y hy; cases hy
  | cons x l ih =>
    intro y hy
    have h1 := h.2.1
    have h2 := canon_head h.2.2
    rcases List.mem_cons.1 hy with rfl | hy
    · exact h1
    · have := ih h.2.2 y hy
      omega
theorem canon_cons {z : Int × Int} {l : List (Int × Int)} (h1 : z.1 < z.2) (h2 : ∀ y ∈ l, z.2 < y.1) (h3 : canon l) : canon (z :: l) := by
  cases l with
  | nil => exact h1
  | cons y l => exact ⟨h1, h2 y (by simp), h3⟩
theorem ins_ge {z : Int × Int} {l : List (Int × Int)} (h : canon (z :: l)) {t : Int} (ht : insB l t = true) : z.2 < t := by
  obtain ⟨y, hy, h1, _⟩ := insB_true.1 ht
  have := canon_lt h y hy
  omega

/-- such a list is known by what it contains -/
theorem canon_unique : ∀ (a b : List (Int × Int)), canon a → canon b → (∀ t, insB a t = insB b t) → a = b
  | [], [], _, _, _ => rfl
  | [], y :: b, _, hb, h => by
    have h1 := h y.1
    have h2 := canon_head hb
    rw [insB_cons] at h1
    simp [insB] at h1
    omega
  | x :: a, [], ha, _, h => by
    have h1 := h x.1
    have h2 := canon_head ha
    rw [insB_cons] at h1
    simp [insB] at h1
    omega
  | x :: a, y :: b, ha, hb, h => by
    have hx := canon_head ha
    have hy := canon_head hb
    have ex : x.1 = y.1 := by
      have h1 : insB (y :: b) x.1 = true := by rw [← h, insB_cons]; simp; omega
      have h2 : insB (x :: a) y.1 = true := by rw [h, insB_cons]; simp; omega
      rw [insB_cons] at h1 h2
      simp at h1 h2
      rcases h1 with h1 | h1
      · rcases h2 with h2 | h2
        · omega
        · have := ins_ge ha h2; omega
      · rcases h2 with h2 | h2
        · have := ins_ge hb h1; omega
        · have := ins_ge hb h1; have := ins_ge ha h2; omega
    have ey : x.2 = y.2 := by
      rcases Int.lt_trichotomy x.2 y.2 with hlt | heq | hgt
      · exfalso
        have h1 : insB (x :: a) x.2 = true := by rw [h, insB_cons]; simp; omega
        rw [insB_cons] at h1
        simp at h1
        have := ins_ge ha h1
        omega
      · exact heq
      · exfalso
        have h1 : insB (y :: b) y.2 = true := by rw [← h, insB_cons]; simp; omega
        rw [insB_cons] at h1
        simp at h1
        have := ins_ge hb h1
        omega
    have et : a = b := by
      refine canon_unique a b (canon_tail ha) (canon_tail hb) (fun t => ?_)
      have h1 := h t
      rw [insB_cons, insB_cons, ex, ey] at h1
      by_cases hin : y.1 ≤ t ∧ t < y.2
      · have n1 : insB a t = false := by
          cases e : insB a t
          · rfl
          · have := ins_ge ha e; omega
        have n2 : insB b t = false := by
          cases e : insB b t
          · rfl
          · have := ins_ge hb e; omega
        rw [n1, n2]
      · have : (decide (y.1 ≤ t) && decide (t < y.2)) = false := by simp; omega
        rw [this] at h1
        simpa using h1
    rw [et, show x = y from Prod.ext ex ey]

/-- the windows of a list, joined one after the other: the last one stands first -/
def joinR : List (Int × Int) → Int × Int → List (Int × Int)
  | [], w => [w]
  | z :: r, w => if w.1 ≤ z.2 then (z.1, max z.2 w.2) :: r else w :: z :: r

/-- apart, the last one first -/
def canonR : List (Int × Int) → Prop
  | [] => True
  | [z] => z.1 < z.2
  | z :: y :: l => z.1 < z.2 ∧ y.2 < z.1 ∧ canonR (y :: l)
theorem canonR_head {z : Int × Int} {l : List (Int × Int)} (h : canonR (z :: l)) : z.1 < z.2 := by
  cases l with
  | nil => exact h
  | cons y l => exact h.1
theorem canonR_tail {z : Int × Int} {l : List (Int × Int)} (h : canonR (z :: l)) : canonR l := by
  cases l with
  | nil => trivial
  | cons y l => exact h.2.2
theorem canon_snoc : ∀ (l : List (Int × Int)) (z : Int × Int), canon l → z.1 < z.2 → (∀ y ∈ l, y.2 < z.1) → canon (l ++ [z])
  | [], z, _, h, _ => h
  | x :: l, z, hc, h, hl => by
    refine canon_cons (canon_head hc) ?_ (canon_snoc l z (canon_tail hc) h fun y hy => hl y (by simp [hy]))
    intro y hy
    rcases List.mem_append.1 hy with hy | hy
    · exact canon_lt hc y hy
    · simp at hy
      subst hy
      exact hl x (by simp)
theorem canonR_gt {z : Int × Int} {l : List (Int × Int)} (h : canonR (z :: l)) : ∀ y ∈ l, y.2 < z.1 := by
  induction l generalizing z with
  | nil => intro y hy; cases hy
  | cons x l ih =>
    intro y hy
    have h1 := h.2.1
    have h2 := canonR_head h.2.2
    rcases List.mem_cons.1 hy with rfl | hy
    · exact h1
    · have := ih h.2.2 y hy
      omega
theorem canonR_reverse : ∀ (l : List (Int × Int)), canonR l → canon l.reverse
  | [], _ => trivial
  | z :: l, h => by
    rw [List.reverse_cons]
    exact canon_snoc _ _ (canonR_reverse l (canonR_tail h)) (canonR_head h) (fun y hy => canonR_gt h y (List.mem_reverse.1 hy))
theorem insB_reverse (l : List (Int × Int)) (t : Int) : insB l.reverse t = insB l t := by simp [insB]

theorem joinR_ok {l : List (Int × Int)} {w : Int × Int} (hc : canonR l) (hw : w.1 < w.2) (hs : ∀ z ∈ l, z.1 ≤ w.1) :
    canonR (joinR l w) ∧ (∀ t, insB (joinR l w) t = (insB l t || (decide (w.1 ≤ t) && decide (t < w.2)))) ∧ ∀ z ∈ joinR l w, z.1 ≤ w.1 := by
  cases l with
  | nil => exact ⟨hw, fun t => by simp [joinR, insB], fun z hz => by simp [joinR] at hz; subst hz; exact Int.le_refl _⟩
  | cons z r =>
    have hz := hs z (by simp)
    have hz2 := canonR_head hc
    rw [show joinR (z :: r) w = if w.1 ≤ z.2 then (z.1, max z.2 w.2) :: r else w :: z :: r from rfl]
    by_cases h : w.1 ≤ z.2
    · rw [if_pos h]
      refine ⟨?_, fun t => ?_, fun y hy => ?_⟩
      · cases r with
        | nil => show z.1 < max z.2 w.2; omega
        | cons y r => exact ⟨by show z.1 < max z.2 w.2; omega, hc.2.1, hc.2.2⟩
      · rw [insB_cons, insB_cons]
        simp only []
        rw [Bool.eq_iff_iff]
        simp
        constructor
        · rintro (⟨h1, h2⟩ | h1)
          · omega
          · exact Or.inl (Or.inr h1)
        · rintro ((⟨h1, h2⟩ | h1) | ⟨h1, h2⟩)
          · left; omega
          · exact Or.inr h1
          · left; omega
      · rcases List.mem_cons.1 hy with rfl | hy
        · exact hz
        · exact hs y (by simp [hy])
    · rw [if_neg h]
      refine ⟨⟨hw, by omega, hc⟩, fun t => ?_, fun y hy => ?_⟩
      · rw [insB_cons]
        rw [Bool.or_comm]
      · rcases List.mem_cons.1 hy with rfl | hy
        · exact Int.le_refl _
        · exact hs y hy

/-- in ascending order of the beginnings -/
def ascend : List (Int × Int) → Prop
  | [] => True
  | z :: l => (∀ y ∈ l, z.1 ≤ y.1) ∧ ascend l
theorem joinR_all : ∀ (l acc : List (Int × Int)), canonR acc → ascend l → (∀ z ∈ l, z.1 < z.2) → (∀ z ∈ acc, ∀ y ∈ l, z.1 ≤ y.1) →
    canonR (l.foldl joinR acc) ∧ ∀ t, insB (l.foldl joinR acc) t = (insB acc t || insB l t)
  | [], acc, hc, _, _, _ => ⟨hc, fun t => by simp [insB]⟩
  | w :: l, acc, hc, ha, hne, hacc => by
    have h := joinR_ok hc (hne w (by simp)) (fun z hz => hacc z hz w (by simp))
    have ih := joinR_all l (joinR acc w) h.1 ha.2 (fun z hz => hne z (by simp [hz])) (fun z hz y hy => by
      have := h.2.2 z hz
      have := ha.1 y hy
      omega)
    refine ⟨ih.1, fun t => ?_⟩
    rw [List.foldl_cons, ih.2, h.2.1, insB_cons, Bool.or_assoc]

/-- a window put into a list before the first that begins later -/
def putS : List (Int × Int) → Int × Int → List (Int × Int)
  | [], w => [w]
  | x :: l, w => if w.1 < x.1 then w :: x :: l else x :: putS l w
theorem mem_putS : ∀ (l : List (Int × Int)) (w z : Int × Int), z ∈ putS l w ↔ z = w ∨ z ∈ l
  | [], w, z => by simp [putS]
  | x :: l, w, z => by
    unfold putS
    split
    · simp
    · simp [mem_putS l w z]
      constructor <;> rintro (h | h | h) <;> simp [h]
theorem putS_ascend : ∀ (l : List (Int × Int)) (w : Int × Int), ascend l → ascend (putS l w)
  | [], w, _ => ⟨by simp, trivial⟩
  | x :: l, w, h => by
    unfold putS
    split
    · rename_i hlt
      exact ⟨fun y hy => by
        rcases List.mem_cons.1 hy with rfl | hy
        · omega
        · have := h.1 y hy; omega, h⟩
    · rename_i hlt
      exact ⟨fun y hy => by
        rcases (mem_putS l w y).1 hy with rfl | hy
        · omega
        · exact h.1 y hy, putS_ascend l w h.2⟩
theorem insB_putS (l : List (Int × Int)) (w : Int × Int) (t : Int) : insB (putS l w) t = (insB l t || (decide (w.1 ≤ t) && decide (t < w.2))) := by
  induction l with
  | nil => simp [putS, insB]
  | cons x l ih =>
    unfold putS
    split
    · rw [insB_cons, Bool.or_comm]
    · rw [insB_cons, insB_cons, ih, Bool.or_assoc]

/-- a valid window -/
def wB (z : Int × Int) : Bool := decide (0 ≤ z.1) && decide (z.1 ≤ z.2) && decide (z.2 ≤ 3155760000)
/-- the windows that are not empty, in order -/
def sortS (l : List (Int × Int)) : List (Int × Int) := l.foldl (fun a w => if w.1 < w.2 then putS a w else a) []
theorem sortS_all : ∀ (l acc : List (Int × Int)), ascend acc → (∀ z ∈ acc, z.1 < z.2) →
    ascend (l.foldl (fun a w => if w.1 < w.2 then putS a w else a) acc) ∧ (∀ z ∈ l.foldl (fun a w => if w.1 < w.2 then putS a w else a) acc, z.1 < z.2) ∧
    ∀ t, insB (l.foldl (fun a w => if w.1 < w.2 then putS a w else a) acc) t = (insB acc t || insB l t)
  | [], acc, h1, h2 => ⟨h1, h2, fun t => by simp [insB]⟩
  | w :: l, acc, h1, h2 => by
    rw [List.foldl_cons]
    by_cases hw : w.1 < w.2
    · rw [if_pos hw]
      have ih := sortS_all l (putS acc w) (putS_ascend acc w h1) (fun z hz => by
        rcases (mem_putS acc w z).1 hz with rfl | hz
        · exact hw
        · exact h2 z hz)
      exact ⟨ih.1, ih.2.1, fun t => by rw [ih.2.2, insB_putS, insB_cons, Bool.or_assoc]⟩
    · rw [if_neg hw]
      have ih := sortS_all l acc h1 h2
      refine ⟨ih.1, ih.2.1, fun t => ?_⟩
      rw [ih.2.2, insB_cons]
      have : (decide (w.1 ≤ t) && decide (t < w.2)) = false := by simp; omega
      rw [this, Bool.false_or]
/-- the union of windows, in the form of Merge -/
def unite (l : List (Int × Int)) : List (Int × Int) := ((sortS l).foldl joinR []).reverse
theorem unite_canon (l : List (Int × Int)) : canon (unite l) := by
  have h := sortS_all l [] trivial (by simp)
  exact canonR_reverse _ (joinR_all _ [] trivial h.1 h.2.1 (by simp)).1
theorem unite_ins (l : List (Int × Int)) (t : Int) : insB (unite l) t = insB l t := by
  have h := sortS_all l [] trivial (by simp)
  have h2 := (joinR_all _ [] trivial h.1 h.2.1 (by simp)).2 t
  have h3 := h.2.2 t
  unfold unite sortS
  rw [insB_reverse, h2, h3]
  simp [insB]
/-- a list in that form with the same moments is the union -/
theorem unite_eq {l m : List (Int × Int)} (h : canon m) (hi : ∀ t, insB m t = insB l t) : m = unite l :=
  canon_unique m (unite l) h (unite_canon l) (fun t => by rw [hi, unite_ins])
end Go.Proofs.YtjmbbhhfbdjbdaaDoor
