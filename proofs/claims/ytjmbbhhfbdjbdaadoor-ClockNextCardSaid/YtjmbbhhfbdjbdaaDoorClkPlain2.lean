/-
  Plain: the common parts of two lists of windows.
-/
import Derived.Test.YtjmbbhhfbdjbdaaDoorClkPlain
namespace Go.Proofs.YtjmbbhhfbdjbdaaDoor

def cut1 (v w : Int × Int) : List (Int × Int) := if max v.1 w.1 < min v.2 w.2 then [(max v.1 w.1, min v.2 w.2)] else []
def cutRow (v : Int × Int) (y : List (Int × Int)) : List (Int × Int) := y.flatMap (cut1 v)
def inter (x y : List (Int × Int)) : List (Int × Int) := x.flatMap fun v => cutRow v y

theorem canon_mk : ∀ (l : List (Int × Int)), (∀ z ∈ l, z.1 < z.2) → l.Pairwise (fun a b => a.2 < b.1) → canon l
  | [], _, _ => trivial
  | z :: l, h1, h2 => by
    rw [List.pairwise_cons] at h2
    exact canon_cons (h1 z (by simp)) h2.1 (canon_mk l (fun y hy => h1 y (by simp [hy])) h2.2)
theorem canon_pw : ∀ (l : List (Int × Int)), canon l → l.Pairwise (fun a b => a.2 < b.1)
  | [], _ => List.Pairwise.nil
  | _ :: l, h => List.pairwise_cons.2 ⟨canon_lt h, canon_pw l (canon_tail h)⟩
theorem canon_all : ∀ (l : List (Int × Int)), canon l → ∀ z ∈ l, z.1 < z.2
  | [], _, _, hz => by cases hz
  | y :: l, h, z, hz => by
    rcases List.mem_cons.1 hz with rfl | hz
    · exact canon_head h
    · exact canon_all l (canon_tail h) z hz
theorem mem_cut1 {v w p : Int × Int} (h : p ∈ cut1 v w) : p = (max v.1 w.1, min v.2 w.2) ∧ p.1 < p.2 := by
  unfold cut1 at h
  split at h
  · rename_i hlt
    simp at h
    subst h
    exact ⟨rfl, hlt⟩
  · cases h
theorem inter_canon {x y : List (Int × Int)} (hx : canon x) (hy : canon y) : canon (inter x y) := by
  refine canon_mk _ ?_ ?_
  · intro p hp
    simp only [inter, cutRow, List.mem_flatMap] at hp
    obtain ⟨v, _, w, _, hp⟩ := hp
    exact (mem_cut1 hp).2
  · unfold inter
    rw [List.pairwise_flatMap]
    constructor
    · intro v _
      unfold cutRow
      rw [List.pairwise_flatMap]
      constructor
      · intro w _
        unfold cut1
        split
        · exact List.pairwise_singleton _ _
        · exact List.Pairwise.nil
      · refine (canon_pw y hy).imp ?_
        intro w w' hlt p hp q hq
        obtain ⟨rfl, _⟩ := mem_cut1 hp
        obtain ⟨rfl, _⟩ := mem_cut1 hq
        simp only []
        omega
    · refine (canon_pw x hx).imp ?_
      intro v v' hlt p hp q hq
      simp only [cutRow, List.mem_flatMap] at hp hq
      obtain ⟨w, _, hp⟩ := hp
      obtain ⟨w', _, hq⟩ := hq
      obtain ⟨rfl, _⟩ := mem_cut1 hp
      obtain ⟨rfl, _⟩ := mem_cut1 hq
      simp only []
      omega
theorem inter_ins (x y : List (Int × Int)) (t : Int) : insB (inter x y) t = (insB x t && insB y t) := by
  rw [Bool.eq_iff_iff, Bool.and_eq_true, insB_true, insB_true, insB_true]
  constructor
  · rintro ⟨p, hp, h1, h2⟩
    simp only [inter, cutRow, List.mem_flatMap] at hp
    obtain ⟨v, hv, w, hw, hp⟩ := hp
    obtain ⟨rfl, _⟩ := mem_cut1 hp
    simp only [] at h1 h2
    exact ⟨⟨v, hv, by omega, by omega⟩, ⟨w, hw, by omega, by omega⟩⟩
  · rintro ⟨⟨v, hv, h1, h2⟩, ⟨w, hw, h3, h4⟩⟩
    refine ⟨(max v.1 w.1, min v.2 w.2), ?_, by simp only []; omega, by simp only []; omega⟩
    simp only [inter, cutRow, List.mem_flatMap]
    refine ⟨v, hv, w, hw, ?_⟩
    unfold cut1
    rw [if_pos (by omega)]
    simp
theorem cut1_length (v w : Int × Int) : (cut1 v w).length ≤ 1 := by
  unfold cut1
  split <;> simp
theorem cutRow_length (v : Int × Int) : ∀ (y : List (Int × Int)), (cutRow v y).length ≤ y.length
  | [] => by simp [cutRow]
  | w :: y => by
    have h1 := cut1_length v w
    have h2 := cutRow_length v y
    simp [cutRow] at *
    omega
theorem inter_length : ∀ (x y : List (Int × Int)), (inter x y).length ≤ x.length * y.length
  | [], y => by simp [inter]
  | v :: x, y => by
    have h1 := cutRow_length v y
    have h2 := inter_length x y
    have e : inter (v :: x) y = cutRow v y ++ inter x y := by simp [inter]
    rw [e, List.length_append, List.length_cons, Nat.add_mul]
    omega
theorem inter_snoc (x y : List (Int × Int)) (v : Int × Int) : inter (x ++ [v]) y = inter x y ++ cutRow v y := by simp [inter]
theorem cutRow_snoc (v w : Int × Int) (y : List (Int × Int)) : cutRow v (y ++ [w]) = cutRow v y ++ cut1 v w := by simp [cutRow]
/-- what Common returns -/
def comS (a b : List (Int × Int)) : List (Int × Int) × Int := if a.all wB && b.all wB then (inter (unite a) (unite b), 0) else ([], 1)
end Go.Proofs.YtjmbbhhfbdjbdaaDoor
