/-
  Plain: windows sorted by any method and joined are the union.
-/
import Derived.Test.YtjmbbhhfbdjbdaaDoorClkC
import Derived.Sort.Statements
namespace Go.Proofs.YtjmbbhhfbdjbdaaDoor

/-- the windows that are not empty -/
def fullW (l : List (Int × Int)) : List (Int × Int) := l.filter fun z => decide (z.1 < z.2)
theorem full_ins (l : List (Int × Int)) (t : Int) : insB (fullW l) t = insB l t := by
  rw [Bool.eq_iff_iff, insB_true, insB_true]
  constructor
  · rintro ⟨z, hz, h1, h2⟩
    exact ⟨z, (List.mem_filter.1 hz).1, h1, h2⟩
  · rintro ⟨z, hz, h1, h2⟩
    exact ⟨z, List.mem_filter.2 ⟨hz, by simp; omega⟩, h1, h2⟩
theorem full_take (l : List (Int × Int)) (k : Nat) (hk : k < l.length) : fullW (l.take (k + 1)) = fullW (l.take k) ++ (if (l[k]?.getD (0, 0)).1 < (l[k]?.getD (0, 0)).2 then [l[k]?.getD (0, 0)] else []) := by
  unfold fullW
  rw [take_succ_pair l k hk, List.filter_append]
  congr 1
  by_cases h : (l[k]?.getD (0, 0)).1 < (l[k]?.getD (0, 0)).2
  · rw [if_pos h]; simp [h]
  · rw [if_neg h]; simp [h]
theorem full_length (l : List (Int × Int)) : (fullW l).length ≤ l.length := List.length_filter_le _ _
theorem ins_perm {l m : List (Int × Int)} (h : l.Perm m) (t : Int) : insB l t = insB m t := by
  rw [Bool.eq_iff_iff, insB_true, insB_true]
  constructor
  · rintro ⟨z, hz, h1⟩
    exact ⟨z, h.mem_iff.1 hz, h1⟩
  · rintro ⟨z, hz, h1⟩
    exact ⟨z, h.mem_iff.2 hz, h1⟩
theorem sorted_unite {l ys : List (Int × Int)} (hp : ys.Perm (fullW l)) (ha : ascend ys) : (ys.foldl joinR []).reverse = unite l := by
  have hne : ∀ z ∈ ys, z.1 < z.2 := fun z hz => by
    have := (List.mem_filter.1 (hp.mem_iff.1 hz)).2
    simpa using this
  have h := joinR_all ys [] trivial ha hne (by simp)
  refine unite_eq (canonR_reverse _ h.1) (fun t => ?_)
  rw [insB_reverse, h.2, ins_perm hp, full_ins]
  simp [insB]
theorem ascend_mk : ∀ (l : List (Int × Int)), (∀ i j, i < j → j < l.length → (l[i]?.getD (0, 0)).1 ≤ (l[j]?.getD (0, 0)).1) → ascend l
  | [], _ => trivial
  | z :: l, h => by
    refine ⟨fun y hy => ?_, ascend_mk l fun i j hij hj => ?_⟩
    · obtain ⟨j, hj, rfl⟩ := List.getElem_of_mem hy
      have := h 0 (j + 1) (by omega) (by simpa using hj)
      simpa [List.getElem?_eq_getElem hj] using this
    · have := h (i + 1) (j + 1) (by omega) (by simpa using hj)
      simpa using this
theorem get_bang {d : Array (Int × Int)} {i : Nat} (h : i < d.size) : d[i]! = d.toList[i]?.getD (0, 0) := by
  rw [getElem!_pos d i h]
  simp [h]
/-- what the library's sort says, of lists -/
theorem sorted_list {d d' : Array (Int × Int)} {lt : Int × Int → Int × Int → Bool} (hlt : ∀ x y, lt x y = false → y.1 ≤ x.1) (hp : Sort.PermIn 0 d.size d d') (hs : Sort.SortedIn lt 0 d.size d') :
    d'.toList.Perm d.toList ∧ ascend d'.toList := by
  obtain ⟨h1, _, h3⟩ := hp
  constructor
  · have e1 : (d'.extract 0 d.size) = d' := by rw [← h1]; simp
    have e2 : (d.extract 0 d.size) = d := by simp
    rw [e1, e2] at h3
    exact h3
  · refine ascend_mk _ fun i j hij hj => ?_
    have hj' : j < d'.size := by simpa using hj
    have := hlt _ _ (hs i j (Nat.zero_le _) hij (by omega))
    rw [get_bang (by omega), get_bang (by omega)] at this
    exact this
end Go.Proofs.YtjmbbhhfbdjbdaaDoor
