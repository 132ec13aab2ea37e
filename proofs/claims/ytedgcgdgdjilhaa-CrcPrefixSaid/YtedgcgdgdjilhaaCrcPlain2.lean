/-
  Frames in plain words (no program): cut and damaged frames, sequences of frames.
-/
import Derived.Test.YtedgcgdgdjilhaaCrcPlain
namespace Go.Proofs.Ytedgcgdgdjilhaa
set_option linter.unusedVariables false
set_option linter.unusedSimpArgs false

theorem open_short {l : List UInt8} {j : Nat} (h : l.length ≤ 65536) (hj : j < (frameL l).length) : openS ((frameL l).take j) = ([], 0, 4) := by
  rw [frameL_length] at hj
  by_cases hv : j < (vL l.length).length
  · have e : (frameL l).take j = (vL l.length).take j := by
      unfold frameL
      rw [List.append_assoc, List.take_append_of_le_length (by omega)]
    unfold openS
    rw [e, take_short (by omega) hv]
    simp
  · have e : (frameL l).take j = vL l.length ++ (l ++ tailL (sumS l)).take (j - (vL l.length).length) := by
      unfold frameL
      rw [List.append_assoc, List.take_append, List.take_of_length_le (by omega)]
    have hl : ((frameL l).take j).length = j := by rw [List.length_take, frameL_length]; omega
    have hp : takeU ((frameL l).take j) = (l.length, (vL l.length).length, 0) := by
      rw [e]
      exact take_put _ _ (by omega)
    unfold openS
    rw [hp, hl]
    simp only [if_true]
    rw [if_neg (by omega), if_pos (by omega)]

/-- a byte of the content or of the checksum is changed -/
theorem open_damaged {l : List UInt8} {i : Nat} {c : UInt8} (h : l.length ≤ 65536) (h0 : (vL l.length).length ≤ i) (hi : i < (frameL l).length) (hne : c ≠ (frameL l)[i]) :
    openS ((frameL l).set i c) = ([], 0, 15) := by
  have hfl := frameL_length l
  by_cases hb : i < (vL l.length).length + l.length
  · have hj : i - (vL l.length).length < l.length := by omega
    have e : (frameL l).set i c = vL (l.set (i - (vL l.length).length) c).length ++ l.set (i - (vL l.length).length) c ++ tailL (sumS l) ++ [] := by
      unfold frameL
      rw [List.set_append_left _ _ (by simpa using hb), List.set_append_right _ _ h0]
      simp
    have hg : (frameL l)[i] = l[i - (vL l.length).length] := by
      simp only [frameL]
      rw [List.getElem_append_left (by simpa using hb), List.getElem_append_right h0]
    rw [hg] at hne
    rw [e, open_form _ _ _ (by simpa using h) rfl, if_neg]
    intro ht
    exact sumS_set hj hne (tailL_inj (extS_lt _ _) (extS_lt _ _) ht).symm
  · have hj : i - ((vL l.length).length + l.length) < (tailL (sumS l)).length := by rw [tailL_length]; omega
    have e : (frameL l).set i c = vL l.length ++ l ++ (tailL (sumS l)).set (i - ((vL l.length).length + l.length)) c ++ [] := by
      unfold frameL
      rw [List.set_append_right _ _ (by simp; omega)]
      simp
    have hg : (frameL l)[i] = (tailL (sumS l))[i - ((vL l.length).length + l.length)] := by
      simp only [frameL]
      rw [List.getElem_append_right (by simp; omega)]
      simp
    rw [hg] at hne
    rw [e, open_form _ _ _ h (by rw [List.length_set, tailL_length]), if_neg]
    intro ht
    have h1 : ((tailL (sumS l)).set (i - ((vL l.length).length + l.length)) c)[i - ((vL l.length).length + l.length)]? = some c := List.getElem?_set_self hj
    rw [ht, List.getElem?_eq_getElem hj] at h1
    exact hne (Option.some.inj h1).symm

/-- one frame after the other -/
def allA : Nat → List UInt8 → List (List UInt8) × Nat
  | 0, _ => ([], 0)
  | f + 1, l => if l = [] then ([], 0) else if (openS l).2.2 = 0 then ((openS l).1 :: (allA f (l.drop (openS l).2.1)).1, (openS l).2.1 + (allA f (l.drop (openS l).2.1)).2) else ([], 0)
def allS (l : List UInt8) : List (List UInt8) × Nat := allA (l.length + 1) l
theorem open_count {l : List UInt8} (h : (openS l).2.2 = 0) : 5 ≤ (openS l).2.1 ∧ (openS l).2.1 ≤ l.length := by
  obtain ⟨h1, h2, h3, h4⟩ := open_back (o := l) (d := (openS l).1) (m := (openS l).2.1) (by rw [← h])
  have := (vL_le10 (v := (openS l).1.length) (by omega)).1
  rw [frameL_length] at h2
  omega
theorem allA_fuel (f g : Nat) (l : List UInt8) (hf : l.length < f) (hg : l.length < g) : allA f l = allA g l := by
  induction f generalizing g l with
  | zero => omega
  | succ f ih =>
    cases g with
    | zero => omega
    | succ g =>
      unfold allA
      split
      · rfl
      · split
        · rename_i h
          have := open_count h
          rw [ih g (l.drop (openS l).2.1) (by simp; omega) (by simp; omega)]
        · rfl
theorem all_nil : allS [] = ([], 0) := rfl
theorem all_stop {l : List UInt8} (h : (openS l).2.2 ≠ 0) : allS l = ([], 0) := by
  show allA (l.length + 1) l = _
  unfold allA
  by_cases h0 : l = []
  · rw [if_pos h0]
  · rw [if_neg h0, if_neg h]
theorem all_more {l : List UInt8} (h : (openS l).2.2 = 0) : allS l = ((openS l).1 :: (allS (l.drop (openS l).2.1)).1, (openS l).2.1 + (allS (l.drop (openS l).2.1)).2) := by
  have hc := open_count h
  have hl : l ≠ [] := by rintro rfl; simp at hc; omega
  have e := allA_fuel l.length ((l.drop (openS l).2.1).length + 1) (l.drop (openS l).2.1) (by simp; omega) (by omega)
  show allA (l.length + 1) l = _
  unfold allA
  rw [if_neg hl, if_pos h, e]
  rfl
theorem all_count (f : Nat) (l : List UInt8) : (allA f l).2 ≤ l.length ∧ 5 * (allA f l).1.length ≤ (allA f l).2 := by
  induction f generalizing l with
  | zero => simp [allA]
  | succ f ih =>
    unfold allA
    split
    · simp
    · split
      · rename_i h
        have := open_count h
        have i1 := ih (l.drop (openS l).2.1)
        simp only [List.length_drop, List.length_cons] at i1 ⊢
        omega
      · simp

def framesL : List (List UInt8) → List UInt8
  | [] => []
  | c :: r => frameL c ++ framesL r
theorem framesL_append (a b : List (List UInt8)) : framesL (a ++ b) = framesL a ++ framesL b := by
  induction a with
  | nil => rfl
  | cons c r ih => simp only [List.cons_append, framesL, ih, List.append_assoc]
/-- frames cut off: the whole ones are given back -/
theorem all_cut (cs : List (List UInt8)) (k cut : Nat) (hc : ∀ c ∈ cs, c.length ≤ 65536) (hk : k ≤ cs.length) (h1 : (framesL (cs.take k)).length ≤ cut)
    (h2 : k < cs.length → cut < (framesL (cs.take (k + 1))).length) : allS ((framesL cs).take cut) = (cs.take k, (framesL (cs.take k)).length) := by
  induction cs generalizing k cut with
  | nil => simp [framesL, all_nil]
  | cons c r ih =>
    have hcl := hc c List.mem_cons_self
    cases k with
    | zero =>
      have h3 := h2 (by simp)
      simp only [List.take_succ_cons, List.take_zero, framesL, List.append_nil] at h3
      rw [show (framesL (c :: r)).take cut = (frameL c).take cut by
        simp only [framesL]
        rw [List.take_append_of_le_length (by omega)]]
      rw [all_stop (by rw [open_short hcl h3]; decide)]
      rfl
    | succ k =>
      simp only [List.take_succ_cons, framesL, List.length_append] at h1 h2 ⊢
      rw [List.take_append, List.take_of_length_le (by omega)]
      have ho := open_frame c ((framesL r).take (cut - (frameL c).length)) hcl
      rw [all_more (by rw [ho]), ho]
      simp only [List.drop_left]
      rw [ih k (cut - (frameL c).length) (fun x hx => hc x (List.mem_cons_of_mem _ hx)) (by simpa using hk) (by omega) (fun h => by have := h2 (by simpa using h); omega)]
end Go.Proofs.Ytedgcgdgdjilhaa
