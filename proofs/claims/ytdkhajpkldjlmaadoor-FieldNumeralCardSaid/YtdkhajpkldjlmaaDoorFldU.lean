/-
  Lemmas over strings, slices of strings and rows that the texts over package field share (no function of the program).
-/
import Derived.Test.YtdkhajpkldjlmaaDoorStr
import Derived.Test.YtdkhajpkldjlmaaDoorFldPlain
import Derived.Test.YtdkhajpkldjlmaaDoorStrs2
import Derived.Test.YtdkhajpkldjlmaaDoorVals
namespace Go.Proofs.YtdkhajpkldjlmaaDoor
set_option linter.unusedVariables false
set_option linter.unusedSimpArgs false
open Go.RowKit

theorem all_take (p : UInt8 → Bool) (s : ByteArray) (k : Nat) (hk : k < s.size) : (s.data.toList.take (k + 1)).all p = ((s.data.toList.take k).all p && p (s[k]'hk)) := by
  have h : k < s.data.toList.length := by simpa using hk
  rw [List.take_add_one, List.getElem?_eq_getElem h]
  simp [List.all_append]
  rfl
theorem all_not (p : UInt8 → Bool) (s : ByteArray) (k : Nat) (hk : k < s.size) (h : p (s[k]'hk) = false) : s.data.toList.all p = false := by
  rw [List.all_eq_false]
  exact ⟨s[k], by
    have hl : k < s.data.toList.length := by simpa using hk
    exact List.getElem_mem hl, by simpa using h⟩
theorem all_end (p : UInt8 → Bool) (s : ByteArray) (k : Nat) (hk : ¬ k < s.size) (h : (s.data.toList.take k).all p = true) : s.data.toList.all p = true := by
  have e : s.data.toList.length = s.size := rfl
  rwa [List.take_of_length_le (by omega)] at h
theorem take_snoc (s : ByteArray) (k : Nat) (hk : k < s.size) : s.data.toList.take (k + 1) = s.data.toList.take k ++ [s[k]'hk] := by
  have h : k < s.data.toList.length := by simpa using hk
  rw [List.take_add_one, List.getElem?_eq_getElem h]
  rfl
theorem ne_empty {s : ByteArray} (h : 0 < s.size) : s.toList.isEmpty = false ∧ (s.toList == []) = false := by
  have e : s.toList.length = s.size := by rw [ByteArray.toList_eq]; rfl
  cases hs : s.toList with
  | nil => rw [hs] at e; simp at e; omega
  | cons a b => exact ⟨rfl, rfl⟩
theorem is_empty {s : ByteArray} (h : s.size = 0) : s = ⟨#[]⟩ := by
  apply ByteArray.ext
  have : s.data.size = 0 := h
  exact Array.size_eq_zero_iff.1 this
/-- the three tests of a byte -/
theorem bytes3 {y : Nat} (h : ¬ (y = 32 ∨ y = 34 ∨ y = 92)) : ((y : Int) == 32) = false ∧ ((y : Int) == 34) = false ∧ ((y : Int) == 92) = false := by
  refine ⟨?_, ?_, ?_⟩ <;> simp <;> omega

theorem mid_one (s : ByteArray) (k : Nat) (hk : k < s.size) : ∃ a : ByteArray, a.data.toList = [s[k]'hk] ∧ a.size = 1 ∧
    ∀ W, (Instr.slice 9 (.string s) (some (.int .i64 (k : Int))) (some (.int .i64 ((k : Int) + 1))) none).run Tryd.prog W = .ok (.string a) W := by
  refine ⟨s.extract k (k + 1), ?_, by rw [ext_size _ _ _ (by omega)]; omega, fun W => ?_⟩
  · rw [ext_data, tail_at s k hk, show k + 1 - k = 1 by omega]; rfl
  · rw [run_slice_string _ _ _ _ _ _ _ Tryd.underlying9 (by omega) (by omega) (by omega)]
    rfl
theorem escB_length (c : UInt8) : 1 ≤ (escB c).length ∧ (escB c).length ≤ 2 := by unfold escB; split <;> simp
theorem escL_length : ∀ (l : List UInt8), l.length ≤ (escL l).length ∧ (escL l).length ≤ 2 * l.length
  | [] => by simp [escL]
  | c :: l => by
    have h1 := escB_length c
    have h2 := escL_length l
    rw [escL_cons, List.length_append, List.length_cons]
    omega

def ofL (l : List UInt8) : ByteArray := ⟨l.toArray⟩
theorem ofL_data (l : List UInt8) : (ofL l).data.toList = l := rfl
theorem ofL_of {s : ByteArray} {l : List UInt8} (h : s.data.toList = l) : s = ofL l := by
  subst h
  rfl
theorem ofL_size (l : List UInt8) : (ofL l).size = l.length := rfl
/-- the bytes of a list of strings -/
def B (l : List ByteArray) : List (List UInt8) := l.map fun s => s.data.toList
theorem B_length (l : List ByteArray) : (B l).length = l.length := by simp [B]
theorem B_take (l : List ByteArray) (k : Nat) (hk : k < l.length) : (B l).take (k + 1) = (B l).take k ++ [(l[k]?.getD ByteArray.empty).data.toList] := by
  rw [List.take_add_one]
  simp [B, hk]
theorem B_drop (l : List ByteArray) (k : Nat) (hk : k < l.length) : (B l).drop k = (l[k]?.getD ByteArray.empty).data.toList :: (B l).drop (k + 1) := by
  have h : k < (B l).length := by rw [B_length]; exact hk
  rw [List.drop_eq_getElem_cons h]
  simp [B, hk]
theorem faults_cons (x : List UInt8) (r : List (List UInt8)) : faults (x :: r) = if faultL x = 0 then faults r else faultL x := rfl
theorem lineL_snoc : ∀ (l : List (List UInt8)) (x : List UInt8), lineL (l ++ [x]) = if l = [] then wrL x else lineL l ++ 32 :: wrL x
  | [], x => rfl
  | [y], x => by simp [lineL]
  | y :: z :: l, x => by
    have := lineL_snoc (z :: l) x
    simp only [List.cons_append, lineL] at this ⊢
    rw [this]
    simp
theorem lineL_take_le (l : List (List UInt8)) : ∀ k, (lineL (l.take k)).length ≤ (lineL l).length := by
  have step : ∀ j, (lineL (l.take j)).length ≤ (lineL (l.take (j + 1))).length := fun j => by
    rw [List.take_add_one]
    cases l[j]? with
    | none => simp
    | some x =>
      rw [Option.toList_some, lineL_snoc]
      split
      · rename_i h; rw [h]; simp [lineL]
      · simp
  have up : ∀ d k, (lineL (l.take k)).length ≤ (lineL (l.take (k + d))).length := fun d => by
    induction d with
    | zero => intro k; exact Nat.le_refl _
    | succ d ih => intro k; exact Nat.le_trans (ih k) (step (k + d))
  intro k
  have := up l.length k
  rwa [List.take_of_length_le (l := l) (i := k + l.length) (by omega)] at this
theorem wrL_length (l : List UInt8) : (wrL l).length ≤ 2 * l.length + 2 := by
  unfold wrL
  have := (escL_length l).2
  split
  · omega
  · simp; omega

theorem slice_drop (s : ByteArray) (n : Nat) (h : n ≤ s.size) : ∃ a : ByteArray, a.data.toList = s.data.toList.drop n ∧ a.size = s.size - n ∧
    ∀ W, (Instr.slice 9 (.string s) (some (.int .i64 (n : Int))) none none).run Tryd.prog W = .ok (.string a) W := by
  refine ⟨s.extract n s.size, by rw [ext_data]; exact List.take_of_length_le (by simp), by rw [ext_size _ _ _ (Nat.le_refl _)], fun W => ?_⟩
  rw [run_slice_string_from_if _ _ _ _ _ Tryd.underlying9, if_pos ⟨by omega, by omega⟩]
  rfl
/-- a call that gives back a new list of fields and an error -/
def GivesStrs (w : World) (r : List (List UInt8) × Int) (e : Ending) (w' : World) : Prop :=
  ∃ b c l, e = .returned (.tuple #[.slice b l.length c, .int .i64 r.2]) ∧ B l = r.1 ∧ Strs w' b l ∧ (∀ x, b = some x → w.heap.size ≤ x.block ∧ x.block < w'.heap.size) ∧ Below w.heap.size w w'
theorem info_string : (Tryd.prog.info? 9).map (fun i => (i.zero, i.size, i.bytes)) = some (some (.string ByteArray.empty), 1, 16) := by kernel_rfl
theorem own_far {w : World} {base : Nat} {e : TypeId} {size n m c : Nat} {a : Option Addr} {xs : List Value} (h : w.ownsRow base e size (.slice a m c) n xs) : ∀ x, a = some x → base ≤ x.block ∧ x.block < w.heap.size := by
  rcases h.2 with ⟨h0, _⟩ | ⟨g, cap, cur, hv, hb, hg, _⟩
  · intro x hx
    obtain rfl : a = none := (Value.slice.inj h0).1
    cases hx
  · intro x hx
    obtain rfl : a = some ⟨g, 0, none⟩ := (Value.slice.inj hv).1
    cases hx
    exact ⟨hb, (Array.getElem?_eq_some_iff.1 hg).1⟩
theorem own_block {a : Option Addr} {n c g : Nat} (h : (Value.slice a n c).ownBlock = some g) : ∃ x, a = some x ∧ x.block = g := by
  cases a with
  | none => cases h
  | some x => exact ⟨x, rfl, by simpa [Value.ownBlock] using h⟩
theorem B_snoc (l : List ByteArray) (s : ByteArray) : B (l ++ [s]) = B l ++ [s.data.toList] := by simp [B]
theorem split_long {s : List UInt8} (h : 1024 < s.length) : splitL s = ([], 8) := by unfold splitL; rw [if_pos h]
theorem split_empty : splitL [] = ([], 0) := rfl
theorem split_some {s : List UInt8} {ls : List (List UInt8)} (h : s.length ≤ 1024) (h0 : s ≠ []) (ht : takes (s.length + 1) s = ls) : splitL s = if joinL ls = (s, 0) then (ls, 0) else ([], 3) := by
  unfold splitL
  rw [if_neg (by omega), if_neg h0, ht]

theorem own_apart {w : World} {base : Nat} {e : TypeId} {v : Value} {n : Nat} {vals : List Value} (h : w.ownsRow base e 1 v n vals) {b : Nat} (hb : w.heap.size ≤ b) : v.ownBlock ≠ some b := by
  intro e
  rcases h.2 with ⟨rfl, _⟩ | ⟨g, cap, cur, rfl, _, hg, _⟩
  · cases e
  · have := (Array.getElem?_eq_some_iff.1 hg).1
    have h2 : g = b := by simpa [Value.ownBlock] using e
    omega

theorem num_bad {s : List UInt8} (h : badL s = true) : numL s = (0, 3) := by unfold numL; rw [if_pos h]
theorem num_range {s d : List UInt8} (h : badL s = false) (hd : digsL s = d) (hr : 1000000000000 < rdA d 0) : numL s = (0, 1) := by unfold numL; rw [h, hd]; simp [hr]
theorem num_neg {s d : List UInt8} (h : badL s = false) (hd : digsL s = d) (hr : rdA d 0 ≤ 1000000000000) (hn : isNeg s = true) : numL s = (-(rdA d 0 : Int), 0) := by
  unfold numL
  rw [h, hd, hn, if_neg (by decide), if_neg (by omega)]
  rfl
theorem num_pos {s d : List UInt8} (h : badL s = false) (hd : digsL s = d) (hr : rdA d 0 ≤ 1000000000000) (hn : isNeg s = false) : numL s = ((rdA d 0 : Int), 0) := by
  unfold numL
  rw [h, hd, hn, if_neg (by decide), if_neg (by omega)]
  rfl
theorem zero_is (d : ByteArray) (h : 0 < d.size) : zeroL d.data.toList = decide ((d[0]'h).toNat = 48) := by
  have e := tail_at d 0 h
  rw [List.drop_zero] at e
  rw [e]
  rfl
theorem neg_is (d : ByteArray) (h : 0 < d.size) : isNeg d.data.toList = decide ((d[0]'h).toNat = 45) := by
  have e := tail_at d 0 h
  rw [List.drop_zero] at e
  rw [e]
  rfl
theorem bad_is {s d : List UInt8} (hd : digsL s = d) (hne : d ≠ []) : badL s = ((zeroL d && !decide (s = [48])) || !d.all isD) := by
  unfold badL
  rw [hd]
  cases d with
  | nil => exact absurd rfl hne
  | cons c r => simp
theorem bad_empty {s : List UInt8} (hd : digsL s = []) : badL s = true := by
  unfold badL
  rw [hd]
  rfl
theorem str_zero (s : ByteArray) : (s.toList == [48]) = decide (s.data.toList = [48]) := by
  rw [ByteArray.toList_eq, Bool.eq_iff_iff]
  simp
theorem rdA_take (d : ByteArray) (k : Nat) (hk : k < d.size) (hd : 48 ≤ (d[k]'hk).toNat ∧ (d[k]'hk).toNat ≤ 57) : rdA (d.data.toList.take (k + 1)) 0 = 10 * rdA (d.data.toList.take k) 0 + ((d[k]'hk).toNat - 48) := by
  rw [take_snoc d k hk, rdA_append]
  simp [rdA, isD, hd]
theorem rdA_take_le (d : ByteArray) (k : Nat) : rdA (d.data.toList.take k) 0 ≤ rdA d.data.toList 0 := by
  have h : d.data.toList = d.data.toList.take k ++ d.data.toList.drop k := (List.take_append_drop k _).symm
  rw [h, rdA_append, List.take_append_drop]
  exact rdA_le _ _

end Go.Proofs.YtdkhajpkldjlmaaDoor
