/-
  The library's Cut at one byte, Clone, TrimPrefix, CutPrefix, HasSuffix and ContainsAny, as package field calls them.
-/
import Derived.Test.YtdkhajpkldjlmaaDoorFldU
import Derived.Test.YtdkhajpkldjlmaaDoorFldRd
import Derived.Test.YtdkhajpkldjlmaaDoorFldShelf
import Derived.Lib.Small
import Derived.Lib.IndexAny
import Derived.Shelf.Strings.Search2
import Derived.Shelf.Strings.Prefix
import Derived.Shelf.Small.Wraps
import Derived.Shelf.Strings.IndexAnyAll
import Derived.Shelf.Strconv.Clone
import Derived.Deep.QuietTactic
import Derived.BigQuiet
namespace Go.Proofs.YtdkhajpkldjlmaaDoor
set_option linter.unusedVariables false
set_option linter.unusedSimpArgs false
open Go.RowKit Go.Shelf

def notB (c d : UInt8) : Bool := !(d == c)
theorem cut_facts (c : UInt8) : ∀ l : List UInt8, (Lib.indexByte l c = -1 ∧ l.takeWhile (notB c) = l ∧ (l.dropWhile (notB c)).tail = []) ∨
    ∃ i : Nat, Lib.indexByte l c = (i : Int) ∧ i < l.length ∧ l.takeWhile (notB c) = l.take i ∧ (l.dropWhile (notB c)).tail = l.drop (i + 1)
  | [] => .inl ⟨rfl, rfl, rfl⟩
  | b :: l => by
    by_cases h : (b == c) = true
    · refine .inr ⟨0, ?_, by simp, ?_, ?_⟩
      · unfold Lib.indexByte; rw [if_pos h]; rfl
      · simp [List.takeWhile_cons, notB, h]
      · simp [List.dropWhile_cons, notB, h]
    · have hn : notB c b = true := by simp [notB]; simpa using h
      rcases cut_facts c l with ⟨h1, h2, h3⟩ | ⟨i, h1, h2, h3, h4⟩
      · refine .inl ⟨?_, ?_, ?_⟩
        · unfold Lib.indexByte; rw [if_neg h, h1]; rfl
        · rw [List.takeWhile_cons, if_pos hn, h2]
        · rw [List.dropWhile_cons, if_pos hn, h3]
      · refine .inr ⟨i + 1, ?_, by simp; omega, ?_, ?_⟩
        · unfold Lib.indexByte
          rw [if_neg h, h1, if_neg (by simp)]
          rfl
        · rw [List.takeWhile_cons, if_pos hn, h3]; rfl
        · rw [List.dropWhile_cons, if_pos hn, h4]; rfl
theorem notB_sp : notB 32 = notSp := by
  funext c
  unfold notB notSp
  congr 1
  rw [Bool.eq_iff_iff]
  simp
  constructor
  · rintro rfl; rfl
  · intro h; exact UInt8.toNat_inj.1 h
/-- what Cut gives at one byte -/
def CutOf (c : UInt8) (s : ByteArray) (w : World) (e : Ending) (w' : World) : Prop :=
  ∃ b : Bool, e = .returned (.tuple #[.string (ofL (s.data.toList.takeWhile (notB c))), .string (ofL (s.data.toList.dropWhile (notB c)).tail), .bool b]) ∧ Below w.heap.size w w'

set_option maxRecDepth 20000 in
set_option maxHeartbeats 2000000 in
theorem cutLow_any (c : UInt8) (s : ByteArray) (w : World) (hs : s.size ≤ 1000000) :
    Calls Tryd.prog 31 #[.string s, .string ⟨#[c]⟩] w (CutOf c s w) := by
  rcases cut_facts c s.data.toList with ⟨h1, h2, h3⟩ | ⟨i, h1, h2, h3, h4⟩
  · have E2 := Lib.hid (show ofL (s.data.toList.takeWhile (notB c)) = s by rw [h2]; rfl)
    have E3 := Lib.hid (show ofL (s.data.toList.dropWhile (notB c)).tail = ⟨#[]⟩ by rw [h3]; rfl)
    have H1 := Lib.hid h1
    clear h1 h2 h3
    go_enter Tryd.func31, Tryd.ntmps31
    go_wp2_with (go_at_call 40; refine (Any.stringslite_Index_one Tryd.laysIndex _ _ _).mono ?_; rintro e w' ⟨rfl, rfl⟩; rw [H1.out])
    go_ret3
    exact ⟨false, by rw [E2.out, E3.out]; rfl, Below.refl _ _⟩
  · have hi : i < s.size := h2
    obtain ⟨a, ha, hza, hsa⟩ := slice_to s i (by omega)
    obtain ⟨b, hb, hzb, hsb⟩ := slice_from s i 1 1 rfl (by omega)
    have E2 := Lib.hid (show ofL (s.data.toList.takeWhile (notB c)) = a by rw [h3]; exact (ofL_of ha).symm)
    have E3 := Lib.hid (show ofL (s.data.toList.dropWhile (notB c)).tail = b by rw [h4]; exact (ofL_of hb).symm)
    have H1 := Lib.hid h1
    have hwr : IntKind.i64.wrap ((i : Int) + 1) = (i : Int) + 1 := IntWalk.i64_in _ (by omega)
    clear h1 h2 h3 h4 ha hb hza hzb
    go_enter Tryd.func31, Tryd.ntmps31
    go_wp2_with (go_at_call 40; refine (Any.stringslite_Index_one Tryd.laysIndex _ _ _).mono ?_; rintro e w' ⟨rfl, rfl⟩; rw [H1.out])
    go_quiet (fail)
    go_wp2
    go_ret3
    exact ⟨true, by rw [E2.out, E3.out]; rfl, by (repeat' first | with_reducible assumption | exact Below.refl _ _ | with_reducible refine Below.drew ?_ | with_reducible refine Below.drewN ?_ _ | with_reducible refine Below.alloc' ?_ _ | with_reducible refine Below.setCell ?_ (by first | exact Nat.le_refl _ | omega | (simp; done) | (simp; omega)) _ | with_reducible refine Below.after ?_ ‹_›)⟩
set_option maxHeartbeats 2000000 in
theorem cut_any (c : UInt8) (s : ByteArray) (w : World) (hs : s.size ≤ 1000000) :
    Calls Tryd.prog 21 #[.string s, .string ⟨#[c]⟩] w (CutOf c s w) := by
  go_enter Tryd.func21, Tryd.ntmps21
  go_wp2_with fail
  refine (cutLow_any c s _ hs).mono ?_
  rintro e w1 ⟨b, rfl, hb⟩
  go_wp2
  go_ret3
  exact ⟨b, rfl, hb⟩
set_option maxHeartbeats 2000000 in
theorem clone_any (s : ByteArray) (w : World) (hs : s.size ≤ 1000000) :
    Calls Tryd.prog 28 #[.string s] w fun e w' => e = .returned (.string s) ∧ Below w.heap.size w w' := by
  go_enter Tryd.func28, Tryd.ntmps28
  go_wp2_with fail
  refine (Any.stringslite_Clone Tryd.laysClone s _ (by omega)).mono ?_
  rintro e w1 ⟨rfl, hb⟩
  go_wp2
  go_ret
  exact ⟨rfl, hb⟩
theorem beq_num (k c : UInt8) : (k == c) = decide (c.toNat = k.toNat) := by
  rw [Bool.eq_iff_iff]
  simp
  constructor
  · rintro rfl; rfl
  · intro h; exact (UInt8.toNat_inj.1 h).symm
theorem trim_any (s : ByteArray) (w : World) :
    Calls Tryd.prog 37 #[.string s, .string ⟨#[32]⟩] w fun e w' => e = .returned (.string (ofL (trimSp s.data.toList))) ∧ w = w' := by
  refine (Any.strings_TrimPrefix Tryd.laysTrim s ⟨#[32]⟩ w).mono ?_
  rintro e w' ⟨rfl, rfl⟩
  refine ⟨?_, rfl⟩
  congr 2
  unfold ofL
  congr 2
  unfold Lib.trimPrefix Lib.hasPrefix trimSp
  cases s.data.toList with
  | nil => rfl
  | cons c r =>
    by_cases h : c.toNat = 32
    · obtain rfl : c = 32 := UInt8.toNat_inj.1 h
      simp [List.isPrefixOf]
    · have h2 : ¬ (32 = c) := by rintro rfl; exact h rfl
      simp [List.isPrefixOf, h, h2]
theorem cutPrefix_any (s : ByteArray) (w : World) :
    Calls Tryd.prog 8 #[.string s, .string ⟨#[45]⟩] w fun e w' => e = .returned (.tuple #[.string (ofL (digsL s.data.toList)), .bool (isNeg s.data.toList)]) ∧ w = w' := by
  refine (Any.strings_CutPrefix Tryd.laysCutPrefix s ⟨#[45]⟩ w).mono ?_
  rintro e w' ⟨rfl, rfl⟩
  refine ⟨?_, rfl⟩
  have h1 : Lib.hasPrefix s.data.toList [45] = isNeg s.data.toList := by
    unfold Lib.hasPrefix isNeg
    cases s.data.toList with
    | nil => rfl
    | cons c r =>
      simp [List.isPrefixOf]
      exact beq_num 45 c
  have h2 : Lib.trimPrefix s.data.toList [45] = digsL s.data.toList := by
    unfold Lib.trimPrefix digsL
    rw [h1]
    cases s.data.toList <;> simp [isNeg]
  show Ending.returned (.tuple #[.string ⟨(Lib.trimPrefix s.data.toList [45]).toArray⟩, .bool (Lib.hasPrefix s.data.toList [45])]) = _
  rw [h1, h2]
  rfl
theorem suffix_any (s : ByteArray) (w : World) (hs : s.size ≤ 1000000) :
    Calls Tryd.prog 20 #[.string s, .string ⟨#[10]⟩] w fun e w' => e = .returned (.bool (Lib.hasSuffix s.data.toList [10])) ∧ w = w' := by
  refine (Any.strings_HasSuffix Tryd.laysSuffix s ⟨#[10]⟩ w (by omega)).mono ?_
  rintro e w' ⟨rfl, rfl⟩
  exact ⟨rfl, rfl⟩
theorem suffix_is (s : ByteArray) (h0 : 0 < s.size) : Lib.hasSuffix s.data.toList [10] = endsL s.data.toList := by
  unfold Lib.hasSuffix endsL
  have hne : s.data.toList ≠ [] := by
    intro e
    have : s.data.toList.length = s.size := rfl
    rw [e] at this
    simp at this
    omega
  obtain ⟨l, c, hl⟩ : ∃ l c, s.data.toList = l ++ [c] := ⟨_, _, (List.dropLast_concat_getLast hne).symm⟩
  rw [hl]
  simp [List.isSuffixOf]
  show ((10 == c) && _) = _
  rw [beq_num 10 c]
  simp
theorem contains_need : ∀ l : List UInt8, Lib.containsAny l [32, 34, 92] = l.any need := by
  intro l
  induction l with
  | nil => rfl
  | cons c r ih =>
    have hc : ([32, 34, 92] : List UInt8).contains c = need c := by
      rw [Bool.eq_iff_iff]
      simp [need]
      have e : ∀ k : UInt8, c = k ↔ c.toNat = k.toNat := fun k => ⟨fun h => by rw [h], fun h => UInt8.toNat_inj.1 h⟩
      rw [e 32, e 34, e 92]
      simp [or_assoc]
    unfold Lib.containsAny at ih ⊢
    unfold Lib.indexAny
    rw [hc, List.any_cons, ← ih]
    cases need c
    · simp only [Bool.false_eq_true, if_false, Bool.false_or]
      have := Lib.indexAny_ge [32, 34, 92] r
      split
      · rename_i h
        have : Lib.indexAny r [32, 34, 92] = -1 := by simpa using h
        rw [this]
      · rename_i h
        have h2 : Lib.indexAny r [32, 34, 92] ≠ -1 := by simpa using h
        rw [Bool.eq_iff_iff]
        simp
        omega
    · simp
theorem contains_any (s : ByteArray) (w : World) (hs : s.size ≤ 1000000) (h : s.data.toList.all okC = true) :
    Calls Tryd.prog 29 #[.string s, .string ⟨#[32, 34, 92]⟩] w fun e w' => e = .returned (.bool (s.data.toList.any need)) ∧ Below w.heap.size w w' := by
  have := Any.strings_ContainsAny_laid Tryd.laysContains (by kernel_rfl) s ⟨#[32, 34, 92]⟩ w (by omega) (by decide) (fun j b hb => by
    have hm := List.mem_of_getElem? hb
    have := List.all_eq_true.1 h b hm
    simp [okC] at this
    omega) (fun j b hb => by
    have hm := List.mem_of_getElem? hb
    simp at hm
    rcases hm with rfl | rfl | rfl <;> decide)
  refine this.mono ?_
  rintro e w' ⟨rfl, hb⟩
  refine ⟨?_, hb⟩
  rw [show (⟨#[32, 34, 92]⟩ : ByteArray).data.toList = [32, 34, 92] from rfl, contains_need]
end Go.Proofs.YtdkhajpkldjlmaaDoor
