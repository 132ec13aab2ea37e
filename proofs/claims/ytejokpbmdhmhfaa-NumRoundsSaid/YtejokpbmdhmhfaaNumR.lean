/-
  Walks over the reference of package num: In, abs, bounded, Add, Sub, Scale, Mul.
-/
import Derived.Test.YtejokpbmdhmhfaaNumD
import Derived.Deep.DeepCutAuto
namespace Go.Proofs.Ytejokpbmdhmhfaa
open Go.RowKit

set_option maxHeartbeats 400000 in
theorem rIn_any (n : Int) (w : World) :
    Calls Try.prog 24 #[.int .i64 n] w fun e w' => e = .returned (.bool (inRB n)) ∧ w = w' := by
  by_cases h1 : -1125899906842624 ≤ n
  · by_cases h2 : n ≤ 1125899906842624
    · have h : inRB n = true := inRB_true.2 ⟨h1, h2⟩
      rw [h]
      clear h
      go_enter Try.func24, Try.ntmps24
      go_wp2
      go_ret
      exact ⟨rfl, rfl⟩
    · have h : inRB n = false := inRB_false.2 (by omega)
      rw [h]
      clear h
      go_enter Try.func24, Try.ntmps24
      go_wp2
      go_ret
      exact ⟨rfl, rfl⟩
  · have h : inRB n = false := inRB_false.2 (by omega)
    rw [h]
    clear h
    go_enter Try.func24, Try.ntmps24
    go_wp2
    go_ret
    exact ⟨rfl, rfl⟩

theorem rIn_yes (n : Int) (w : World) (h : inRB n = true) :
    Calls Try.prog 24 #[.int .i64 n] w fun e w' => e = .returned (.bool true) ∧ w = w' := by
  have := rIn_any n w
  rwa [h] at this
theorem rIn_no (n : Int) (w : World) (h : inRB n = false) :
    Calls Try.prog 24 #[.int .i64 n] w fun e w' => e = .returned (.bool false) ∧ w = w' := by
  have := rIn_any n w
  rwa [h] at this

set_option maxHeartbeats 400000 in
theorem rAbs_any (n : Int) (w : World) (h : inRB n = true) :
    Calls Try.prog 40 #[.int .i64 n] w fun e w' => e = .returned (.int .i64 (n.natAbs : Int)) ∧ w = w' := by
  have h1 := inRB_true.1 h
  clear h
  by_cases h2 : n < 0
  · have e : (n.natAbs : Int) = -n := by omega
    rw [e]
    clear e
    go_enter Try.func40, Try.ntmps40
    go_wp2
    go_ret
    exact ⟨rfl, rfl⟩
  · have e : (n.natAbs : Int) = n := by omega
    rw [e]
    clear e
    go_enter Try.func40, Try.ntmps40
    go_wp2
    go_ret
    exact ⟨rfl, rfl⟩


set_option maxHeartbeats 400000 in
theorem rBounded_any (n : Int) (w : World) :
    Calls Try.prog 34 #[.int .i64 n] w fun e w' => e = .returned (.tuple #[.int .i64 (chkS n).1, .int .i64 (chkS n).2]) ∧ w = w' := by
  cases h : inRB n
  · have e : chkS n = (0, 2) := by simp [chkS, h]
    rw [e]
    clear e
    go_enter Try.func34, Try.ntmps34
    go_wp2_with (go_at_call 24; refine (rIn_no n _ h).mono ?_; rintro e w' ⟨rfl, rfl⟩)
    go_ret2
    exact ⟨rfl, rfl⟩
  · have e : chkS n = (n, 0) := by simp [chkS, h]
    rw [e]
    clear e
    go_enter Try.func34, Try.ntmps34
    go_wp2_with (go_at_call 24; refine (rIn_yes n _ h).mono ?_; rintro e w' ⟨rfl, rfl⟩)
    go_ret2
    exact ⟨rfl, rfl⟩

set_option maxHeartbeats 400000 in
theorem rAdd_any (a b : Int) (w : World) :
    Calls Try.prog 13 #[.int .i64 a, .int .i64 b] w fun e w' => e = .returned (.tuple #[.int .i64 (addS a b).1, .int .i64 (addS a b).2]) ∧ w = w' := by
  cases h1 : inRB a
  · have e : addS a b = (0, 1) := by simp [addS, h1]
    rw [e]
    have H := Lib.hid h1
    clear e h1
    go_enter Try.func13, Try.ntmps13
    go_wp2_with (go_at_call 24; refine (rIn_no a _ H.out).mono ?_; rintro e w' ⟨rfl, rfl⟩)
    go_ret2
    exact ⟨rfl, rfl⟩
  · cases h2 : inRB b
    · have e : addS a b = (0, 1) := by simp [addS, h2]
      rw [e]
      have H := Lib.hid h1
      have H2 := Lib.hid h2
      clear e h1 h2
      go_enter Try.func13, Try.ntmps13
      go_wp2_with fail
      refine (rIn_yes a _ H.out).mono ?_
      rintro e w' ⟨rfl, rfl⟩
      go_wp2_with fail
      refine (rIn_no b _ H2.out).mono ?_
      rintro e w' ⟨rfl, rfl⟩
      go_wp2
      go_ret2
      exact ⟨rfl, rfl⟩
    · have e : addS a b = chkS (a + b) := by simp [addS, h1, h2]
      rw [e]
      have b1 := inRB_true.1 h1
      have b2 := inRB_true.1 h2
      have H := Lib.hid h1
      have H2 := Lib.hid h2
      clear e h1 h2
      go_enter Try.func13, Try.ntmps13
      go_wp2_with fail
      refine (rIn_yes a _ H.out).mono ?_
      rintro e w' ⟨rfl, rfl⟩
      go_wp2_with fail
      refine (rIn_yes b _ H2.out).mono ?_
      rintro e w' ⟨rfl, rfl⟩
      go_wp2_with fail
      refine (rBounded_any _ _).mono ?_
      rintro e w' ⟨rfl, rfl⟩
      go_wp2
      go_ret2
      exact ⟨rfl, rfl⟩

set_option maxHeartbeats 400000 in
theorem rSub_any (a b : Int) (w : World) :
    Calls Try.prog 15 #[.int .i64 a, .int .i64 b] w fun e w' => e = .returned (.tuple #[.int .i64 (subS a b).1, .int .i64 (subS a b).2]) ∧ w = w' := by
  cases h1 : inRB a
  · have e : subS a b = (0, 1) := by simp [subS, h1]
    rw [e]
    have H := Lib.hid h1
    clear e h1
    go_enter Try.func15, Try.ntmps15
    go_wp2_with (go_at_call 24; refine (rIn_no a _ H.out).mono ?_; rintro e w' ⟨rfl, rfl⟩)
    go_ret2
    exact ⟨rfl, rfl⟩
  · cases h2 : inRB b
    · have e : subS a b = (0, 1) := by simp [subS, h2]
      rw [e]
      have H := Lib.hid h1
      have H2 := Lib.hid h2
      clear e h1 h2
      go_enter Try.func15, Try.ntmps15
      go_wp2_with fail
      refine (rIn_yes a _ H.out).mono ?_
      rintro e w' ⟨rfl, rfl⟩
      go_wp2_with fail
      refine (rIn_no b _ H2.out).mono ?_
      rintro e w' ⟨rfl, rfl⟩
      go_wp2
      go_ret2
      exact ⟨rfl, rfl⟩
    · have e : subS a b = chkS (a - b) := by simp [subS, h1, h2]
      rw [e]
      have b1 := inRB_true.1 h1
      have b2 := inRB_true.1 h2
      have H := Lib.hid h1
      have H2 := Lib.hid h2
      clear e h1 h2
      go_enter Try.func15, Try.ntmps15
      go_wp2_with fail
      refine (rIn_yes a _ H.out).mono ?_
      rintro e w' ⟨rfl, rfl⟩
      go_wp2_with fail
      refine (rIn_yes b _ H2.out).mono ?_
      rintro e w' ⟨rfl, rfl⟩
      go_wp2_with fail
      refine (rBounded_any _ _).mono ?_
      rintro e w' ⟨rfl, rfl⟩
      go_wp2
      go_ret2
      exact ⟨rfl, rfl⟩

set_option maxHeartbeats 1000000 in
theorem rScale_bad (a b c m : Int) (w : World) (h : okScale a b c m = false) :
    Calls Try.prog 22 #[.int .i64 a, .int .i64 b, .int .i64 c, .int .i64 m] w fun e w' => e = .returned (.tuple #[.int .i64 0, .int .i64 1]) ∧ w = w' := by
  cases h1 : inRB a
  · have H1 := Lib.hid h1
    clear h h1
    go_enter Try.func22, Try.ntmps22
    go_wp2_with fail
    refine (rIn_no a _ H1.out).mono ?_
    rintro e w' ⟨rfl, rfl⟩
    go_wp2
    go_ret2
    exact ⟨rfl, rfl⟩
  cases h2 : inRB b
  · have H1 := Lib.hid h1
    have H2 := Lib.hid h2
    clear h h1 h2
    go_enter Try.func22, Try.ntmps22
    go_wp2_with fail
    refine (rIn_yes a _ H1.out).mono ?_
    rintro e w' ⟨rfl, rfl⟩
    go_wp2_with fail
    refine (rIn_no b _ H2.out).mono ?_
    rintro e w' ⟨rfl, rfl⟩
    go_wp2
    go_ret2
    exact ⟨rfl, rfl⟩
  cases h3 : inRB c
  · have H1 := Lib.hid h1
    have H2 := Lib.hid h2
    have H3 := Lib.hid h3
    clear h h1 h2 h3
    go_enter Try.func22, Try.ntmps22
    go_wp2_with fail
    refine (rIn_yes a _ H1.out).mono ?_
    rintro e w' ⟨rfl, rfl⟩
    go_wp2_with fail
    refine (rIn_yes b _ H2.out).mono ?_
    rintro e w' ⟨rfl, rfl⟩
    go_wp2_with fail
    refine (rIn_no c _ H3.out).mono ?_
    rintro e w' ⟨rfl, rfl⟩
    go_wp2
    go_ret2
    exact ⟨rfl, rfl⟩
  have hh : c = 0 ∨ (c ≠ 0 ∧ m < 0) ∨ (c ≠ 0 ∧ 0 ≤ m ∧ 3 < m) := by
    simp only [okScale, h1, h2, h3, Bool.true_and, Bool.and_eq_false_iff, decide_eq_false_iff_not, bne_eq_false_iff_eq] at h
    omega
  have H1 := Lib.hid h1
  have H2 := Lib.hid h2
  have H3 := Lib.hid h3
  clear h h1 h2 h3
  rcases hh with h0 | ⟨h0, h2⟩ | ⟨h0, h2, h3⟩
  · subst h0
    go_enter Try.func22, Try.ntmps22
    go_wp2_with fail
    refine (rIn_yes a _ H1.out).mono ?_
    rintro e w' ⟨rfl, rfl⟩
    go_wp2_with fail
    refine (rIn_yes b _ H2.out).mono ?_
    rintro e w' ⟨rfl, rfl⟩
    go_wp2_with fail
    refine (rIn_yes 0 _ H3.out).mono ?_
    rintro e w' ⟨rfl, rfl⟩
    go_wp2
    go_ret2
    exact ⟨rfl, rfl⟩
  all_goals
    have hz : (c == 0) = false := by simp [h0]
    clear h0
    go_enter Try.func22, Try.ntmps22
    go_wp2_with fail
    refine (rIn_yes a _ H1.out).mono ?_
    rintro e w' ⟨rfl, rfl⟩
    go_wp2_with fail
    refine (rIn_yes b _ H2.out).mono ?_
    rintro e w' ⟨rfl, rfl⟩
    go_wp2_with fail
    refine (rIn_yes c _ H3.out).mono ?_
    rintro e w' ⟨rfl, rfl⟩
    go_wp2
    go_ret2
    exact ⟨rfl, rfl⟩
end Go.Proofs.Ytejokpbmdhmhfaa
