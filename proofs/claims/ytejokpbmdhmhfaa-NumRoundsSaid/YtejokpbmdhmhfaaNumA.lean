/-
  Walks over package num: inRange, abs, checkResult, allInRange, Add, Sub, Mul.
-/
import Derived.Test.YtejokpbmdhmhfaaRows
import Derived.WalkKit
import Derived.WalkSpells
import Derived.WalkLawsBesides
import Derived.BigQuiet
import Derived.Lib.Hide
namespace Go.Proofs.Ytejokpbmdhmhfaa
open Go.RowKit

/-- in the range of package num -/
def inRB (n : Int) : Bool := decide (-1125899906842624 ≤ n ∧ n ≤ 1125899906842624)
theorem inRB_true {n : Int} : inRB n = true ↔ (-1125899906842624 ≤ n ∧ n ≤ 1125899906842624) := by simp [inRB]
theorem inRB_false {n : Int} : inRB n = false ↔ (n < -1125899906842624 ∨ 1125899906842624 < n) := by simp [inRB]; omega

set_option maxHeartbeats 400000 in
theorem inRange_any (n : Int) (w : World) :
    Calls Try.prog 36 #[.int .i64 n] w fun e w' => e = .returned (.bool (inRB n)) ∧ w = w' := by
  by_cases h1 : -1125899906842624 ≤ n
  · by_cases h2 : n ≤ 1125899906842624
    · have h : inRB n = true := inRB_true.2 ⟨h1, h2⟩
      rw [h]
      clear h
      go_enter Try.func36, Try.ntmps36
      go_wp2
      go_ret
      exact ⟨rfl, rfl⟩
    · have h : inRB n = false := inRB_false.2 (by omega)
      rw [h]
      clear h
      go_enter Try.func36, Try.ntmps36
      go_wp2
      go_ret
      exact ⟨rfl, rfl⟩
  · have h : inRB n = false := inRB_false.2 (by omega)
    rw [h]
    clear h
    go_enter Try.func36, Try.ntmps36
    go_wp2
    go_ret
    exact ⟨rfl, rfl⟩

theorem inRange_yes (n : Int) (w : World) (h : inRB n = true) :
    Calls Try.prog 36 #[.int .i64 n] w fun e w' => e = .returned (.bool true) ∧ w = w' := by
  have := inRange_any n w
  rwa [h] at this
theorem inRange_no (n : Int) (w : World) (h : inRB n = false) :
    Calls Try.prog 36 #[.int .i64 n] w fun e w' => e = .returned (.bool false) ∧ w = w' := by
  have := inRange_any n w
  rwa [h] at this

set_option maxHeartbeats 400000 in
theorem abs_any (n : Int) (w : World) (h : inRB n = true) :
    Calls Try.prog 35 #[.int .i64 n] w fun e w' => e = .returned (.int .i64 (n.natAbs : Int)) ∧ w = w' := by
  have h1 := inRB_true.1 h
  clear h
  by_cases h2 : n < 0
  · have e : (n.natAbs : Int) = -n := by omega
    rw [e]
    clear e
    go_enter Try.func35, Try.ntmps35
    go_wp2
    go_ret
    exact ⟨rfl, rfl⟩
  · have e : (n.natAbs : Int) = n := by omega
    rw [e]
    clear e
    go_enter Try.func35, Try.ntmps35
    go_wp2
    go_ret
    exact ⟨rfl, rfl⟩

/-- the result of checkResult: the number and its error -/
def chkS (n : Int) : Int × Int := if inRB n then (n, 0) else (0, 2)

set_option maxHeartbeats 400000 in
theorem checkResult_any (n : Int) (w : World) :
    Calls Try.prog 33 #[.int .i64 n] w fun e w' => e = .returned (.tuple #[.int .i64 (chkS n).1, .int .i64 (chkS n).2]) ∧ w = w' := by
  cases h : inRB n
  · have e : chkS n = (0, 2) := by simp [chkS, h]
    rw [e]
    clear e
    go_enter Try.func33, Try.ntmps33
    go_wp2_with (go_at_call 36; refine (inRange_no n _ h).mono ?_; rintro e w' ⟨rfl, rfl⟩)
    go_ret2
    exact ⟨rfl, rfl⟩
  · have e : chkS n = (n, 0) := by simp [chkS, h]
    rw [e]
    clear e
    go_enter Try.func33, Try.ntmps33
    go_wp2_with (go_at_call 36; refine (inRange_yes n _ h).mono ?_; rintro e w' ⟨rfl, rfl⟩)
    go_ret2
    exact ⟨rfl, rfl⟩
end Go.Proofs.Ytejokpbmdhmhfaa
