/-
  What the rows of package clock list: the variables as the initialisers lay them; from the rows' condition to the walks' facts.
-/
import Derived.Test.YtjmbbhhfbdjbdaaDoorClkT
import Derived.ProofKit
import Derived.LaidMore
import Derived.Stop.LaidErr
import Derived.Stop.Joined
namespace Go.Proofs.YtjmbbhhfbdjbdaaDoor
open Go.ChangeShapes Go.WideShapes Go.ChangeAt Go.RowKit

abbrev laidC : List (String × DataW Unit) := [("math/bits.deBruijn32tab", Rows.laid_math_bits_deBruijn32tab), ("math/bits.deBruijn64tab", Rows.laid_math_bits_deBruijn64tab), ("internal/strconv.uint64pow10", Rows.laid_internal_strconv_uint64pow10), ("recycling/clock.units", Rows.laid_recycling_clock_units)]

theorem own : ownKnob Tryd.prog.godebug = none := by kernel_rfl
theorem laidOut : laidOutB Tryd.prog = true := by kernel_rfl
theorem tPow : (Tryd.prog.globals[1]?).map (·.type) = some 94 := by kernel_rfl
theorem tUnits : (Tryd.prog.globals[0]?).map (·.type) = some 65 := by kernel_rfl

theorem door_met (os : Os) (args : Array Value) : laidMetH Tryd.prog laidC ((World.doorLaid Tryd.prog 400 os).forCall (fun _ _ => 0) ⟨#[], args, []⟩).memory :=
  laidMetH_of_parts3 (fuel := 8) (laidMet_of_run' 8 (by kernel_rfl) (by kernel_rfl)) (by kernel_rfl) (by kernel_rfl)

theorem of_laid {W : World} (h : laidMetH Tryd.prog laidC W) : Tabs W := by
  rw [MakeChecks.laidMetH_plain _ _ _ (by kernel_rfl)] at h
  have h2 := h.tail.tail
  have h3 := h2.tail
  have e2 : (Rows.laid_internal_strconv_uint64pow10 : DataW Unit) = Lib.tabData .u64 Lib.pow10Tab := by kernel_rfl
  have e3 : (Rows.laid_recycling_clock_units : DataW Unit) = Lib.tabData .i64 [86400, 3600, 60, 1] := by kernel_rfl
  rw [e2] at h2
  rw [e3] at h3
  have T2 := Lib.tabIs_of_head gPow tPow Tryd.underlying94 Tryd.underlying81 (by kernel_rfl) (by kernel_rfl) h2
  have T3 := Lib.tabIs_of_head gUnits tUnits Tryd.underlying65 Tryd.underlying3 (by kernel_rfl) (by kernel_rfl) h3
  exact ⟨T3.cell gUnits 0 (by decide), T3.cell gUnits 1 (by decide), T3.cell gUnits 2 (by decide), T3.cell gUnits 3 (by decide), T2⟩
end Go.Proofs.YtjmbbhhfbdjbdaaDoor
