/-
  The package variables that the calls of package clock read: what they hold, and that they hold it still behind a call.
-/
import Derived.Test.YtjmbbhhfbdjbdaaDoorMem
import Derived.Lib.SmallJoins
import Derived.Lib.LaidTab
import Derived.Lib.ItoaNum
import Derived.LaidMore
import Derived.ProofKit
namespace Go.Proofs.YtjmbbhhfbdjbdaaDoor
open Go.RowKit

structure Tabs (w : World) : Prop where
  u0 : w.cell? ⟨0, 0, none⟩ = some (.int .i64 86400)
  u1 : w.cell? ⟨0, 1, none⟩ = some (.int .i64 3600)
  u2 : w.cell? ⟨0, 2, none⟩ = some (.int .i64 60)
  u3 : w.cell? ⟨0, 3, none⟩ = some (.int .i64 1)
  pow : Lib.TabIs Tryd.prog w "internal/strconv.uint64pow10" .u64 Lib.pow10Tab

theorem gPow : Tryd.prog.globalNamed "internal/strconv.uint64pow10" = some 1 := by kernel_rfl
theorem gUnits : Tryd.prog.globalNamed "recycling/clock.units" = some 0 := by kernel_rfl
theorem Tabs.on {w w' : World} (h : Tabs w) (hb : Below w.heap.size w w') : Tabs w' :=
  ⟨kept hb h.u0, kept hb h.u1, kept hb h.u2, kept hb h.u3, Joins.tab_stays gPow h.pow hb (Nat.le_refl _)⟩
end Go.Proofs.YtjmbbhhfbdjbdaaDoor
