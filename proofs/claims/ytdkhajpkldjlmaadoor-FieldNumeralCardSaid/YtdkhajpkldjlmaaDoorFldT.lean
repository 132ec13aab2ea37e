/-
  The package variable that strconv.Itoa reads: what it holds, and that it holds it still behind a call.
-/
import Derived.Test.YtdkhajpkldjlmaaDoorMem
import Derived.Lib.SmallJoins
import Derived.Lib.LaidTab
import Derived.Lib.ItoaNum
import Derived.LaidMore
import Derived.ProofKit
namespace Go.Proofs.YtdkhajpkldjlmaaDoor
open Go.RowKit

structure Tabs (w : World) : Prop where
  pow : Lib.TabIs Tryd.prog w "internal/strconv.uint64pow10" .u64 Lib.pow10Tab

theorem gPow : Tryd.prog.globalNamed "internal/strconv.uint64pow10" = some 0 := by kernel_rfl
theorem Tabs.on {w w' : World} (h : Tabs w) (hb : Below w.heap.size w w') : Tabs w' :=
  ⟨Joins.tab_stays gPow h.pow hb (Nat.le_refl _)⟩
end Go.Proofs.YtdkhajpkldjlmaaDoor
