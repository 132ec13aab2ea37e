/-
  The walk of FieldNumeral by the contracts of the landed package (FldCon: fldCon).
-/
import Derived.Test.YtdkhajpkldjlmaaDoorFldNum
import Derived.Test.YtdkhajpkldjlmaaDoorFldCon
namespace Go.Proofs.YtdkhajpkldjlmaaDoor
open Go.RowKit
theorem fieldNumeral_walk (a0 : Int) (W : World) (hT : Tabs W) (w0 : (Lit.int .i64 a0).wf = true) :
    Calls Tryd.prog 3 #[.int .i64 a0] W fun e W' => e = .returned (.bool true) ∧ Below W.heap.size W W' :=
  fieldNumeral_walk_of fldCon a0 W hT w0
end Go.Proofs.YtdkhajpkldjlmaaDoor
