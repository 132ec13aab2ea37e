/-
  The contracts of the landed package field, gathered: what the laws' walks ask.
-/
import Derived.Test.YtdkhajpkldjlmaaDoorFldConE
import Derived.Test.YtdkhajpkldjlmaaDoorFldConN
namespace Go.Proofs.YtdkhajpkldjlmaaDoor
open Go.RowKit

theorem fldCon : FldCon :=
  ⟨fun s w hs => split_any s w hs, fun a l n cap w hn hb hl hsz => join_any a l n cap w hn hb hl hsz, fun s w hs => lines_any s w hs,
   fun s w hs => (number_any s w hs).mono fun _ _ ⟨h1, h2⟩ => ⟨h1, h2 ▸ Below.refl _ _⟩⟩
end Go.Proofs.YtdkhajpkldjlmaaDoor
