/-
  DERIVED. GIVEN WITH THE SEED: THE CARDS: each row of YtdkhajpkldjlmaaDoorRows.lean that lists a variable, with what it lists TIED to the program's text (the seventh form; the later family's looks); each row that meets fmt, with fmt's text TOLD by the authors' own Lean function (tested against real Go, not proved from fmt's source: count such statements apart). THE CARD IS WHAT COUNTS. Prove the row's statement (the work); the ties are given (YtdkhajpkldjlmaaDoorTie.lean); close each card by the builder's one call (the guide's Derived/Test/ToyasCard.lean, 'card_holds'). Laid BY PROGRAM, IN A SANDBOX (cutbox-door.mjs). By AI agents, Wed Nov 11 2026. No macro, syntax, notation, axiom, sorry.
-/
import Derived.Test.YtdkhajpkldjlmaaDoorRows
import GoSem.ClaimSeven
namespace Go.Proofs.YtdkhajpkldjlmaaDoor
namespace Rows

/-- THE TIED CARD OF 'recyclinglaw05.FieldNumeral'. -/
def fieldNumeralCard : Claim7 := { stood := { row := fieldNumeralRow, standIns := [], harness := (true, "24f4f70f66643d7f5d037a1510d79dd1246f9d9606e6100994f119f0f263bd59"), looks := false }, kinds := [], alts := [], laidByText := true, laidKinds := [.data, .data, .data], laidTests := true, laidLooks := .later }
def FieldNumeralCardSaid : Prop := Claim7.holds Tryd.pinned (.plain (OpenSpec.ofChange fieldNumeralSpec)) fieldNumeralCard

/-- THE SECOND FORM's CARD OF 'recyclinglaw05.FieldNumeral'. -/
def fieldNumeralUptoCard : Claim7 := { stood := { row := fieldNumeralUptoRow, standIns := [], harness := (true, "24f4f70f66643d7f5d037a1510d79dd1246f9d9606e6100994f119f0f263bd59"), looks := false }, kinds := [], alts := [], laidByText := true, laidKinds := [.data, .data, .data], laidTests := true, laidLooks := .later }
def FieldNumeralUptoCardSaid : Prop := Claim7.holds Tryd.pinned (.plain (OpenSpec.upto fieldNumeralSpec)) fieldNumeralUptoCard
end Rows
end Go.Proofs.YtdkhajpkldjlmaaDoor
