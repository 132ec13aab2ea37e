/-
  The laws' walks over package field, by the contracts of the landed package (FldCon: fldCon).
-/
import Derived.Test.YtdkhajpkldjlmaaFldWalks0
import Derived.Test.YtdkhajpkldjlmaaFldCon
namespace Go.Proofs.Ytdkhajpkldjlmaa
open Go.RowKit
theorem fieldSplits_walk (a0 : ByteArray) (W : World) (w0 : a0.size ≤ maxLen) :
    Calls Try.prog 3 #[.string a0] W fun e W' => e = .returned (.bool true) ∧ Below W.heap.size W W' :=
  fieldSplits_walk_of fldCon a0 W w0
theorem fieldJoins_walk (a0 : Option Addr) (len0 cap0 : Nat) (z0 : List ByteArray) (W : World) (w0 : IsStrs W a0 len0 cap0 z0) :
    Calls Try.prog 4 #[.slice a0 len0 cap0] W fun e W' => e = .returned (.bool true) ∧ Below W.heap.size W W' :=
  fieldJoins_walk_of fldCon a0 len0 cap0 z0 W w0
theorem fieldLines_walk (a0 : ByteArray) (W : World) (w0 : a0.size ≤ maxLen) :
    Calls Try.prog 5 #[.string a0] W fun e W' => e = .returned (.bool true) ∧ Below W.heap.size W W' :=
  fieldLines_walk_of fldCon a0 W w0
theorem fieldNumbers_walk (a0 : ByteArray) (W : World) (w0 : a0.size ≤ maxLen) :
    Calls Try.prog 6 #[.string a0] W fun e W' => e = .returned (.bool true) ∧ Below W.heap.size W W' :=
  fieldNumbers_walk_of fldCon a0 W w0
theorem fieldRoundTrip_walk (a0 : Option Addr) (len0 cap0 : Nat) (z0 : List ByteArray) (a1 : ByteArray) (W : World) (w0 : IsStrs W a0 len0 cap0 z0) (w1 : a1.size ≤ maxLen) :
    Calls Try.prog 7 #[.slice a0 len0 cap0, .string a1] W fun e W' => e = .returned (.bool true) ∧ Below W.heap.size W W' :=
  fieldRoundTrip_walk_of fldCon a0 len0 cap0 z0 a1 W w0 w1
theorem fieldQuotes_walk (a0 : ByteArray) (W : World) (w0 : a0.size ≤ maxLen) :
    Calls Try.prog 8 #[.string a0] W fun e W' => e = .returned (.bool true) ∧ Below W.heap.size W W' :=
  fieldQuotes_walk_of fldCon a0 W w0
theorem fieldText_walk (a0 : Option Addr) (len0 cap0 : Nat) (z0 : List (List ByteArray)) (W : World) (w0 : IsStrss W a0 len0 cap0 z0) :
    Calls Try.prog 9 #[.slice a0 len0 cap0] W fun e W' => e = .returned (.bool true) ∧ Below W.heap.size W W' :=
  fieldText_walk_of fldCon a0 len0 cap0 z0 W w0
end Go.Proofs.Ytdkhajpkldjlmaa
