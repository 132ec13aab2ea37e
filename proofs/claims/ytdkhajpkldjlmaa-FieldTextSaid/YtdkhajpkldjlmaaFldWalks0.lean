/-
  The laws' walks over package field, at the arguments as the frames open them, over whatever contracts.
-/
import Derived.Test.YtdkhajpkldjlmaaFldOpen
namespace Go.Proofs.Ytdkhajpkldjlmaa
set_option linter.unusedVariables false
open Go.RowKit

section
variable (K : FldCon)
include K
theorem fieldSplits_walk_of (a0 : ByteArray) (W : World) (w0 : a0.size ≤ maxLen) :
    Calls Try.prog 3 #[.string a0] W fun e W' => e = .returned (.bool true) ∧ Below W.heap.size W W' :=
  fieldSplits_of K a0 W w0
theorem fieldJoins_walk_of (a0 : Option Addr) (len0 cap0 : Nat) (z0 : List ByteArray) (W : World) (w0 : IsStrs W a0 len0 cap0 z0) :
    Calls Try.prog 4 #[.slice a0 len0 cap0] W fun e W' => e = .returned (.bool true) ∧ Below W.heap.size W W' :=
  fieldJoins_of K a0 (z0.take len0) len0 cap0 W w0.len (by have := w0.caps; omega) w0.strs w0.sizes
theorem fieldLines_walk_of (a0 : ByteArray) (W : World) (w0 : a0.size ≤ maxLen) :
    Calls Try.prog 5 #[.string a0] W fun e W' => e = .returned (.bool true) ∧ Below W.heap.size W W' :=
  fieldLines_of K a0 W w0
theorem fieldNumbers_walk_of (a0 : ByteArray) (W : World) (w0 : a0.size ≤ maxLen) :
    Calls Try.prog 6 #[.string a0] W fun e W' => e = .returned (.bool true) ∧ Below W.heap.size W W' :=
  fieldNumbers_of K a0 W w0
theorem fieldRoundTrip_walk_of (a0 : Option Addr) (len0 cap0 : Nat) (z0 : List ByteArray) (a1 : ByteArray) (W : World) (w0 : IsStrs W a0 len0 cap0 z0) (w1 : a1.size ≤ maxLen) :
    Calls Try.prog 7 #[.slice a0 len0 cap0, .string a1] W fun e W' => e = .returned (.bool true) ∧ Below W.heap.size W W' :=
  fieldRoundTrip_of K a0 (z0.take len0) len0 cap0 a1 W w0.len (by have := w0.caps; omega) w0.strs w0.sizes w1
theorem fieldQuotes_walk_of (a0 : ByteArray) (W : World) (w0 : a0.size ≤ maxLen) :
    Calls Try.prog 8 #[.string a0] W fun e W' => e = .returned (.bool true) ∧ Below W.heap.size W W' :=
  fieldQuotes_of K a0 W w0
theorem fieldText_walk_of (a0 : Option Addr) (len0 cap0 : Nat) (z0 : List (List ByteArray)) (W : World) (w0 : IsStrss W a0 len0 cap0 z0) :
    Calls Try.prog 9 #[.slice a0 len0 cap0] W fun e W' => e = .returned (.bool true) ∧ Below W.heap.size W W' :=
  fieldText_of K a0 z0 len0 cap0 W w0.1 w0.2.1 w0.2.2
end
end Go.Proofs.Ytdkhajpkldjlmaa
