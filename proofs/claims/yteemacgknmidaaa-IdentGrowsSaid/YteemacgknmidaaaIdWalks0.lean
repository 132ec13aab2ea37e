/-
  The laws' walks over package ident, at the arguments as the frames open them, over whatever contracts.
-/
import Derived.Test.YteemacgknmidaaaIdAll
namespace Go.Proofs.Yteemacgknmidaaa
set_option linter.unusedVariables false
open Go.RowKit
theorem maxLen_str {s : ByteArray} (h : s.size ≤ maxLen) : s.size ≤ 9223372036854775807 := by unfold maxLen at h; omega

section
variable {Tab : TabP} (K : IdCon Tab)
include K
theorem identValid_walk_of (a0 : ByteArray) (W : World) (w0 : a0.size ≤ maxLen) :
    Calls Try.prog 3 #[.string a0] W fun e W' => e = .returned (.bool true) ∧ Below W.heap.size W W' :=
  identValid_of K a0 W (maxLen_str w0)
theorem identNews_walk_of (a0 : Option Addr) (len0 cap0 : Nat) (z0 : List ByteArray) (W : World) (w0 : IsStrs W a0 len0 cap0 z0) :
    Calls Try.prog 4 #[.slice a0 len0 cap0] W fun e W' => e = .returned (.bool true) ∧ Below W.heap.size W W' :=
  identNews_of K a0 (z0.take len0) len0 cap0 W w0.len w0.strs w0.sizes (by have := w0.caps; omega)
theorem identGrows_walk_of (a0 : Option Addr) (len0 cap0 : Nat) (z0 : List ByteArray) (a1 : Int) (W : World) (w0 : IsStrs W a0 len0 cap0 z0) (w1 : (Lit.int .i64 a1).wf = true) :
    Calls Try.prog 9 #[.slice a0 len0 cap0, .int .i64 a1] W fun e W' => e = .returned (.bool true) ∧ Below W.heap.size W W' :=
  identGrows_of K a0 (z0.take len0) len0 cap0 a1 W w0.len w0.strs w0.sizes w0.caps
theorem identTable_walk_of (a0 : Option Addr) (len0 cap0 : Nat) (z0 : List ByteArray) (a1 : ByteArray) (a2 : Int) (W : World) (w0 : IsStrs W a0 len0 cap0 z0) (w1 : a1.size ≤ maxLen) (w2 : (Lit.int .i64 a2).wf = true) :
    Calls Try.prog 6 #[.slice a0 len0 cap0, .string a1, .int .i64 a2] W fun e W' => e = .returned (.bool true) ∧ Below W.heap.size W W' :=
  identTable_of K a0 (z0.take len0) len0 cap0 a1 a2 W w0.len w0.strs w0.sizes (by have := w0.caps; omega) w1
theorem identPlays_walk_of (a0 : Option Addr) (len0 cap0 : Nat) (z0 : List ByteArray) (a1 : Option Addr) (len1 cap1 : Nat) (z1 : List OpT) (W : World) (w0 : IsStrs W a0 len0 cap0 z0) (w1 : IsOps W a1 len1 cap1 z1) :
    Calls Try.prog 5 #[.slice a0 len0 cap0, .slice a1 len1 cap1] W fun e W' => e = .returned (.bool true) ∧ Below W.heap.size W W' :=
  identPlays_of K a0 (z0.take len0) len0 cap0 a1 (z1.take len1) len1 cap1 W w0.len w0.strs w0.sizes (by have := w0.caps; omega) w1.len w1.ops w1.sizes (by have := w1.caps; omega)
end
section
variable {Tab : TabP} {Seq : SeqP} (K : IdCon Tab) (Q : IdSeq Tab Seq)
include K Q
theorem identAll_walk_of (a0 : Option Addr) (len0 cap0 : Nat) (z0 : List ByteArray) (a1 : ByteArray) (a2 : Int) (W : World) (w0 : IsStrs W a0 len0 cap0 z0) (w1 : a1.size ≤ maxLen) (w2 : (Lit.int .i64 a2).wf = true) :
    Calls Try.prog 7 #[.slice a0 len0 cap0, .string a1, .int .i64 a2] W fun e W' => e = .returned (.bool true) ∧ Below W.heap.size W W' :=
  identAll_of K Q a0 (z0.take len0) len0 cap0 a1 a2 W w0.len w0.strs w0.sizes (by have := w0.caps; omega) w1
theorem identNil_walk_of (a0 : ByteArray) (a1 : Int) (W : World) (w0 : a0.size ≤ maxLen) (w1 : (Lit.int .i64 a1).wf = true) :
    Calls Try.prog 8 #[.string a0, .int .i64 a1] W fun e W' => e = .returned (.bool true) ∧ Below W.heap.size W W' :=
  identNil_of K Q a0 a1 W
end
end Go.Proofs.Yteemacgknmidaaa
