/-
  The laws' walks over package ident, by the contracts of the landed package (IdCon: idCon, idSeq).
-/
import Derived.Test.YteemacgknmidaaaIdWalks0
import Derived.Test.YteemacgknmidaaaIdCon
namespace Go.Proofs.Yteemacgknmidaaa
open Go.RowKit
theorem identValid_walk (a0 : ByteArray) (W : World) (w0 : a0.size ≤ maxLen) :
    Calls Try.prog 3 #[.string a0] W fun e W' => e = .returned (.bool true) ∧ Below W.heap.size W W' :=
  identValid_walk_of idCon a0 W w0
theorem identNews_walk (a0 : Option Addr) (len0 cap0 : Nat) (z0 : List ByteArray) (W : World) (w0 : IsStrs W a0 len0 cap0 z0) :
    Calls Try.prog 4 #[.slice a0 len0 cap0] W fun e W' => e = .returned (.bool true) ∧ Below W.heap.size W W' :=
  identNews_walk_of idCon a0 len0 cap0 z0 W w0
theorem identGrows_walk (a0 : Option Addr) (len0 cap0 : Nat) (z0 : List ByteArray) (a1 : Int) (W : World) (w0 : IsStrs W a0 len0 cap0 z0) (w1 : (Lit.int .i64 a1).wf = true) :
    Calls Try.prog 9 #[.slice a0 len0 cap0, .int .i64 a1] W fun e W' => e = .returned (.bool true) ∧ Below W.heap.size W W' :=
  identGrows_walk_of idCon a0 len0 cap0 z0 a1 W w0 w1
theorem identTable_walk (a0 : Option Addr) (len0 cap0 : Nat) (z0 : List ByteArray) (a1 : ByteArray) (a2 : Int) (W : World) (w0 : IsStrs W a0 len0 cap0 z0) (w1 : a1.size ≤ maxLen) (w2 : (Lit.int .i64 a2).wf = true) :
    Calls Try.prog 6 #[.slice a0 len0 cap0, .string a1, .int .i64 a2] W fun e W' => e = .returned (.bool true) ∧ Below W.heap.size W W' :=
  identTable_walk_of idCon a0 len0 cap0 z0 a1 a2 W w0 w1 w2
theorem identPlays_walk (a0 : Option Addr) (len0 cap0 : Nat) (z0 : List ByteArray) (a1 : Option Addr) (len1 cap1 : Nat) (z1 : List OpT) (W : World) (w0 : IsStrs W a0 len0 cap0 z0) (w1 : IsOps W a1 len1 cap1 z1) :
    Calls Try.prog 5 #[.slice a0 len0 cap0, .slice a1 len1 cap1] W fun e W' => e = .returned (.bool true) ∧ Below W.heap.size W W' :=
  identPlays_walk_of idCon a0 len0 cap0 z0 a1 len1 cap1 z1 W w0 w1
theorem identAll_walk (a0 : Option Addr) (len0 cap0 : Nat) (z0 : List ByteArray) (a1 : ByteArray) (a2 : Int) (W : World) (w0 : IsStrs W a0 len0 cap0 z0) (w1 : a1.size ≤ maxLen) (w2 : (Lit.int .i64 a2).wf = true) :
    Calls Try.prog 7 #[.slice a0 len0 cap0, .string a1, .int .i64 a2] W fun e W' => e = .returned (.bool true) ∧ Below W.heap.size W W' :=
  identAll_walk_of idCon idSeq a0 len0 cap0 z0 a1 a2 W w0 w1 w2
theorem identNil_walk (a0 : ByteArray) (a1 : Int) (W : World) (w0 : a0.size ≤ maxLen) (w1 : (Lit.int .i64 a1).wf = true) :
    Calls Try.prog 8 #[.string a0, .int .i64 a1] W fun e W' => e = .returned (.bool true) ∧ Below W.heap.size W W' :=
  identNil_walk_of idCon idSeq a0 a1 W w0 w1
end Go.Proofs.Yteemacgknmidaaa
