/-
  The laws' walks over package wire, by the contracts of the landed package (WirCon: wirCon).
-/
import Derived.Test.YtcbaihaigamalaaWirWalks0
import Derived.Test.YtcbaihaigamalaaWirCon
namespace Go.Proofs.Ytcbaihaigamalaa
open Go.ChangeShapes Go.WideShapes Go.RowKit
theorem wireUints_walk (a0 : Option Addr) (len0 cap0 : Nat) (z0 : List Int) (a1 : Int) (W : World) (w0 : IsRow .u8 W a0 len0 cap0 z0) (w1 : (Lit.int .u64 a1).wf = true) :
    Calls Try.prog 3 #[.slice a0 len0 cap0, .int .u64 a1] W fun e W' => e = .returned (.bool true) ∧ Below W.heap.size W W' :=
  wireUints_walk_of wirCon a0 len0 cap0 z0 a1 W w0 w1
theorem wireInts_walk (a0 : Option Addr) (len0 cap0 : Nat) (z0 : List Int) (a1 : Int) (W : World) (w0 : IsRow .u8 W a0 len0 cap0 z0) (w1 : (Lit.int .i64 a1).wf = true) :
    Calls Try.prog 4 #[.slice a0 len0 cap0, .int .i64 a1] W fun e W' => e = .returned (.bool true) ∧ Below W.heap.size W W' :=
  wireInts_walk_of wirCon a0 len0 cap0 z0 a1 W w0 w1
theorem wireTexts_walk (a0 : Option Addr) (len0 cap0 : Nat) (z0 : List Int) (a1 : ByteArray) (a2 : Int) (W : World) (w0 : IsRow .u8 W a0 len0 cap0 z0) (w1 : a1.size ≤ maxLen) (w2 : (Lit.int .i64 a2).wf = true) :
    Calls Try.prog 5 #[.slice a0 len0 cap0, .string a1, .int .i64 a2] W fun e W' => e = .returned (.bool true) ∧ Below W.heap.size W W' :=
  wireTexts_walk_of wirCon a0 len0 cap0 z0 a1 a2 W w0 w1 w2
theorem wireLists_walk (a0 : Option Addr) (len0 cap0 : Nat) (z0 : List Int) (a1 : Option Addr) (len1 cap1 : Nat) (z1 : List Int) (a2 : Int) (W : World) (w0 : IsRow .u8 W a0 len0 cap0 z0) (w1 : IsRow .i64 W a1 len1 cap1 z1) (w2 : (Lit.int .i64 a2).wf = true) :
    Calls Try.prog 6 #[.slice a0 len0 cap0, .slice a1 len1 cap1, .int .i64 a2] W fun e W' => e = .returned (.bool true) ∧ Below W.heap.size W W' :=
  wireLists_walk_of wirCon a0 len0 cap0 z0 a1 len1 cap1 z1 a2 W w0 w1 w2
theorem wireRoundTrip_walk (a0_0 a0_1 : Int) (a0_2 : ByteArray) (a0_3 : Option Addr) (len0_3 cap0_3 : Nat) (z0_3 : List Int) (a1 : Option Addr) (len1 cap1 : Nat) (z1 : List Int) (a2 : Option Addr) (len2 cap2 : Nat) (z2 : List Int) (W : World) (w0_0 : (Lit.int .u64 a0_0).wf = true) (w0_1 : (Lit.int .i64 a0_1).wf = true) (w0_2 : a0_2.size ≤ maxLen) (w0_3 : IsRow .i64 W a0_3 len0_3 cap0_3 z0_3) (w1 : IsRow .u8 W a1 len1 cap1 z1) (w2 : IsRow .u8 W a2 len2 cap2 z2) :
    Calls Try.prog 7 #[.agg #[.int .u64 a0_0, .int .i64 a0_1, .string a0_2, .slice a0_3 len0_3 cap0_3], .slice a1 len1 cap1, .slice a2 len2 cap2] W fun e W' => e = .returned (.bool true) ∧ Below W.heap.size W W' :=
  wireRoundTrip_walk_of wirCon a0_0 a0_1 a0_2 a0_3 len0_3 cap0_3 z0_3 a1 len1 cap1 z1 a2 len2 cap2 z2 W w0_0 w0_1 w0_2 w0_3 w1 w2
theorem wireOneForm_walk (a0 : Option Addr) (len0 cap0 : Nat) (z0 : List Int) (W : World) (w0 : IsRow .u8 W a0 len0 cap0 z0) :
    Calls Try.prog 8 #[.slice a0 len0 cap0] W fun e W' => e = .returned (.bool true) ∧ Below W.heap.size W W' :=
  wireOneForm_walk_of wirCon a0 len0 cap0 z0 W w0
theorem wireShort_walk (a0_0 a0_1 : Int) (a0_2 : ByteArray) (a0_3 : Option Addr) (len0_3 cap0_3 : Nat) (z0_3 : List Int) (a1 : Int) (W : World) (w0_0 : (Lit.int .u64 a0_0).wf = true) (w0_1 : (Lit.int .i64 a0_1).wf = true) (w0_2 : a0_2.size ≤ maxLen) (w0_3 : IsRow .i64 W a0_3 len0_3 cap0_3 z0_3) (w1 : (Lit.int .u16 a1).wf = true) :
    Calls Try.prog 9 #[.agg #[.int .u64 a0_0, .int .i64 a0_1, .string a0_2, .slice a0_3 len0_3 cap0_3], .int .u16 a1] W fun e W' => e = .returned (.bool true) ∧ Below W.heap.size W W' :=
  wireShort_walk_of wirCon a0_0 a0_1 a0_2 a0_3 len0_3 cap0_3 z0_3 a1 W w0_0 w0_1 w0_2 w0_3 w1
theorem wireLengths_walk (a0 a1 : Int) (W : World) (w0 : (Lit.int .u64 a0).wf = true) (w1 : (Lit.int .u64 a1).wf = true) :
    Calls Try.prog 10 #[.int .u64 a0, .int .u64 a1] W fun e W' => e = .returned (.bool true) ∧ Below W.heap.size W W' :=
  wireLengths_walk_of wirCon a0 a1 W w0 w1
end Go.Proofs.Ytcbaihaigamalaa
