/-
  The laws' walks over package wire, at the arguments as the frames open them, over whatever contracts.
-/
import Derived.Test.YtcbaihaigamalaaWirLaws1
import Derived.Test.YtcbaihaigamalaaWirLaws2
import Derived.Test.YtcbaihaigamalaaWirLaws3
import Derived.Test.YtcbaihaigamalaaWirLaws5
import Derived.Test.YtcbaihaigamalaaArgs
namespace Go.Proofs.Ytcbaihaigamalaa
set_option linter.unusedVariables false
set_option linter.unusedSimpArgs false
open Go.ChangeShapes Go.WideShapes Go.RowKit

section
variable (K : WirCon)
include K
theorem wireUints_walk_of (a0 : Option Addr) (len0 cap0 : Nat) (z0 : List Int) (a1 : Int) (W : World) (w0 : IsRow .u8 W a0 len0 cap0 z0) (w1 : (Lit.int .u64 a1).wf = true) :
    Calls Try.prog 3 #[.slice a0 len0 cap0, .int .u64 a1] W fun e W' => e = .returned (.bool true) ∧ Below W.heap.size W W' := by
  obtain ⟨l, h1, h2, h3, h4⟩ := row_bytes w0
  obtain ⟨u, rfl, hu⟩ := u64_nat w1
  exact wireUints_of K a0 l len0 cap0 u W h1 h2 h3 h4 hu
theorem wireInts_walk_of (a0 : Option Addr) (len0 cap0 : Nat) (z0 : List Int) (a1 : Int) (W : World) (w0 : IsRow .u8 W a0 len0 cap0 z0) (w1 : (Lit.int .i64 a1).wf = true) :
    Calls Try.prog 4 #[.slice a0 len0 cap0, .int .i64 a1] W fun e W' => e = .returned (.bool true) ∧ Below W.heap.size W W' := by
  obtain ⟨l, h1, h2, h3, h4⟩ := row_bytes w0
  have hb := bounds_i64 w1
  exact wireInts_of K a0 l len0 cap0 a1 W h1 h2 h3 h4 hb.1 hb.2
theorem wireTexts_walk_of (a0 : Option Addr) (len0 cap0 : Nat) (z0 : List Int) (a1 : ByteArray) (a2 : Int) (W : World) (w0 : IsRow .u8 W a0 len0 cap0 z0) (w1 : a1.size ≤ maxLen) (w2 : (Lit.int .i64 a2).wf = true) :
    Calls Try.prog 5 #[.slice a0 len0 cap0, .string a1, .int .i64 a2] W fun e W' => e = .returned (.bool true) ∧ Below W.heap.size W W' := by
  obtain ⟨l, h1, h2, h3, h4⟩ := row_bytes w0
  have hb := bounds_i64 w2
  exact wireTexts_of K a0 l len0 cap0 a1 a2 W h1 h2 h3 h4 w1 hb.1 hb.2
theorem wireLists_walk_of (a0 : Option Addr) (len0 cap0 : Nat) (z0 : List Int) (a1 : Option Addr) (len1 cap1 : Nat) (z1 : List Int) (a2 : Int) (W : World) (w0 : IsRow .u8 W a0 len0 cap0 z0) (w1 : IsRow .i64 W a1 len1 cap1 z1) (w2 : (Lit.int .i64 a2).wf = true) :
    Calls Try.prog 6 #[.slice a0 len0 cap0, .slice a1 len1 cap1, .int .i64 a2] W fun e W' => e = .returned (.bool true) ∧ Below W.heap.size W W' := by
  obtain ⟨l, h1, h2, h3, h4⟩ := row_bytes w0
  obtain ⟨x, x1, x2, x3, x4, x5⟩ := row_ints w1
  have hb := bounds_i64 w2
  exact wireLists_of K a0 l len0 cap0 a1 x len1 cap1 a2 W h1 h2 h3 h4 x1 x2 x3 x4 x5 hb.1 hb.2
theorem wireRoundTrip_walk_of (a0_0 a0_1 : Int) (a0_2 : ByteArray) (a0_3 : Option Addr) (len0_3 cap0_3 : Nat) (z0_3 : List Int) (a1 : Option Addr) (len1 cap1 : Nat) (z1 : List Int) (a2 : Option Addr) (len2 cap2 : Nat) (z2 : List Int) (W : World) (w0_0 : (Lit.int .u64 a0_0).wf = true) (w0_1 : (Lit.int .i64 a0_1).wf = true) (w0_2 : a0_2.size ≤ maxLen) (w0_3 : IsRow .i64 W a0_3 len0_3 cap0_3 z0_3) (w1 : IsRow .u8 W a1 len1 cap1 z1) (w2 : IsRow .u8 W a2 len2 cap2 z2) :
    Calls Try.prog 7 #[.agg #[.int .u64 a0_0, .int .i64 a0_1, .string a0_2, .slice a0_3 len0_3 cap0_3], .slice a1 len1 cap1, .slice a2 len2 cap2] W fun e W' => e = .returned (.bool true) ∧ Below W.heap.size W W' := by
  obtain ⟨u, rfl, hu⟩ := u64_nat w0_0
  have hb := bounds_i64 w0_1
  obtain ⟨x, x1, x2, x3, x4, x5⟩ := row_ints w0_3
  obtain ⟨l, h1, h2, h3, h4⟩ := row_bytes w1
  obtain ⟨m, m1, m2, m3, m4⟩ := row_bytes w2
  exact wireRoundTrip_of K u a0_1 a0_2 a0_3 x len0_3 cap0_3 a1 l len1 cap1 a2 m len2 cap2 W hu hb.1 hb.2 w0_2 x1 x2 x3 x4 x5 h1 h2 h3 h4 m1 m2 m3 m4
theorem wireOneForm_walk_of (a0 : Option Addr) (len0 cap0 : Nat) (z0 : List Int) (W : World) (w0 : IsRow .u8 W a0 len0 cap0 z0) :
    Calls Try.prog 8 #[.slice a0 len0 cap0] W fun e W' => e = .returned (.bool true) ∧ Below W.heap.size W W' := by
  obtain ⟨l, h1, h2, h3, h4⟩ := row_bytes w0
  exact wireOneForm_of K a0 l len0 cap0 W h1 h2 h3 h4
theorem wireShort_walk_of (a0_0 a0_1 : Int) (a0_2 : ByteArray) (a0_3 : Option Addr) (len0_3 cap0_3 : Nat) (z0_3 : List Int) (a1 : Int) (W : World) (w0_0 : (Lit.int .u64 a0_0).wf = true) (w0_1 : (Lit.int .i64 a0_1).wf = true) (w0_2 : a0_2.size ≤ maxLen) (w0_3 : IsRow .i64 W a0_3 len0_3 cap0_3 z0_3) (w1 : (Lit.int .u16 a1).wf = true) :
    Calls Try.prog 9 #[.agg #[.int .u64 a0_0, .int .i64 a0_1, .string a0_2, .slice a0_3 len0_3 cap0_3], .int .u16 a1] W fun e W' => e = .returned (.bool true) ∧ Below W.heap.size W W' := by
  obtain ⟨u, rfl, hu⟩ := u64_nat w0_0
  have hb := bounds_i64 w0_1
  obtain ⟨x, x1, x2, x3, x4, x5⟩ := row_ints w0_3
  obtain ⟨c, rfl, hc⟩ := u16_nat w1
  exact wireShort_of K u a0_1 a0_2 a0_3 x len0_3 cap0_3 c W hu hb.1 hb.2 w0_2 x1 x2 x3 x4 x5 hc
theorem wireLengths_walk_of (a0 a1 : Int) (W : World) (w0 : (Lit.int .u64 a0).wf = true) (w1 : (Lit.int .u64 a1).wf = true) :
    Calls Try.prog 10 #[.int .u64 a0, .int .u64 a1] W fun e W' => e = .returned (.bool true) ∧ Below W.heap.size W W' := by
  obtain ⟨u, rfl, hu⟩ := u64_nat w0
  obtain ⟨v, rfl, hv⟩ := u64_nat w1
  exact wireLengths_of K u v W hu hv
end
end Go.Proofs.Ytcbaihaigamalaa
