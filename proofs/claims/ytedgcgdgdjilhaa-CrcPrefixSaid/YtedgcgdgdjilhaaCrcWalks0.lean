/-
  The laws' walks over package crc, at the arguments as the frames open them, over whatever contracts.
-/
import Derived.Test.YtedgcgdgdjilhaaCrcLaws5
namespace Go.Proofs.Ytedgcgdgdjilhaa
set_option linter.unusedVariables false
open Go.ChangeShapes Go.WideShapes Go.RowKit

theorem u8_nat {a : Int} (h : (Lit.int .u8 a).wf = true) : ∃ n : Nat, a = (n : Int) ∧ n < 256 := by
  have hb := bounds_u8 h
  exact ⟨a.toNat, by omega, by omega⟩
section
variable (K : CrcCon)
include K
theorem crcSums_walk_of (a0 : Option Addr) (len0 cap0 : Nat) (z0 : List Int) (W : World) (w0 : IsRow .u8 W a0 len0 cap0 z0) :
    Calls Try.prog 3 #[.slice a0 len0 cap0] W fun e W' => e = .returned (.bool true) ∧ Below W.heap.size W W' := by
  obtain ⟨l, h1, h2, h3, h4⟩ := row_bytes w0
  exact crcSums_of K a0 l len0 cap0 W h1 h2 (by omega) h4
theorem crcExtends_walk_of (a0 : Int) (a1 : Option Addr) (len1 cap1 : Nat) (z1 : List Int) (a2 : Option Addr) (len2 cap2 : Nat) (z2 : List Int) (W : World) (w0 : (Lit.int .u32 a0).wf = true) (w1 : IsRow .u8 W a1 len1 cap1 z1) (w2 : IsRow .u8 W a2 len2 cap2 z2) :
    Calls Try.prog 4 #[.int .u32 a0, .slice a1 len1 cap1, .slice a2 len2 cap2] W fun e W' => e = .returned (.bool true) ∧ Below W.heap.size W W' := by
  obtain ⟨s, rfl, hs⟩ := u32_nat w0
  obtain ⟨l, h1, h2, h3, h4⟩ := row_bytes w1
  obtain ⟨m, k1, k2, k3, k4⟩ := row_bytes w2
  exact crcExtends_of K s a1 l len1 cap1 a2 m len2 cap2 W hs h1 h2 (by omega) h4 k1 k2 (by omega) k4
theorem crcFrames_walk_of (a0 : Option Addr) (len0 cap0 : Nat) (z0 : List Int) (W : World) (w0 : IsRow .u8 W a0 len0 cap0 z0) :
    Calls Try.prog 5 #[.slice a0 len0 cap0] W fun e W' => e = .returned (.bool true) ∧ Below W.heap.size W W' := by
  obtain ⟨l, h1, h2, h3, h4⟩ := row_bytes w0
  exact crcFrames_of K a0 l len0 cap0 W h1 h2 (by omega) h4
theorem crcFull_walk_of (a0 a1 : Int) (W : World) (w0 : (Lit.int .i64 a0).wf = true) (w1 : (Lit.int .u8 a1).wf = true) :
    Calls Try.prog 6 #[.int .i64 a0, .int .u8 a1] W fun e W' => e = .returned (.bool true) ∧ Below W.heap.size W W' := by
  obtain ⟨c, rfl, hc⟩ := u8_nat w1
  have hb := bounds_i64 w0
  exact crcFull_of K a0 c W hb.1 hb.2 hc
theorem crcOpens_walk_of (a0 : Option Addr) (len0 cap0 : Nat) (z0 : List Int) (W : World) (w0 : IsRow .u8 W a0 len0 cap0 z0) :
    Calls Try.prog 7 #[.slice a0 len0 cap0] W fun e W' => e = .returned (.bool true) ∧ Below W.heap.size W W' := by
  obtain ⟨l, h1, h2, h3, h4⟩ := row_bytes w0
  exact crcOpens_of K a0 l len0 cap0 W h1 h2 (by omega) h4
theorem crcAlls_walk_of (a0 : Option Addr) (len0 cap0 : Nat) (z0 : List Int) (W : World) (w0 : IsRow .u8 W a0 len0 cap0 z0) :
    Calls Try.prog 8 #[.slice a0 len0 cap0] W fun e W' => e = .returned (.bool true) ∧ Below W.heap.size W W' := by
  obtain ⟨l, h1, h2, h3, h4⟩ := row_bytes w0
  exact crcAlls_of K a0 l len0 cap0 W h1 h2 (by omega) h4
theorem crcRoundTrip_walk_of (a0 : Option Addr) (len0 cap0 : Nat) (z0 : List Int) (a1 : Option Addr) (len1 cap1 : Nat) (z1 : List Int) (a2 : Option Addr) (len2 cap2 : Nat) (z2 : List Int) (W : World) (w0 : IsRow .u8 W a0 len0 cap0 z0) (w1 : IsRow .u8 W a1 len1 cap1 z1) (w2 : IsRow .u8 W a2 len2 cap2 z2) :
    Calls Try.prog 9 #[.slice a0 len0 cap0, .slice a1 len1 cap1, .slice a2 len2 cap2] W fun e W' => e = .returned (.bool true) ∧ Below W.heap.size W W' := by
  obtain ⟨l, h1, h2, h3, h4⟩ := row_bytes w0
  obtain ⟨m, k1, k2, k3, k4⟩ := row_bytes w1
  obtain ⟨o, o1, o2, o3, o4⟩ := row_bytes w2
  exact crcRoundTrip_of K a0 l len0 cap0 a1 m len1 cap1 a2 o len2 cap2 W h1 h2 (by omega) h4 k1 k2 (by omega) k4 o1 o2 (by omega) o4
theorem crcDamaged_walk_of (a0 : Option Addr) (len0 cap0 : Nat) (z0 : List Int) (a1 a2 : Int) (W : World) (w0 : IsRow .u8 W a0 len0 cap0 z0) (w1 : (Lit.int .i64 a1).wf = true) (w2 : (Lit.int .u8 a2).wf = true) :
    Calls Try.prog 10 #[.slice a0 len0 cap0, .int .i64 a1, .int .u8 a2] W fun e W' => e = .returned (.bool true) ∧ Below W.heap.size W W' := by
  obtain ⟨l, h1, h2, h3, h4⟩ := row_bytes w0
  obtain ⟨y, rfl, hy⟩ := u8_nat w2
  have hb := bounds_i64 w1
  exact crcDamaged_of K a0 l len0 cap0 a1 y W h1 h2 (by omega) h4 hb.1 hb.2 hy
theorem crcPrefix_walk_of (a0 : Option Addr) (len0 cap0 : Nat) (z0 : List (List Int)) (a1 : Int) (W : World) (w0 : IsRowss .u8 W a0 len0 cap0 z0) (w1 : (Lit.int .i64 a1).wf = true) :
    Calls Try.prog 11 #[.slice a0 len0 cap0, .int .i64 a1] W fun e W' => e = .returned (.bool true) ∧ Below W.heap.size W W' := by
  obtain ⟨ls, h1, h2, h3, h4, h5⟩ := rowss_bytes w0
  have hb := bounds_i64 w1
  exact crcPrefix_of K a0 ls len0 cap0 a1 W h1 h2 h3 h4 h5 hb.1 hb.2
end
end Go.Proofs.Ytedgcgdgdjilhaa
