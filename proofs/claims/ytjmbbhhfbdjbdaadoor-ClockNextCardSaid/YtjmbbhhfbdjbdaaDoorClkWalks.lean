/-
  The walks of the laws of package clock, as the frames ask for them.
-/
import Derived.Test.YtjmbbhhfbdjbdaaDoorOpen2
import Derived.Test.YtjmbbhhfbdjbdaaDoorClkCon
import Derived.Test.YtjmbbhhfbdjbdaaDoorClkLaws1
import Derived.Test.YtjmbbhhfbdjbdaaDoorClkLaws2
import Derived.Test.YtjmbbhhfbdjbdaaDoorClkLaws3
import Derived.Test.YtjmbbhhfbdjbdaaDoorClkLaws4
import Derived.Test.YtjmbbhhfbdjbdaaDoorClkLaws5
import Derived.Test.YtjmbbhhfbdjbdaaDoorClkLaws6
namespace Go.Proofs.YtjmbbhhfbdjbdaaDoor
open Go.RowKit

theorem clockDates_walk (t day : Int) (w : World) (hT : Tabs w) (_h0 : (Lit.int .i64 t).wf = true) (_h1 : (Lit.int .i64 day).wf = true) :
    Calls Tryd.prog 3 #[.int .i64 t, .int .i64 day] w fun e w' => e = .returned (.bool true) ∧ Below w.heap.size w w' :=
  clockDates_of contracts t day w hT
theorem clockFormats_walk (t : Int) (s : ByteArray) (w : World) (hT : Tabs w) (_h0 : (Lit.int .i64 t).wf = true) (h1 : s.size ≤ maxLen) :
    Calls Tryd.prog 4 #[.int .i64 t, .string s] w fun e w' => e = .returned (.bool true) ∧ Below w.heap.size w w' :=
  clockFormats_of contracts t s w hT (Nat.le_trans h1 (by decide))
theorem clockRoundTrip_walk (t : Int) (s : ByteArray) (w : World) (hT : Tabs w) (_h0 : (Lit.int .i64 t).wf = true) (h1 : s.size ≤ maxLen) :
    Calls Tryd.prog 8 #[.int .i64 t, .string s] w fun e w' => e = .returned (.bool true) ∧ Below w.heap.size w w' :=
  clockRoundTrip_of contracts t s w hT (Nat.le_trans h1 (by decide))
theorem clockUnions_walk (a : Option Addr) (len cap : Nat) (z : List (Int × Int)) (t : Int) (w : World) (hT : Tabs w) (h : IsPairs .i64 w a len cap z) (_h1 : (Lit.int .i64 t).wf = true) :
    Calls Tryd.prog 5 #[.slice a len cap, .int .i64 t] w fun e w' => e = .returned (.bool true) ∧ Below w.heap.size w w' :=
  clockUnions_of contracts a (z.take len) len cap t w hT h.len h.pairs
theorem clockCommons_walk (a : Option Addr) (len cap : Nat) (z : List (Int × Int)) (b : Option Addr) (len' cap' : Nat) (z' : List (Int × Int)) (w : World) (hT : Tabs w) (h : IsPairs .i64 w a len cap z) (h' : IsPairs .i64 w b len' cap' z') :
    Calls Tryd.prog 6 #[.slice a len cap, .slice b len' cap'] w fun e w' => e = .returned (.bool true) ∧ Below w.heap.size w w' :=
  clockCommons_of contracts a b (z.take len) (z'.take len') len len' cap cap' w hT h.len h'.len h.pairs h'.pairs
theorem clockShared_walk (a : Option Addr) (len cap : Nat) (z : List (Int × Int)) (b : Option Addr) (len' cap' : Nat) (z' : List (Int × Int)) (t : Int) (w : World) (hT : Tabs w) (h : IsPairs .i64 w a len cap z) (h' : IsPairs .i64 w b len' cap' z') (_h2 : (Lit.int .i64 t).wf = true) :
    Calls Tryd.prog 10 #[.slice a len cap, .slice b len' cap', .int .i64 t] w fun e w' => e = .returned (.bool true) ∧ Below w.heap.size w w' :=
  clockShared_of contracts a b (z.take len) (z'.take len') len len' cap cap' t w hT h.len h'.len h.pairs h'.pairs
theorem clockOpens_walk (cs : Array Value) (z : List (Int × Int)) (t : Int) (w : World) (hT : Tabs w) (s : cs.size = 14) (l : z.length = 7)
    (c : ∀ i, i < 7 → cs[i * 2]? = some (.int .i64 (z[i]?.getD (0, 0)).1) ∧ cs[i * 2 + 1]? = some (.int .i64 (z[i]?.getD (0, 0)).2)) (_h1 : (Lit.int .i64 t).wf = true) :
    Calls Tryd.prog 7 #[.agg cs, .int .i64 t] w fun e w' => e = .returned (.bool true) ∧ Below w.heap.size w w' :=
  clockOpens_of contracts cs z t w hT ⟨s, l, c⟩
theorem clockNext_walk (cs : Array Value) (z : List (Int × Int)) (t m : Int) (w : World) (hT : Tabs w) (s : cs.size = 14) (l : z.length = 7)
    (c : ∀ i, i < 7 → cs[i * 2]? = some (.int .i64 (z[i]?.getD (0, 0)).1) ∧ cs[i * 2 + 1]? = some (.int .i64 (z[i]?.getD (0, 0)).2)) (_h1 : (Lit.int .i64 t).wf = true) (h2 : (Lit.int .u32 m).wf = true) :
    Calls Tryd.prog 11 #[.agg cs, .int .i64 t, .int .u32 m] w fun e w' => e = .returned (.bool true) ∧ Below w.heap.size w w' :=
  clockNext_of contracts cs z t m w hT ⟨s, l, c⟩ (by have := bounds_u32 h2; omega)
theorem clockMerge_walk (a : Option Addr) (len cap : Nat) (z : List (Int × Int)) (t : Int) (w : World) (hT : Tabs w) (h : IsPairs .i64 w a len cap z) (_h1 : (Lit.int .i64 t).wf = true) :
    Calls Tryd.prog 9 #[.slice a len cap, .int .i64 t] w fun e w' => e = .returned (.bool true) ∧ Below w.heap.size w w' :=
  clockMerge_of a (z.take len) len cap t w hT h.len h.pairs (by
    rintro rfl
    rcases h with ⟨_, _, rfl, _⟩ | ⟨x, e, _⟩
    · rfl
    · cases e)
end Go.Proofs.YtjmbbhhfbdjbdaaDoor
