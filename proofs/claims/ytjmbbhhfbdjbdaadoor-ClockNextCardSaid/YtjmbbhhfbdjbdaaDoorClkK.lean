/-
  The contracts of package clock that the laws' walks ask. They are gathered in one structure: the laws' walks take it; each limb is proved of the code as it landed.
-/
import Derived.Test.YtjmbbhhfbdjbdaaDoorClkD
import Derived.Test.YtjmbbhhfbdjbdaaDoorClkG
import Derived.Test.YtjmbbhhfbdjbdaaDoorClkI
import Derived.Test.YtjmbbhhfbdjbdaaDoorClkT
namespace Go.Proofs.YtjmbbhhfbdjbdaaDoor
open Go.RowKit

/-- a call that gives back a slice, and an error -/
def GivesList (w : World) (r : List (Int × Int) × Int) (e : Ending) (w' : World) : Prop :=
  ∃ b c, e = .returned (.tuple #[.slice b r.1.length c, .int .i64 r.2]) ∧ Pairs w' b r.1 ∧ Below w.heap.size w w'
theorem GivesTwo.list {w : World} {r : List (Int × Int) × Int} {e : Ending} {w' : World} (h : GivesTwo w r e w') : GivesList w r e w' := by
  obtain ⟨v, rfl, ho, hb⟩ := h
  obtain ⟨b, c, rfl, _, hp⟩ := own_pairs ho
  exact ⟨b, c, rfl, hp, hb⟩

/-- what the laws' walks ask of package clock -/
structure ClkCon : Prop where
  date : ∀ (t : Int) (w : World),
    Calls Tryd.prog 12 #[.int .i64 t] w fun e w' => e = .returned (.tuple #[.int .i64 (dateS t).1, .int .i64 (dateS t).2.1, .int .i64 (dateS t).2.2]) ∧ Below w.heap.size w w'
  weekday : ∀ (d : Int) (w : World),
    Calls Tryd.prog 14 #[.int .i64 d] w fun e w' => e = .returned (.tuple #[.int .i64 (weekS d).1, .int .i64 (weekS d).2]) ∧ Below w.heap.size w w'
  format : ∀ (t : Int) (w : World) (_hT : Tabs w),
    Calls Tryd.prog 17 #[.int .i64 t] w fun e w' => e = .returned (.tuple #[str (formatC t).1, .int .i64 (formatC t).2]) ∧ Below w.heap.size w w'
  parse : ∀ (s : ByteArray) (w : World) (_hs : s.size ≤ 1000) (_hT : Tabs w),
    Calls Tryd.prog 19 #[.string s] w fun e w' => e = .returned (.tuple #[.int .i64 (parseC s.data.toList).1, .int .i64 (parseC s.data.toList).2]) ∧ Below w.heap.size w w'
  merge : ∀ (a : Option Addr) (l : List (Int × Int)) (n cap : Nat) (w : World) (_hn : l.length = n) (_hb : n ≤ 1000) (_hl : Pairs w a l),
    Calls Tryd.prog 21 #[.slice a n cap] w (GivesList w (mrg l))
  inside : ∀ (a : Option Addr) (l : List (Int × Int)) (n cap : Nat) (t : Int) (w : World) (_hn : l.length = n) (_hb : n ≤ 100000) (_hl : Pairs w a l),
    Calls Tryd.prog 24 #[.slice a n cap, .int .i64 t] w fun e w' => e = .returned (.bool (insB l t)) ∧ Below w.heap.size w w'
  common : ∀ (a b : Option Addr) (l m : List (Int × Int)) (n n' cap cap' : Nat) (w : World) (_hn : l.length = n) (_hn' : m.length = n') (_hb : n ≤ 100) (_hb' : n' ≤ 100) (_hl : Pairs w a l) (_hm : Pairs w b m),
    Calls Tryd.prog 26 #[.slice a n cap, .slice b n' cap'] w (GivesList w (comS l m))
  opens : ∀ (cs : Array Value) (wk : List (Int × Int)) (t : Int) (w : World) (_h : IsWeek cs wk),
    Calls Tryd.prog 28 #[.agg cs, .int .i64 t] w fun e w' => e = .returned (.tuple #[.bool (openS wk t).1, .int .i64 (openS wk t).2]) ∧ Below w.heap.size w w'
  next : ∀ (cs : Array Value) (wk : List (Int × Int)) (t : Int) (w : World) (_h : IsWeek cs wk),
    Calls Tryd.prog 30 #[.agg cs, .int .i64 t] w (GivesNext w wk t)
end Go.Proofs.YtjmbbhhfbdjbdaaDoor
