/-
  The sequence of a table (All): what the laws' walks ask of it; the law Nil.
-/
import Derived.Test.YteemacgknmidaaaIdLaws4
import Derived.RangeFuncNested
import Derived.RangeFuncBound
import Derived.RangeFuncCalls
import Derived.RangeFuncLeaves
import Derived.Shelf.Abstract
import Derived.Shelf.RegionOpen
import Derived.WalkKit
import Derived.OwnWalkIn
import Derived.TacticsInMore
import Derived.LoopNIn
import Derived.LoopIn
namespace Go.Proofs.Yteemacgknmidaaa
set_option linter.unusedVariables false
set_option linter.unusedSimpArgs false
open Go.RowKit Go.Shelf
attribute [local go_sem] Oper.semAt_some

/-- the numbers and names of a list -/
def enumL (l : List ByteArray) : List (Nat × ByteArray) := (List.range l.length).map fun k => (k, l[k]?.getD ByteArray.empty)
abbrev encI (x : Nat × ByteArray) : Array Value := #[.int .i64 x.1, .string x.2]
abbrev SeqP := World → Option Addr → Value → List ByteArray → Prop
structure IdSeq (Tab : TabP) (Seq : SeqP) : Prop where
  all : ∀ (p : Addr) (l : List ByteArray) (F : Nat → Prop) (w : World) (_hT : Tab w p l F) (_hb : l.length ≤ 1000),
    Calls Try.prog 24 #[.pointer (some p)] w fun e w' => ∃ v, e = .returned v ∧ Seq w' (some p) v l ∧ Below w.heap.size w w'
  allNil : ∀ (w : World),
    Calls Try.prog 24 #[.pointer none] w fun e w' => ∃ v, e = .returned v ∧ Seq w' none v [] ∧ Below w.heap.size w w'
  add : ∀ (p : Addr) (l : List ByteArray) (F : Nat → Prop) (s : ByteArray) (v : Value) (l' : List ByteArray) (w : World) (_hT : Tab w p l F) (_hq : Seq w (some p) v l') (_hb : l.length ≤ 1000) (_hs : s.size ≤ 9223372036854775807),
    Calls Try.prog 17 #[.pointer (some p), .string s] w fun e w' => GivesAdd Tab w p F (addS l s) e w' ∧ Seq w' (some p) v l'
  keep : ∀ {w w' : World} {q : Option Addr} {v : Value} {l : List ByteArray}, Seq w q v l → Below w.heap.size w w' → Seq w' q v l
  stops : ∀ {w : World} {q : Option Addr} {v : Value} {l : List ByteArray}, Seq w q v l → ∃ gf lb, v = .func (.func gf) #[] lb ∧ Enters Try.prog gf ∧ ∀ n, 8 ≤ n → SeqStopsK Fence.wide n Try.prog gf lb encI (Below w.heap.size) (fun xs => xs = enumL l) (fun pre => pre <+: enumL l) l.length w

section
variable {Tab : TabP} {Seq : SeqP} (K : IdCon Tab) (Q : IdSeq Tab Seq)
include K Q

set_option maxRecDepth 100000 in
set_option maxHeartbeats 4000000 in
theorem identNil_of (s : ByteArray) (q : Int) (w : World) :
    Calls Try.prog 8 #[.string s, .int .i64 q] w fun e w' => e = .returned (.bool true) ∧ Below w.heap.size w w' := by
  refine (callsIn_wide (n := 20)).1 ?_
  refine callsIn_of_wp_marks Try.func8 rfl trivial ?_ rfl
  simp only [Try.ntmps8, List.size_toArray, List.length_cons, List.length_nil, Nat.reduceAdd, Nat.reduceSub, Array.replicate_succ, Array.replicate_zero, List.push_toArray, List.append_toArray, List.nil_append, List.cons_append]
  gi_wp2_with fail
  refine ⟨trivial, (callsIn_wide.2 (K.addNil s _)).mono ?_⟩
  rintro e w1 ⟨rfl, hb1⟩
  gi_wp2_with fail
  refine ⟨trivial, (callsIn_wide.2 (K.findNil s _)).mono ?_⟩
  rintro e w2 ⟨rfl, hb2⟩
  gi_wp2_with fail
  refine ⟨trivial, (callsIn_wide.2 (K.nameNil q _)).mono ?_⟩
  rintro e w3 ⟨rfl, hb3⟩
  gi_wp2_with fail
  refine ⟨trivial, (callsIn_wide.2 (Q.allNil _)).mono ?_⟩
  rintro e w4 ⟨v, rfl, hq, hb4⟩
  obtain ⟨gf, lb, rfl, hent, hst⟩ := Q.stops hq
  have c0 := kept (show Below (w.alloc (.cells #[.bool false] 4)).heap.size _ w4 by (repeat' first | with_reducible assumption | exact Below.refl _ _ | with_reducible refine Below.drew ?_ | with_reducible refine Below.drewN ?_ _ | with_reducible refine Below.alloc' ?_ _ | with_reducible refine Below.setCell ?_ (by first | exact Nat.le_refl _ | omega | (simp; done) | (simp; omega)) _ | with_reducible refine Below.after ?_ ‹_›)) (p := ⟨w.heap.size, 0, none⟩) (v := .bool false) (by simp [go_sem])
  have f0 := keptF (show Below (w.alloc (.cells #[.bool false] 4)).heap.size _ w4 by (repeat' first | with_reducible assumption | exact Below.refl _ _ | with_reducible refine Below.drew ?_ | with_reducible refine Below.drewN ?_ _ | with_reducible refine Below.alloc' ?_ _ | with_reducible refine Below.setCell ?_ (by first | exact Nat.le_refl _ | omega | (simp; done) | (simp; omega)) _ | with_reducible refine Below.after ?_ ‹_›)) (p := ⟨w.heap.size, 0, none⟩) (v := .bool false) (by simp [go_sem]) (by simp [go_sem])
  have hbw : Below w.heap.size w w4 := by (repeat' first | with_reducible assumption | exact Below.refl _ _ | with_reducible refine Below.drew ?_ | with_reducible refine Below.drewN ?_ _ | with_reducible refine Below.alloc' ?_ _ | with_reducible refine Below.setCell ?_ (by first | exact Nat.le_refl _ | omega | (simp; done) | (simp; omega)) _ | with_reducible refine Below.after ?_ ‹_›)
  have hrun : ∀ W, Sem.run Try.prog (binOp BinOp.eql 53 (.func (.func gf) #[] lb) .nilFunc) W = .ok (.bool false) W := fun _ => by kernel_rfl
  gi_wp2
  refine wpIn_rangeFunc_ownF rfl (by omega) (gf := gf) (lb := lb) rfl trivial hent (hst 19 (by omega)) belowK_t (belowK_b (Nat.le_refl _)) (Below.refl _ _) (fun _ => rfl)
    (fun _ W => (W.cell? ⟨w.heap.size, 0, none⟩ = some (.bool false) ∧ W.frozen? ⟨w.heap.size, 0, none⟩ = false) ∧ Below w.heap.size w W) (fun _ _ _ => False)
    (OwnFrom.and (Own.from (fun s A B row hs hg hr => ⟨cell_kept hs.1 hg hr, (frozen_kept hs.1 hg hr).trans hs.2⟩) _) (ownFrom_below (Nat.le_refl _) hbw.size))
    (fun _ _ _ _ _ hs _ _ => hs) ⟨⟨c0, f0⟩, hbw⟩ ?a1 ?assign ?body ?done ?stop
  case assign =>
    intro l x W K hK
    gi_wp2
    exact hK
  case body =>
    rintro l pre x W _ h
    simp at h
  case done =>
    rintro D ys W hD rfl ⟨⟨hc, hf⟩, hB⟩ hK
    have hDlt := (Array.getElem?_eq_some_iff.1 hK).1
    gi_wp2_with fail
    refine ⟨trivial, (callsIn_wide.2 (K.lenNil _)).mono ?_⟩
    rintro e w5 ⟨rfl, hb5⟩
    gi_wp2_with fail
    refine ⟨trivial, (callsIn_wide.2 (idAwake_any K _)).mono ?_⟩
    rintro e w6 ⟨rfl, hb6⟩
    have hc6 := kept hb6 (kept hb5 hc)
    have hf6 := keptF hb6 (kept hb5 hc) (keptF hb5 hc hf)
    have hb56 : Below W.heap.size W w6 := by (repeat' first | with_reducible assumption | exact Below.refl _ _ | with_reducible refine Below.drew ?_ | with_reducible refine Below.drewN ?_ _ | with_reducible refine Below.alloc' ?_ _ | with_reducible refine Below.setCell ?_ (by first | exact Nat.le_refl _ | omega | (simp; done) | (simp; omega)) _ | with_reducible refine Below.after ?_ ‹_›)
    have hK6 := (hb56.block D hDlt).trans hK
    have hB6 : Below w.heap.size w w6 := hB.trans (hb56.mono hB.size)
    gi_wp2
    have hK' := (KeepsOthers.setCell w6 ⟨w.heap.size, 0, none⟩ (.bool true)).same D _ hK6 rfl
    refine ⟨by simp, .inl ⟨_, _, rfl, run_takeDeferred hK', ?_⟩⟩
    have hc5 := cell_kept (World.cell?_setCell_same' w6 ⟨w.heap.size, 0, none⟩ (.bool true) (by rw [hc6]; rfl)) (grownBy_putObj' _ D (.deferred none)) (fun r e => by cases e; exact ⟨_, hK', rfl⟩)
    refine ⟨.bool true, ?_, rfl, (hB6.setCell (p := ⟨w.heap.size, 0, none⟩) (Nat.le_refl _) _).trans (belowK_b (w := w) (Nat.le_refl _) _ D _ _ (by have := hbw.size; omega) hK' rfl rfl)⟩
    simp [results, Try.f8, go_sem, hc5]
  case stop =>
    rintro D c pre W _ _ h _
    exact h.elim
end
end Go.Proofs.Yteemacgknmidaaa
