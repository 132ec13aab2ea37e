/-
  make([]T, n, c) for one-cell elements, and a copy over its beginning: what is owned afterwards.
-/
import Derived.Test.YtedgcgdgdjilhaaStore
import Derived.Laws.CopyOwn
namespace Go.Proofs.Ytedgcgdgdjilhaa
set_option linter.unusedVariables false
set_option linter.unusedSimpArgs false
open Go.RowKit

/-- 'make([]T, n, m)', n and m variables: the new block as it stands -/
theorem wpList_make_room {P : Program} (w : World) {ops : Array Oper} {rest : List Oper} {o : Oper} {a : Act} {Q : Exit → Act → World → Prop}
    (hg : o.guard = none) (l c : Operand) (t : TypeId) (hop : o.op = Op.makeSlice t l c)
    (e : TypeId) (i : TypeInfo) (z : Value) (size : Nat) (h1 : P.underlying t = some (.slice e)) (h2 : P.info? e = some i) (h3 : i.zero = some z) (h4 : i.size = size)
    (kl kc : IntKind) (L C : Int) (n m : Nat) (hl : a.eval l = .int kl L) (hc : a.eval c = .int kc C) (hL : L = (n : Int)) (hC : C = (m : Int)) (hnm : n ≤ m) (b2 : i.bytes * m ≤ 281474976710656) (b3 : m ≤ maxLen)
    (hK : wpList P ops Q rest (a.put o.dst (.slice (some ⟨w.heap.size, 0, none⟩) n m)) (w.alloc (.cells (madeCells z.cells (m * size)) e))) :
    wpList P ops Q (o :: rest) a w := by
  refine wpList_plain hg fun K hK' => ?_
  subst hL hC h4
  have hb : (i.bytes : Int) * (m : Int) ≤ 281474976710656 := by
    have : ((i.bytes * m : Nat) : Int) ≤ 281474976710656 := by omega
    rwa [Int.natCast_mul] at this
  have hm : (m : Int) ≤ 9223372036854775807 := by unfold maxLen at b3; omega
  have hrun := run_make (P := P) w t e i z h1 h2 h3 kl kc (n : Int) (m : Int) (by omega) (by omega) hb hm
  simp only [Int.toNat_natCast] at hrun
  unfold Oper.wp
  simp [execOp, hop, hl, hc, hrun, Result.andThen]
  exact hK' _ _ hK
theorem made_heap (w : World) (c : Array Value) (e : TypeId) : (w.alloc (.cells c e)).heap[w.heap.size]? = some (.cells c.toList.toArray e (0, 0)) := by
  show (w.heap.push (.cells c e (0, 0)))[w.heap.size]? = _
  rw [Array.getElem?_push_size, Array.toArray_toList]
/-- what is owned behind the copy -/
theorem own_spliced {w : World} {base : Nat} {e : TypeId} {g n m : Nat} {cur cs : List Value} (h : w.heap[g]? = some (.cells (splice cur 0 cs).toArray e (0, 0))) (hb : base ≤ g) (hn : cs.length = n) (hm : cur.length = m) (hnm : n ≤ m) (hx : m ≤ maxLen) :
    w.ownsRow base e 1 (.slice (some ⟨g, 0, none⟩) n m) n cs := by
  subst hn hm
  refine ⟨by simp, .inr ⟨g, _, _, rfl, hb, h, hnm, hx, ?_, ?_⟩⟩
  · simp [splice]; omega
  · simp [splice]
theorem Reads.copied {w : World} {a : Option Addr} {l : List Value} (h : Reads w a l) (h0 : 0 < l.length) : ∃ ad, a = some ad ∧ ∀ j v, l[j]? = some v → w.cell? (ad.add j) = some v := by
  obtain ⟨b, off, rfl, _⟩ := h (by intro e; subst e; simp at h0)
  exact ⟨_, rfl, h.news⟩
end Go.Proofs.Ytedgcgdgdjilhaa
