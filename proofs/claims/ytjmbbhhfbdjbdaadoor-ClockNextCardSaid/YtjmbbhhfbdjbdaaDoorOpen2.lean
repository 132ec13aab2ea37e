/-
  What a walk is told of an array of pairs of integers that came in by value.
-/
import Derived.Test.YtjmbbhhfbdjbdaaDoorOpen
namespace Go.Proofs.YtjmbbhhfbdjbdaaDoor
open Go.ChangeShapes Go.WideShapes Go.Deep Go.RowKit

section
variable {H : Type} {enc : TypeId × Value → H} {P : Program} {w : World} {base : Nat} {held : Bool}
theorem open_pairs_agg {T E : TypeId} {f0 f1 : Field} {k : IntKind} {n : Nat} {r : Reach} {b0 : Nat} {v : Value} {d : DataW H} {p : List MemPlace} {sp : Nat → Bool}
    (hT : P.underlying T = some (.array n E)) (hE : P.underlying E = some (.struct #[f0, f1])) (cT : P.cellsOf T = n * 2) (cE : P.cellsOf E = 2)
    (o0 : f0.offset = 0) (o1 : f1.offset = 1) (c0 : P.cellsOf f0.type = 1) (c1 : P.cellsOf f1.type = 1)
    (i0 : P.underlying f0.type = some (.int k)) (i1 : P.underlying f1.type = some (.int k))
    (hv : Value.okWide P w r b0 T v) (h : DataW.Trod enc P w base sp held T v d p) :
    ∃ (cs : Array Value) (zs : List (Int × Int)), v = .agg cs ∧ cs.size = n * 2 ∧ zs.length = n ∧
      (∀ i, i < n → cs[i * 2]? = some (.int k (zs[i]?.getD (0, 0)).1) ∧ cs[i * 2 + 1]? = some (.int k (zs[i]?.getD (0, 0)).2)) ∧ ∀ z ∈ zs, (Lit.int k z.1).wf = true ∧ (Lit.int k z.2).wf = true := by
  simp only [Value.okWide, hT] at hv
  obtain ⟨cs, rfl, hsz, _⟩ := hv
  rw [cT] at hsz
  obtain ⟨fuel, hf⟩ := h
  obtain ⟨xs, m, _, _, hl, hn, hel⟩ := DataW.trod_array hT hf
  obtain ⟨g, hg⟩ := choose_lt (α := Int × Int) (n := n) (p := fun i z => cs[i * 2]? = some (.int k z.1) ∧ cs[i * 2 + 1]? = some (.int k z.2) ∧ (Lit.int k z.1).wf = true ∧ (Lit.int k z.2).wf = true) (fun i hi => by
    have h1 := hel i hi
    rw [cE] at h1
    have hx : xs[i]? = some (xs[i]'(by omega)) := List.getElem?_eq_getElem (by omega)
    rw [hx] at h1
    obtain ⟨ys, m', _, _, _, hyl, hy⟩ := DataW.trod_struct hE h1
    have q0 := hy 0 f0 rfl
    have q1 := hy 1 f1 rfl
    have hy0 : ys[0]? = some (ys[0]'(by simp at hyl; omega)) := List.getElem?_eq_getElem (by simp at hyl; omega)
    have hy1 : ys[1]? = some (ys[1]'(by simp at hyl; omega)) := List.getElem?_eq_getElem (by simp at hyl; omega)
    rw [o0, c0, hy0] at q0
    rw [o1, c1, hy1] at q1
    obtain ⟨u0, e0, _, w0⟩ := DataW.trod_int i0 q0
    obtain ⟨u1, e1, _, w1⟩ := DataW.trod_int i1 q1
    refine ⟨(u0, u1), ?_, ?_, w0, w1⟩
    · have hd : ((((((Value.agg cs).cells.toList.drop (i * 2)).take 2).drop 0).take 1))[0]? = cs[i * 2]? := by
        simp [Value.cells]
      rw [e0] at hd
      simpa using hd.symm
    · have hd : ((((((Value.agg cs).cells.toList.drop (i * 2)).take 2).drop 1).take 1))[0]? = cs[i * 2 + 1]? := by
        simp [Value.cells]
      rw [e1] at hd
      simpa using hd.symm)
  refine ⟨cs, (List.range n).map g, rfl, hsz, by simp, fun i hi => ?_, fun z hz => ?_⟩
  · have he : ((List.range n).map g)[i]?.getD (0, 0) = g i := by simp [hi]
    rw [he]
    exact ⟨(hg i hi).1, (hg i hi).2.1⟩
  · obtain ⟨i, him, rfl⟩ := List.mem_map.1 hz
    have := hg i (List.mem_range.1 him)
    exact ⟨this.2.2.1, this.2.2.2⟩
end
end Go.Proofs.YtjmbbhhfbdjbdaaDoor
