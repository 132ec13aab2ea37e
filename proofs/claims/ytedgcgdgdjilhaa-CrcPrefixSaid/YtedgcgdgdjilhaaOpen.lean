/-
  What a walk is told of arguments that came in: slices of integers, slices of pairs of integers, arrays of integers by value.
-/
import Derived.Test.YtedgcgdgdjilhaaRows
import Derived.WalkKit
import Derived.ProofKit
import Derived.OpenShut
import Derived.Deep.SlicePairs
import Derived.Lib.Hide
import Derived.Handy
namespace Go.Proofs.Ytedgcgdgdjilhaa
open Go.ChangeShapes Go.WideShapes Go.Deep Go.RowKit

/-- a slice of integers that came in: the numbers up to its capacity -/
def IsRow (k : IntKind) (w : World) (a : Option Addr) (len cap : Nat) (zs : List Int) : Prop :=
  (a = none ∧ len = 0 ∧ cap = 0 ∧ zs = []) ∨
  ∃ x, a = some x ∧ len ≤ cap ∧ cap ≤ maxLen ∧ zs.length = cap ∧ (∀ i, i < zs.length → w.cell? (x.add i) = some (.int k (zs.getD i 0))) ∧ ∀ n ∈ zs, (Lit.int k n).wf = true

/-- a slice of pairs of integers that came in: the pairs up to its capacity -/
def IsPairs (k : IntKind) (w : World) (a : Option Addr) (len cap : Nat) (zs : List (Int × Int)) : Prop :=
  (a = none ∧ len = 0 ∧ cap = 0 ∧ zs = []) ∨
  ∃ x, a = some x ∧ len ≤ cap ∧ cap ≤ maxLen ∧ zs.length = cap ∧
    (∀ i, i < cap → w.cell? (x.add (i * 2)) = some (.int k (zs[i]?.getD (0, 0)).1) ∧ w.cell? (x.add (i * 2 + 1)) = some (.int k (zs[i]?.getD (0, 0)).2)) ∧
    ∀ z ∈ zs, (Lit.int k z.1).wf = true ∧ (Lit.int k z.2).wf = true

section
variable {H : Type} {enc : TypeId × Value → H} {P : Program} {w : World} {base : Nat} {held : Bool}
theorem open_row_pairs {S E : TypeId} {f0 f1 : Field} {k : IntKind} {a : Option Addr} {len cap : Nat} {d : DataW H} {p : List MemPlace}
    (hS : P.underlying S = some (.slice E)) (hE : P.underlying E = some (.struct #[f0, f1])) (ce : P.cellsOf E = 2) (o0 : f0.offset = 0) (o1 : f1.offset = 1) (c0 : P.cellsOf f0.type = 1) (c1 : P.cellsOf f1.type = 1)
    (i0 : P.underlying f0.type = some (.int k)) (i1 : P.underlying f1.type = some (.int k))
    (h : DataW.Trod enc P w base (fun _ => true) held S (.slice a len cap) d p) : ∃ zs, IsPairs k w a len cap zs := by
  obtain ⟨fuel, hf⟩ := h
  rcases open_slice_pairs hS hE ce o0 o1 c0 c1 hf with ⟨hcs, _⟩ | ⟨x, l, c, m, n, V0, V1, D0, D1, P0, P1, hcs, _, hl, hm, hmm, _, hi⟩
  · simp [Value.cells] at hcs
    obtain ⟨rfl, rfl, rfl⟩ := hcs
    exact ⟨[], .inl ⟨rfl, rfl, rfl, rfl⟩⟩
  · simp [Value.cells] at hcs
    obtain ⟨rfl, rfl, rfl⟩ := hcs
    simp at hmm
    subst hmm
    obtain ⟨g, hg⟩ := choose_lt (α := Int × Int) (n := m) (p := fun i z => w.cell? (x.add (i * 2)) = some (.int k z.1) ∧ w.cell? (x.add (i * 2 + 1)) = some (.int k z.2) ∧ (Lit.int k z.1).wf = true ∧ (Lit.int k z.2).wf = true) (fun i him => by
      obtain ⟨h0, h1, t0, t1⟩ := hi i him
      obtain ⟨u0, e0, _, w0⟩ := DataW.trod_int i0 t0
      obtain ⟨u1, e1, _, w1⟩ := DataW.trod_int i1 t1
      simp at e0 e1
      rw [e0] at h0
      rw [e1] at h1
      exact ⟨(u0, u1), h0, h1, w0, w1⟩)
    refine ⟨(List.range m).map g, .inr ⟨x, rfl, hl, hm, by simp, fun i him => ?_, fun z hz => ?_⟩⟩
    · have he : ((List.range m).map g)[i]?.getD (0, 0) = g i := by simp [him]
      rw [he]
      exact ⟨(hg i him).1, (hg i him).2.1⟩
    · obtain ⟨i, him, rfl⟩ := List.mem_map.1 hz
      have := hg i (List.mem_range.1 him)
      exact ⟨this.2.2.1, this.2.2.2⟩

theorem open_ints_agg {T E : TypeId} {k : IntKind} {n : Nat} {r : Reach} {b0 : Nat} {v : Value} {d : DataW H} {p : List MemPlace} {sp : Nat → Bool}
    (hT : P.underlying T = some (.array n E)) (hE : P.underlying E = some (.int k)) (cT : P.cellsOf T = n) (cE : P.cellsOf E = 1)
    (hv : Value.okWide P w r b0 T v) (h : DataW.Trod enc P w base sp held T v d p) : ∃ l : List Int, l.length = n ∧ v = .agg (l.map fun z => Value.int k z).toArray ∧ ∀ z ∈ l, (Lit.int k z).wf = true := by
  simp only [Value.okWide, hT] at hv
  obtain ⟨cs, rfl, hsz, _⟩ := hv
  rw [cT] at hsz
  obtain ⟨fuel, hf⟩ := h
  obtain ⟨xs, m, _, _, hl, hn, hel⟩ := DataW.trod_array hT hf
  obtain ⟨g, hg⟩ := choose_lt (α := Int) (n := n) (p := fun i z => cs[i]? = some (.int k z) ∧ (Lit.int k z).wf = true) (fun i hi => by
    have h1 := hel i hi
    rw [cE, Nat.mul_one] at h1
    have hx : xs[i]? = some (xs[i]'(by omega)) := List.getElem?_eq_getElem (by omega)
    rw [hx] at h1
    obtain ⟨u, e, _, wu⟩ := DataW.trod_int hE h1
    refine ⟨u, ?_, wu⟩
    have hd : (((Value.agg cs).cells.toList.drop i).take 1)[0]? = cs[i]? := by
      simp [Value.cells]
    rw [e] at hd
    simpa using hd.symm)
  refine ⟨(List.range n).map g, by simp, ?_, fun z hz => ?_⟩
  · congr 1
    apply Array.ext_getElem?
    intro i
    by_cases hi : i < n
    · rw [(hg i hi).1]
      simp [hi]
    · have h1 : cs[i]? = none := by simp; omega
      rw [h1, List.getElem?_toArray, List.getElem?_eq_none (by simpa using Nat.le_of_not_lt hi)]
  · obtain ⟨i, him, rfl⟩ := List.mem_map.1 hz
    exact (hg i (List.mem_range.1 him)).2

theorem open_ints_agg2 {T E : TypeId} {k : IntKind} {r : Reach} {b0 : Nat} {v : Value} {d : DataW H} {p : List MemPlace} {sp : Nat → Bool}
    (hT : P.underlying T = some (.array 2 E)) (hE : P.underlying E = some (.int k)) (cT : P.cellsOf T = 2) (cE : P.cellsOf E = 1)
    (hv : Value.okWide P w r b0 T v) (h : DataW.Trod enc P w base sp held T v d p) : ∃ x0 x1 : Int, v = .agg #[.int k x0, .int k x1] ∧ (Lit.int k x0).wf = true ∧ (Lit.int k x1).wf = true := by
  obtain ⟨l, hl, rfl, hw⟩ := open_ints_agg hT hE cT cE hv h
  match l, hl, hw with
  | [x0, x1], _, hw => exact ⟨x0, x1, rfl, hw x0 (by simp), hw x1 (by simp)⟩

theorem open_ints_agg3 {T E : TypeId} {k : IntKind} {r : Reach} {b0 : Nat} {v : Value} {d : DataW H} {p : List MemPlace} {sp : Nat → Bool}
    (hT : P.underlying T = some (.array 3 E)) (hE : P.underlying E = some (.int k)) (cT : P.cellsOf T = 3) (cE : P.cellsOf E = 1)
    (hv : Value.okWide P w r b0 T v) (h : DataW.Trod enc P w base sp held T v d p) : ∃ x0 x1 x2 : Int, v = .agg #[.int k x0, .int k x1, .int k x2] ∧ (Lit.int k x0).wf = true ∧ (Lit.int k x1).wf = true ∧ (Lit.int k x2).wf = true := by
  obtain ⟨l, hl, rfl, hw⟩ := open_ints_agg hT hE cT cE hv h
  match l, hl, hw with
  | [x0, x1, x2], _, hw => exact ⟨x0, x1, x2, rfl, hw x0 (by simp), hw x1 (by simp), hw x2 (by simp)⟩

theorem open_ints_agg4 {T E : TypeId} {k : IntKind} {r : Reach} {b0 : Nat} {v : Value} {d : DataW H} {p : List MemPlace} {sp : Nat → Bool}
    (hT : P.underlying T = some (.array 4 E)) (hE : P.underlying E = some (.int k)) (cT : P.cellsOf T = 4) (cE : P.cellsOf E = 1)
    (hv : Value.okWide P w r b0 T v) (h : DataW.Trod enc P w base sp held T v d p) : ∃ x0 x1 x2 x3 : Int, v = .agg #[.int k x0, .int k x1, .int k x2, .int k x3] ∧ (Lit.int k x0).wf = true ∧ (Lit.int k x1).wf = true ∧ (Lit.int k x2).wf = true ∧ (Lit.int k x3).wf = true := by
  obtain ⟨l, hl, rfl, hw⟩ := open_ints_agg hT hE cT cE hv h
  match l, hl, hw with
  | [x0, x1, x2, x3], _, hw => exact ⟨x0, x1, x2, x3, rfl, hw x0 (by simp), hw x1 (by simp), hw x2 (by simp), hw x3 (by simp)⟩
end
end Go.Proofs.Ytedgcgdgdjilhaa
