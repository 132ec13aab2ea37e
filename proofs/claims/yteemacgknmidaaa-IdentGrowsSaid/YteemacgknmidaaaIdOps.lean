/-
  A slice of calls (two integers and a string) that came in; that reads as a list.
-/
import Derived.Test.YteemacgknmidaaaIdLaws3
import Derived.Deep.SlicePairs
namespace Go.Proofs.Yteemacgknmidaaa
set_option linter.unusedVariables false
set_option linter.unusedSimpArgs false
open Go.ChangeShapes Go.WideShapes Go.RowKit Go.Deep

abbrev OpT := Int × Int × ByteArray
def op0 : OpT := (0, 0, ByteArray.empty)
/-- a slice of calls that came in: the calls up to its capacity -/
def IsOps (w : World) (a : Option Addr) (len cap : Nat) (zs : List OpT) : Prop :=
  (a = none ∧ len = 0 ∧ cap = 0 ∧ zs = []) ∨
  ∃ x, a = some x ∧ len ≤ cap ∧ cap ≤ maxLen ∧ zs.length = cap ∧ (∀ i, i < cap → w.cell? (x.add (i * 3)) = some (.int .i64 (zs[i]?.getD op0).1) ∧ w.cell? (x.add (i * 3 + 1)) = some (.int .i64 (zs[i]?.getD op0).2.1) ∧ w.cell? (x.add (i * 3 + 2)) = some (.string (zs[i]?.getD op0).2.2)) ∧ ∀ z ∈ zs, z.2.2.size ≤ maxLen

section
variable {H : Type} {enc : TypeId × Value → H} {P : Program} {w : World} {base : Nat} {held : Bool}
theorem open_row_ops {S E : TypeId} {f0 f1 f2 : Field} {a : Option Addr} {len cap : Nat} {d : DataW H} {p : List MemPlace}
    (hS : P.underlying S = some (.slice E)) (hE : P.underlying E = some (.struct #[f0, f1, f2])) (ce : P.cellsOf E = 3) (o0 : f0.offset = 0) (o1 : f1.offset = 1) (o2 : f2.offset = 2) (c0 : P.cellsOf f0.type = 1) (c1 : P.cellsOf f1.type = 1) (c2 : P.cellsOf f2.type = 1)
    (i0 : P.underlying f0.type = some (.int .i64)) (i1 : P.underlying f1.type = some (.int .i64)) (i2 : P.underlying f2.type = some .string)
    (h : DataW.Trod enc P w base (fun _ => true) held S (.slice a len cap) d p) : ∃ zs, IsOps w a len cap zs := by
  obtain ⟨fuel, hf⟩ := h
  rcases open_slice hS hf with ⟨hcs, _⟩ | ⟨x, l, c, m, n, D, Pl, hcs, _, hl, hm, hmm, _, hx⟩
  · simp [Value.cells] at hcs
    obtain ⟨rfl, rfl, rfl⟩ := hcs
    exact ⟨[], .inl ⟨rfl, rfl, rfl, rfl⟩⟩
  · simp [Value.cells] at hcs
    obtain ⟨rfl, rfl, rfl⟩ := hcs
    simp at hmm
    subst hmm
    obtain ⟨g, hg⟩ := choose_lt (α := OpT) (n := m) (p := fun i z => w.cell? (x.add (i * 3)) = some (.int .i64 z.1) ∧ w.cell? (x.add (i * 3 + 1)) = some (.int .i64 z.2.1) ∧ w.cell? (x.add (i * 3 + 2)) = some (.string z.2.2) ∧ z.2.2.size ≤ maxLen) (fun i him => by
      obtain ⟨cs', h1, h2⟩ := hx i him
      rw [ce] at h1
      obtain ⟨_, hlen, hcell⟩ := World.cells?_some h1
      obtain ⟨xs, k, hk, hxy, _, hxl, hfd⟩ := DataW.trod_struct hE h2
      match xs, hxl, cs', hlen with
      | [y0, y1, y2], _, [v0, v1, v2], _ =>
        have g0 := hfd 0 f0 rfl
        have g1 := hfd 1 f1 rfl
        have g2 := hfd 2 f2 rfl
        simp [o0, o1, o2, c0, c1, c2] at g0 g1 g2
        obtain ⟨u0, e0, _, _⟩ := DataW.trod_int i0 g0
        obtain ⟨u1, e1, _, _⟩ := DataW.trod_int i1 g1
        obtain ⟨u2, e2, _, w2⟩ := DataW.trod_string i2 g2
        simp at e0 e1 e2
        subst e0
        subst e1
        subst e2
        have q0 := hcell 0 (by omega)
        have q1 := hcell 1 (by omega)
        have q2 := hcell 2 (by omega)
        rw [add_add] at q0 q1 q2
        exact ⟨(u0, u1, u2), by simpa using q0, by simpa using q1, by simpa using q2, w2⟩)
    refine ⟨(List.range m).map g, .inr ⟨x, rfl, hl, hm, by simp, fun i him => ?_, fun z hz => ?_⟩⟩
    · have he : ((List.range m).map g)[i]?.getD op0 = g i := by simp [him]
      rw [he]
      exact ⟨(hg i him).1, (hg i him).2.1, (hg i him).2.2.1⟩
    · obtain ⟨i, him, rfl⟩ := List.mem_map.1 hz
      exact (hg i (List.mem_range.1 him)).2.2.2
end

/-- a slice of calls that reads as the list l -/
def Ops (w : World) (a : Option Addr) (l : List OpT) : Prop :=
  l ≠ [] → ∃ b off, a = some ⟨b, off, none⟩ ∧ ∀ k, k < l.length → w.cell? ⟨b, off + k * 3, none⟩ = some (.int .i64 (l[k]?.getD op0).1) ∧ w.cell? ⟨b, off + k * 3 + 1, none⟩ = some (.int .i64 (l[k]?.getD op0).2.1) ∧ w.cell? ⟨b, off + k * 3 + 2, none⟩ = some (.string (l[k]?.getD op0).2.2)
theorem Ops.at_ {w : World} {a : Option Addr} {l : List OpT} (h : Ops w a l) {k : Nat} (hk : k < l.length) :
    ∃ b off, a = some ⟨b, off, none⟩ ∧ w.cell? ⟨b, off + k * 3, none⟩ = some (.int .i64 (l[k]?.getD op0).1) ∧ w.cell? ⟨b, off + k * 3 + 1, none⟩ = some (.int .i64 (l[k]?.getD op0).2.1) ∧ w.cell? ⟨b, off + k * 3 + 2, none⟩ = some (.string (l[k]?.getD op0).2.2) := by
  obtain ⟨b, off, e, hc⟩ := h (by intro e; subst e; simp at hk)
  exact ⟨b, off, e, hc k hk⟩
theorem IsOps.len {w : World} {a : Option Addr} {len cap : Nat} {zs : List OpT} (h : IsOps w a len cap zs) : (zs.take len).length = len := by
  rcases h with ⟨_, rfl, _, rfl⟩ | ⟨x, _, hl, _, hz, _⟩
  · rfl
  · rw [List.length_take]; omega
theorem IsOps.sizes {w : World} {a : Option Addr} {len cap : Nat} {zs : List OpT} (h : IsOps w a len cap zs) : ∀ z ∈ zs.take len, z.2.2.size ≤ maxLen := by
  rcases h with ⟨_, _, _, rfl⟩ | ⟨x, _, _, _, _, _, hs⟩
  · intro z hz; simp at hz
  · exact fun z h => hs z (List.mem_of_mem_take h)
theorem IsOps.caps {w : World} {a : Option Addr} {len cap : Nat} {zs : List OpT} (h : IsOps w a len cap zs) : len ≤ cap ∧ cap ≤ maxLen := by
  rcases h with ⟨_, rfl, rfl, _⟩ | ⟨x, _, h1, h2, _⟩
  · exact ⟨Nat.le_refl _, Nat.zero_le _⟩
  · exact ⟨h1, h2⟩
theorem IsOps.ops {w : World} {a : Option Addr} {len cap : Nat} {zs : List OpT} (h : IsOps w a len cap zs) : Ops w a (zs.take len) := by
  have hlen := h.len
  rcases h with ⟨_, rfl, _, rfl⟩ | ⟨x, rfl, hl, _, hz, hc, _⟩
  · intro h; simp at h
  · intro hne
    have h0 : 0 < len := by
      rcases Nat.eq_zero_or_pos len with h | h
      · subst h; simp at hne
      · exact h
    obtain ⟨b, off, spot⟩ := x
    have hs := (hc 0 (by omega)).1
    have hspot : spot = none := by simpa [Addr.add] using World.cell?_spot hs
    subst hspot
    refine ⟨b, off, rfl, fun k hk => ?_⟩
    have hkl : k < len := by omega
    have := hc k (by omega)
    rw [add_none, add_none, add_none] at this
    rw [show (zs.take len)[k]? = zs[k]? by simp [hkl]]
    exact this
end Go.Proofs.Yteemacgknmidaaa
