/-
  An argument that is a slice of slices of strings: what the frames open.
-/
import Derived.Test.YtdkhajpkldjlmaaFldLaws3
import Derived.SliceStrings
namespace Go.Proofs.Ytdkhajpkldjlmaa
set_option linter.unusedVariables false
set_option linter.unusedSimpArgs false
open Go.ChangeShapes Go.WideShapes Go.RowKit

def IsStrss (w : World) (a : Option Addr) (len cap : Nat) (zs : List (List ByteArray)) : Prop := zs.length = len ∧ len ≤ maxLen ∧ Listed w a zs

theorem open_row_strss {H : Type} {enc : TypeId × Value → H} {P : Program} {w : World} {base : Nat} {held : Bool} {S E Q : TypeId} {a : Option Addr} {len cap : Nat} {d : DataW H} {p : List MemPlace}
    (hS : P.underlying S = some (.slice E)) (hE : P.underlying E = some (.slice Q)) (hQ : P.underlying Q = some .string) (cE : P.cellsOf E = 1) (cQ : P.cellsOf Q = 1)
    (h : DataW.Trod enc P w base (fun _ => true) held S (.slice a len cap) d p) : ∃ zs, IsStrss w a len cap zs := by
  obtain ⟨fuel, hf⟩ := h
  rcases DataW.trod_slice hS hf with h0 | ⟨x, l, c, elems, rest, n, _, hcs, _, hb, hl, hm, hlen, hel, hsp, hns⟩
  · have h1 : [Value.slice a len cap] = [.slice none 0 0] := by simpa [Value.cells] using h0.1
    simp at h1
    obtain ⟨rfl, rfl, rfl⟩ := h1
    exact ⟨[], rfl, Nat.zero_le _, fun h => absurd rfl h, fun l hl => by cases hl⟩
  · simp [Value.cells] at hcs
    obtain ⟨rfl, rfl, rfl⟩ := hcs
    have each : ∀ i, ∃ z : List ByteArray, i < len → ∃ y m e, w.cell? (x.add i) = some (.slice y m e) ∧ z.length = m ∧ Strs w y z ∧ z.length ≤ maxLen ∧ ∀ s ∈ z, s.size ≤ maxLen := by
      intro i
      by_cases hi : i < len
      · have hy := hel i hi
        rw [List.getElem?_eq_getElem (by omega), cE, Nat.mul_one, Option.bind_eq_some_iff] at hy
        obtain ⟨cs', hcs, hy'⟩ := hy
        rcases open_strings hE hQ cQ hy' with ⟨rfl, _⟩ | ⟨y, m, e, ss, rfl, _, h1, h2, h3, _, h4, h5⟩
        · exact ⟨[], fun _ => ⟨none, 0, 0, cell_of_cells?_one hcs, rfl, fun h => absurd rfl h, Nat.zero_le _, fun s hs => by cases hs⟩⟩
        · have hz : IsStrs w (some y) m e ss := .inr ⟨y, rfl, h1, h2, by simpa using h3, fun j hj => h4 j (by have := h3; simp at this; omega), h5⟩
          exact ⟨ss.take m, fun _ => ⟨some y, m, e, cell_of_cells?_one hcs, hz.len, hz.strs, by rw [hz.len]; omega, hz.sizes⟩⟩
      · exact ⟨[], fun h => absurd h hi⟩
    obtain ⟨f, hf⟩ := Classical.axiomOfChoice each
    have hlm : len ≤ maxLen := by omega
    have hat : ∀ k, k < len → ((List.range len).map f)[k]?.getD [] = f k := fun k hk => by simp [hk]
    refine ⟨(List.range len).map f, by simp, hlm, fun hne => ?_, fun l hl => ?_⟩
    · have h0 : 0 < len := by
        rcases Nat.eq_zero_or_pos len with h | h
        · subst h; simp at hne
        · exact h
      obtain ⟨b, off, spot⟩ := x
      obtain ⟨y, m, e, hc, _⟩ := hf 0 h0
      have hspot : spot = none := by simpa [Addr.add] using World.cell?_spot hc
      subst hspot
      refine ⟨b, off, rfl, fun k hk => ?_⟩
      have hkl : k < len := by simpa using hk
      obtain ⟨y, m, e, hc, hz, hs, _⟩ := hf k hkl
      rw [add_none] at hc
      rw [hat k hkl]
      exact ⟨y, m, e, hc, hz, hs⟩
    · obtain ⟨k, hk, rfl⟩ := List.mem_map.1 hl
      obtain ⟨y, m, e, _, _, _, h4, h5⟩ := hf k (by simpa using hk)
      exact ⟨h4, h5⟩
end Go.Proofs.Ytdkhajpkldjlmaa
