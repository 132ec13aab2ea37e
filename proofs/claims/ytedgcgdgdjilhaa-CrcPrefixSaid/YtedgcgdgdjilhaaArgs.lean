/-
  Arguments that came in, as lists: slices of integers and of bytes, slices of slices of integers or bytes; unsigned integers.
-/
import Derived.Test.YtedgcgdgdjilhaaOpen
import Derived.Test.YtedgcgdgdjilhaaVals
import Derived.Test.YtedgcgdgdjilhaaRows2
import Derived.OpenShut
namespace Go.Proofs.Ytedgcgdgdjilhaa
set_option linter.unusedVariables false
set_option linter.unusedSimpArgs false
open Go.ChangeShapes Go.WideShapes Go.RowKit

theorem byte_of8 {n : Nat} (h : n < 256) : (UInt8.ofNat n).toNat = n := by
  rw [UInt8.toNat_ofNat']
  omega
theorem row_reads {k : IntKind} {w : World} {a : Option Addr} {len cap : Nat} {zs : List Int} (h : IsRow k w a len cap zs) : (zs.take len).length = len ∧ len ≤ cap ∧ cap ≤ maxLen ∧ Reads w a ((zs.take len).map (Value.int k)) ∧ ∀ n ∈ zs.take len, (Lit.int k n).wf = true := by
  rcases h with ⟨rfl, rfl, rfl, rfl⟩ | ⟨x, rfl, hl, hm, hz, hc, hw⟩
  · exact ⟨rfl, Nat.le_refl _, Nat.zero_le _, fun h => absurd rfl h, fun n hn => by cases hn⟩
  · refine ⟨by rw [List.length_take]; omega, hl, hm, fun hne => ?_, fun n hn => hw n (List.mem_of_mem_take hn)⟩
    have h0 : 0 < len := by
      rcases Nat.eq_zero_or_pos len with h | h
      · subst h; simp at hne
      · exact h
    obtain ⟨b, off, spot⟩ := x
    have hs := hc 0 (by omega)
    have hspot : spot = none := by simpa [Addr.add] using World.cell?_spot hs
    subst hspot
    refine ⟨b, off, rfl, fun j hj => ?_⟩
    rw [List.length_map, List.length_take] at hj
    have hj2 : j < len := by omega
    have := hc j (by omega)
    rw [add_none] at this
    rw [this, List.getElem?_map, List.getElem?_take, if_pos hj2, List.getElem?_eq_getElem (by omega)]
    simp [List.getD, List.getElem?_eq_getElem (show j < zs.length by omega)]
theorem row_ints {w : World} {a : Option Addr} {len cap : Nat} {zs : List Int} (h : IsRow .i64 w a len cap zs) : ∃ l : List Int, l.length = len ∧ len ≤ cap ∧ cap ≤ maxLen ∧ Ints w a l ∧ ∀ y ∈ l, -9223372036854775808 ≤ y ∧ y ≤ 9223372036854775807 := by
  obtain ⟨h1, h2, h3, h4, h5⟩ := row_reads h
  exact ⟨_, h1, h2, h3, h4, fun y hy => bounds_i64 (h5 y hy)⟩
theorem row_bytes {w : World} {a : Option Addr} {len cap : Nat} {zs : List Int} (h : IsRow .u8 w a len cap zs) : ∃ l : List UInt8, l.length = len ∧ len ≤ cap ∧ cap ≤ maxLen ∧ Bytes w a l := by
  obtain ⟨h1, h2, h3, h4, h5⟩ := row_reads h
  refine ⟨(zs.take len).map fun z => UInt8.ofNat z.toNat, by rw [List.length_map]; exact h1, h2, h3, ?_⟩
  have e : bytV ((zs.take len).map fun z => UInt8.ofNat z.toNat) = (zs.take len).map (Value.int .u8) := by
    unfold bytV
    rw [List.map_map]
    refine List.map_congr_left (fun z hz => ?_)
    have hb := bounds_u8 (h5 z hz)
    have : (UInt8.ofNat z.toNat).toNat = z.toNat := byte_of8 (by omega)
    simp only [Function.comp, this]
    congr 1
    omega
  unfold Bytes
  rw [e]
  exact h4
theorem u64_nat {a : Int} (h : (Lit.int .u64 a).wf = true) : ∃ n : Nat, a = (n : Int) ∧ n < 18446744073709551616 := by
  have hb := bounds_u64 h
  exact ⟨a.toNat, by omega, by omega⟩
theorem u16_nat {a : Int} (h : (Lit.int .u16 a).wf = true) : ∃ n : Nat, a = (n : Int) ∧ n < 65536 := by
  have hb := bounds_u16 h
  exact ⟨a.toNat, by omega, by omega⟩
theorem u32_nat {a : Int} (h : (Lit.int .u32 a).wf = true) : ∃ n : Nat, a = (n : Int) ∧ n < 4294967296 := by
  have h2 : 0 ≤ a ∧ a ≤ 4294967295 := by
    simp [Lit.wf, IntKind.min, IntKind.max, IntKind.signed, IntKind.bits] at h
    omega
  exact ⟨a.toNat, by omega, by omega⟩

/-- a slice of slices of integers that came in, as lists -/
def IsRowss (k : IntKind) (w : World) (a : Option Addr) (len cap : Nat) (zs : List (List Int)) : Prop :=
  zs.length = len ∧ len ≤ cap ∧ cap ≤ maxLen ∧ Rowss (List.map (Value.int k)) w a zs ∧ ∀ z ∈ zs, z.length ≤ maxLen ∧ ∀ n ∈ z, (Lit.int k n).wf = true
theorem open_rowss {H : Type} {enc : TypeId × Value → H} {P : Program} {w : World} {base : Nat} {held : Bool} {S E Q : TypeId} {k : IntKind} {a : Option Addr} {len cap : Nat} {d : DataW H} {p : List MemPlace}
    (hS : P.underlying S = some (.slice E)) (hE : P.underlying E = some (.slice Q)) (hQ : P.underlying Q = some (.int k)) (cE : P.cellsOf E = 1) (cQ : P.cellsOf Q = 1)
    (h : DataW.Trod enc P w base (fun _ => true) held S (.slice a len cap) d p) : ∃ zs, IsRowss k w a len cap zs := by
  obtain ⟨fuel, hf⟩ := h
  rcases DataW.trod_slice hS hf with h0 | ⟨x, l, c, elems, rest, n, _, hcs, _, hb, hl, hm, hlen, hel, hsp, hns⟩
  · have h1 : [Value.slice a len cap] = [.slice none 0 0] := by simpa [Value.cells] using h0.1
    simp at h1
    obtain ⟨rfl, rfl, rfl⟩ := h1
    exact ⟨[], rfl, Nat.le_refl _, Nat.zero_le _, fun h => absurd rfl h, fun z hz => by cases hz⟩
  · simp [Value.cells] at hcs
    obtain ⟨rfl, rfl, rfl⟩ := hcs
    have each : ∀ i, ∃ z : List Int, i < len → ∃ y m e, w.cell? (x.add i) = some (.slice y m e) ∧ z.length = m ∧ m ≤ e ∧ Reads w y (z.map (Value.int k)) ∧ z.length ≤ maxLen ∧ ∀ s ∈ z, (Lit.int k s).wf = true := by
      intro i
      by_cases hi : i < len
      · have hy := hel i hi
        rw [List.getElem?_eq_getElem (by omega), cE, Nat.mul_one, Option.bind_eq_some_iff] at hy
        obtain ⟨cs', hcs, hy'⟩ := hy
        rcases open_ints hE hQ cQ hy' with ⟨rfl, _⟩ | ⟨y, m, e, zs, rfl, _, h1, h2, h3, _, h4, h5⟩
        · exact ⟨[], fun _ => ⟨none, 0, 0, cell_of_cells?_one hcs, rfl, Nat.le_refl _, fun h => absurd rfl h, Nat.zero_le _, fun s hs => by cases hs⟩⟩
        · have hz : IsRow k w (some y) m e zs := .inr ⟨y, rfl, h1, h2, by simpa using h3, h4, h5⟩
          obtain ⟨r1, r2, r3, r4, r5⟩ := row_reads hz
          exact ⟨zs.take m, fun _ => ⟨some y, m, e, cell_of_cells?_one hcs, r1, r2, r4, by rw [r1]; omega, r5⟩⟩
      · exact ⟨[], fun h => absurd h hi⟩
    obtain ⟨f, hf⟩ := Classical.axiomOfChoice each
    have hat : ∀ k, k < len → ((List.range len).map f)[k]?.getD [] = f k := fun k hk => by simp [hk]
    refine ⟨(List.range len).map f, by simp, hl, hm, fun hne => ?_, fun z hz => ?_⟩
    · have h0 : 0 < len := by
        rcases Nat.eq_zero_or_pos len with h | h
        · subst h; simp at hne
        · exact h
      obtain ⟨b, off, spot⟩ := x
      obtain ⟨y, m, e, hc, _⟩ := hf 0 h0
      have hspot : spot = none := by simpa [Addr.add] using World.cell?_spot hc
      subst hspot
      refine ⟨b, off, rfl, fun k hk => ?_⟩
      have hkl : k < len := by simpa using hk
      obtain ⟨y, m, e, hc, hz, hme, hs, _⟩ := hf k hkl
      rw [add_none] at hc
      rw [hat k hkl]
      exact ⟨y, m, e, hc, hz, hme, hs⟩
    · obtain ⟨k, hk, rfl⟩ := List.mem_map.1 hz
      obtain ⟨y, m, e, _, _, _, _, h4, h5⟩ := hf k (by simpa using hk)
      exact ⟨h4, h5⟩
abbrev Bytess (w : World) (a : Option Addr) (ls : List (List UInt8)) : Prop := Rowss bytV w a ls
theorem bytV_ofInts {z : List Int} (h : ∀ n ∈ z, (Lit.int .u8 n).wf = true) : bytV (z.map fun n => UInt8.ofNat n.toNat) = z.map (Value.int .u8) := by
  unfold bytV
  rw [List.map_map]
  refine List.map_congr_left (fun n hn => ?_)
  have hb := bounds_u8 (h n hn)
  have : (UInt8.ofNat n.toNat).toNat = n.toNat := byte_of8 (by omega)
  simp only [Function.comp, this]
  congr 1
  omega
theorem rowss_bytes {w : World} {a : Option Addr} {len cap : Nat} {zs : List (List Int)} (h : IsRowss .u8 w a len cap zs) : ∃ ls : List (List UInt8), ls.length = len ∧ len ≤ cap ∧ cap ≤ maxLen ∧ Bytess w a ls ∧ ∀ l ∈ ls, l.length ≤ maxLen := by
  obtain ⟨h1, h2, h3, h4, h5⟩ := h
  refine ⟨zs.map fun z => z.map fun n => UInt8.ofNat n.toNat, by simpa using h1, h2, h3, fun hne => ?_, fun l hl => ?_⟩
  · obtain ⟨b, off, e, hc⟩ := h4 (by intro e; subst e; simp at hne)
    refine ⟨b, off, e, fun k hk => ?_⟩
    have hk' : k < zs.length := by simpa using hk
    obtain ⟨x, n, c, c1, c2, c3, c4⟩ := hc k hk'
    have hg : zs[k]?.getD [] = zs[k] := by rw [List.getElem?_eq_getElem hk']; rfl
    have hg2 : (zs.map fun z => z.map fun n => UInt8.ofNat n.toNat)[k]?.getD [] = zs[k].map fun n => UInt8.ofNat n.toNat := by
      rw [List.getElem?_map, List.getElem?_eq_getElem hk']; rfl
    rw [hg] at c2 c4
    rw [hg2]
    refine ⟨x, n, c, c1, by simpa using c2, c3, ?_⟩
    rw [bytV_ofInts (h5 zs[k] (List.getElem_mem hk')).2]
    exact c4
  · obtain ⟨z, hz, rfl⟩ := List.mem_map.1 hl
    simpa using (h5 z hz).1
end Go.Proofs.Ytedgcgdgdjilhaa
