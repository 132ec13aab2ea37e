/-
  The contracts of the landed table (a list of names and a map of their numbers): Len, Name, Find, the nil table.
-/
import Derived.Test.YteemacgknmidaaaIdMap
import Derived.Test.YteemacgknmidaaaIdLaws3
namespace Go.Proofs.Yteemacgknmidaaa
set_option linter.unusedVariables false
set_option linter.unusedSimpArgs false
open Go.RowKit

/-- a table: its names in a row of its own, the map in a block of its own -/
structure TabAt (w : World) (bp bm : Nat) (v : Value) (l : List ByteArray) (D : DataW Unit) : Prop where
  names : w.cell? ⟨bp, 0, none⟩ = some v
  numbers : w.cell? ⟨bp, 1, none⟩ = some (.map (some bm))
  nf : w.frozen? ⟨bp, 0, none⟩ = false
  mf : w.frozen? ⟨bp, 1, none⟩ = false
  row : w.ownsRow 0 9 1 v l.length (strV l)
  map : w.ownsMap Try.prog 9 (plainElem Try.prog 3) bm l.length D
  of : MapOf D l
  pm : bp ≠ bm
  rp : v.ownBlock ≠ some bp
  rm : v.ownBlock ≠ some bm
def footOf (bp bm : Nat) (v : Value) : Nat → Prop := fun k => k = bp ∨ k = bm ∨ v.ownBlock = some k
def TabOf : TabP := fun w p l F => ∃ bp bm v D, p = ⟨bp, 0, none⟩ ∧ F = footOf bp bm v ∧ TabAt w bp bm v l D

theorem tabOf_lt {w : World} {p : Addr} {l : List ByteArray} {F : Nat → Prop} (h : TabOf w p l F) : ∀ k, F k → k < w.heap.size := by
  obtain ⟨bp, bm, v, D, rfl, rfl, hT⟩ := h
  rintro k (rfl | rfl | hk)
  · exact World.block_lt_of_cell? _ _ hT.names
  · exact hT.map.lt
  · exact (hT.row.lt k hk).2
theorem tabAt_keep {w w' : World} {bp bm : Nat} {v : Value} {l : List ByteArray} {D : DataW Unit} (hT : TabAt w bp bm v l D) (hF : ∀ k, footOf bp bm v k → w'.heap[k]? = w.heap[k]?) : TabAt w' bp bm v l D := by
  have h1 := hF bp (Or.inl rfl)
  have h2 := hF bm (Or.inr (Or.inl rfl))
  refine ⟨(World.cell?_of_block (a := ⟨bp, 0, none⟩) h1).trans hT.names, (World.cell?_of_block (a := ⟨bp, 1, none⟩) h1).trans hT.numbers, (World.frozen?_of_block (a := ⟨bp, 0, none⟩) h1).trans hT.nf, (World.frozen?_of_block (a := ⟨bp, 1, none⟩) h1).trans hT.mf, ?_, ?_, hT.of, hT.pm, hT.rp, hT.rm⟩
  · refine ⟨hT.row.1, ?_⟩
    rcases hT.row.2 with h0 | ⟨g, cap, cur, hv, hb, hg, rest⟩
    · exact .inl h0
    · exact .inr ⟨g, cap, cur, hv, hb, by rw [hF g (Or.inr (Or.inr (by rw [hv]; rfl)))]; exact hg, rest⟩
  · obtain ⟨es, clock, hb, rest⟩ := hT.map
    exact ⟨es, clock, h2.trans hb, rest⟩
theorem tabOf_keep {w w' : World} {p : Addr} {l : List ByteArray} {F : Nat → Prop} (h : TabOf w p l F) (hs : w.heap.size ≤ w'.heap.size) (hF : ∀ k, F k → w'.heap[k]? = w.heap[k]?) : TabOf w' p l F := by
  obtain ⟨bp, bm, v, D, rfl, rfl, hT⟩ := h
  exact ⟨bp, bm, v, D, rfl, rfl, tabAt_keep hT hF⟩

set_option maxRecDepth 20000 in
set_option maxHeartbeats 2000000 in
theorem len_at (bp : Nat) (a : Option Addr) (n cap : Nat) (w : World) (c0 : w.cell? ⟨bp, 0, none⟩ = some (.slice a n cap)) (hb : n ≤ 1000) :
    Calls Try.prog 23 #[.pointer (some ⟨bp, 0, none⟩)] w fun e w' => e = .returned (.int .i64 n) ∧ w = w' := by
  go_enter Try.func23, Try.ntmps23
  go_wp2
  go_ret
  exact ⟨rfl, rfl⟩
theorem len_none (w : World) :
    Calls Try.prog 23 #[.pointer none] w fun e w' => e = .returned (.int .i64 0) ∧ w = w' := by
  go_enter Try.func23, Try.ntmps23
  go_wp2
  go_ret
  exact ⟨rfl, rfl⟩
theorem len_tab (p : Addr) (l : List ByteArray) (F : Nat → Prop) (n : Nat) (w : World) (hT : TabOf w p l F) (hn : l.length = n) (hb : n ≤ 1000) :
    Calls Try.prog 23 #[.pointer (some p)] w fun e w' => e = .returned (.int .i64 n) ∧ Below w.heap.size w w' := by
  obtain ⟨bp, bm, v, D, rfl, rfl, hT⟩ := hT
  have c0 := hT.names
  obtain ⟨a, c, rfl, hl, hs⟩ := own_strs hT.row
  rw [hn] at c0
  refine (len_at bp a n c w c0 hb).mono ?_
  rintro e w' ⟨rfl, rfl⟩
  exact ⟨rfl, Below.refl _ _⟩
theorem len_nil (w : World) :
    Calls Try.prog 23 #[.pointer none] w fun e w' => e = .returned (.int .i64 0) ∧ Below w.heap.size w w' := by
  refine (len_none w).mono ?_
  rintro e w' ⟨rfl, rfl⟩
  exact ⟨rfl, Below.refl _ _⟩
set_option maxRecDepth 20000 in
set_option maxHeartbeats 2000000 in
theorem name_tab (p : Addr) (l : List ByteArray) (F : Nat → Prop) (i : Int) (w : World) (hT : TabOf w p l F) (hb : l.length ≤ 1000) :
    Calls Try.prog 21 #[.pointer (some p), .int .i64 i] w fun e w' => e = .returned (.tuple #[.string (nameS l i).1, .bool (nameS l i).2]) ∧ Below w.heap.size w w' := by
  obtain ⟨bp, bm, v, D, rfl, rfl, hT⟩ := hT
  have c0 := hT.names
  obtain ⟨n, hn⟩ : ∃ n, l.length = n := ⟨_, rfl⟩
  have hrow := hT.row
  rw [hn] at hrow hb
  obtain ⟨a, c, rfl, -, hs⟩ := own_strs hrow
  have Hn := Lib.hid hn
  clear hT hn hrow
  by_cases h0 : i < 0
  · have E := Lib.hid (show nameS l i = (⟨#[]⟩, false) by unfold nameS; rw [if_neg (by omega)])
    go_enter Try.func21, Try.ntmps21
    go_wp2
    go_ret2
    exact ⟨by rw [E.out]; rfl, by (repeat' first | with_reducible assumption | exact Below.refl _ _ | with_reducible refine Below.drew ?_ | with_reducible refine Below.drewN ?_ _ | with_reducible refine Below.alloc' ?_ _ | with_reducible refine Below.setCell ?_ (by first | exact Nat.le_refl _ | omega | (simp; done) | (simp; omega)) _ | with_reducible refine Below.after ?_ ‹_›)⟩
  · have HL := Lib.hid (len_at bp a n c w c0 hb)
    by_cases h1 : i < n
    · obtain ⟨k, rfl⟩ := Int.eq_ofNat_of_zero_le (show 0 ≤ i by omega)
      have hk : k < n := by omega
      have E := Lib.hid (show nameS l (k : Int) = (l[k]?.getD ByteArray.empty, true) by unfold nameS; rw [if_pos (by have := Hn.out; omega)]; rfl)
      obtain ⟨b, off, rfl, hc⟩ := hs.at_ (k := k) (by rw [Hn.out]; exact hk)
      obtain ⟨u, hu⟩ : ∃ u, l[k]?.getD ByteArray.empty = u := ⟨_, rfl⟩
      rw [hu] at hc E
      clear hu h0 h1
      go_enter Try.func21, Try.ntmps21
      go_wp2_with fail
      refine HL.out.mono ?_
      rintro e w1 ⟨rfl, rfl⟩
      go_wp2
      go_ret2
      exact ⟨by rw [E.out]; rfl, by (repeat' first | with_reducible assumption | exact Below.refl _ _ | with_reducible refine Below.drew ?_ | with_reducible refine Below.drewN ?_ _ | with_reducible refine Below.alloc' ?_ _ | with_reducible refine Below.setCell ?_ (by first | exact Nat.le_refl _ | omega | (simp; done) | (simp; omega)) _ | with_reducible refine Below.after ?_ ‹_›)⟩
    · have E := Lib.hid (show nameS l i = (⟨#[]⟩, false) by unfold nameS; rw [if_neg (by have := Hn.out; omega)])
      have h1' : (n : Int) ≤ i := by omega
      have h0' : 0 ≤ i := by omega
      clear h0 h1
      go_enter Try.func21, Try.ntmps21
      go_wp2_with fail
      refine HL.out.mono ?_
      rintro e w1 ⟨rfl, rfl⟩
      go_wp2
      go_ret2
      exact ⟨by rw [E.out]; rfl, by (repeat' first | with_reducible assumption | exact Below.refl _ _ | with_reducible refine Below.drew ?_ | with_reducible refine Below.drewN ?_ _ | with_reducible refine Below.alloc' ?_ _ | with_reducible refine Below.setCell ?_ (by first | exact Nat.le_refl _ | omega | (simp; done) | (simp; omega)) _ | with_reducible refine Below.after ?_ ‹_›)⟩
theorem name_nil (i : Int) (w : World) :
    Calls Try.prog 21 #[.pointer none, .int .i64 i] w fun e w' => e = .returned (.tuple #[.string ⟨#[]⟩, .bool false]) ∧ Below w.heap.size w w' := by
  by_cases h0 : i < 0
  · go_enter Try.func21, Try.ntmps21
    go_wp2
    go_ret2
    exact ⟨rfl, by (repeat' first | with_reducible assumption | exact Below.refl _ _ | with_reducible refine Below.drew ?_ | with_reducible refine Below.drewN ?_ _ | with_reducible refine Below.alloc' ?_ _ | with_reducible refine Below.setCell ?_ (by first | exact Nat.le_refl _ | omega | (simp; done) | (simp; omega)) _ | with_reducible refine Below.after ?_ ‹_›)⟩
  · have HL := Lib.hid (len_none w)
    have h0' : 0 ≤ i := by omega
    clear h0
    go_enter Try.func21, Try.ntmps21
    go_wp2_with fail
    refine HL.out.mono ?_
    rintro e w1 ⟨rfl, rfl⟩
    go_wp2
    go_ret2
    exact ⟨rfl, by (repeat' first | with_reducible assumption | exact Below.refl _ _ | with_reducible refine Below.drew ?_ | with_reducible refine Below.drewN ?_ _ | with_reducible refine Below.alloc' ?_ _ | with_reducible refine Below.setCell ?_ (by first | exact Nat.le_refl _ | omega | (simp; done) | (simp; omega)) _ | with_reducible refine Below.after ?_ ‹_›)⟩
set_option maxRecDepth 20000 in
set_option maxHeartbeats 2000000 in
theorem find_at (bp bm : Nat) (v : Value) (D : DataW Unit) (l : List ByteArray) (s : ByteArray) (w : World) (hT : TabAt w bp bm v l D) (hsz : s.size ≤ 9223372036854775807) :
    Calls Try.prog 19 #[.pointer (some ⟨bp, 0, none⟩), .string s] w fun e w' => e = .returned (.tuple #[.int .i64 (findS l s).1, .bool (findS l s).2]) ∧ w = w' := by
  have c1 := hT.numbers
  have hm := hT.map
  have hof := hT.of.2 s
  have Hof := Lib.hid hof
  have hkey : keyOf Try.prog 9 (.string s) = some (keyL s) := WideMaps.keyOf_string_mk Try.underlying9 (by unfold maxLen; omega)
  clear hT hof
  go_enter Try.func19, Try.ntmps19
  go_wp2_with (at_lookup; refine wpList_lookup_own_ok_int _ rfl _ _ 57 rfl 9 3 .i64 (Maps.string_keyed Try.underlying9) Try.underlying57 Try.underlying3 (Try.zeroValue3 _) bm l.length D rfl hm _ _ rfl hkey ?_; intro c hat _; rw [Hof.out.2] at hat; obtain rfl : (findS l s).1 = c := (by simpa using hat); clear hat)
  go_ret2
  exact ⟨by rw [← Hof.out.1]; rfl, rfl⟩
theorem find_tab (p : Addr) (l : List ByteArray) (F : Nat → Prop) (s : ByteArray) (w : World) (hT : TabOf w p l F) (hb : l.length ≤ 1000) (hsz : s.size ≤ 9223372036854775807) :
    Calls Try.prog 19 #[.pointer (some p), .string s] w fun e w' => e = .returned (.tuple #[.int .i64 (findS l s).1, .bool (findS l s).2]) ∧ Below w.heap.size w w' := by
  obtain ⟨bp, bm, v, D, rfl, rfl, hT⟩ := hT
  refine (find_at bp bm v D l s w hT hsz).mono ?_
  rintro e w' ⟨rfl, rfl⟩
  exact ⟨rfl, Below.refl _ _⟩
theorem find_is {bp bm : Nat} {v : Value} {D : DataW Unit} {l : List ByteArray} {s : ByteArray} {i : Int} {r : Bool} (h : findS l s = (i, r)) (w : World) (hT : TabAt w bp bm v l D) (hsz : s.size ≤ 9223372036854775807) :
    Calls Try.prog 19 #[.pointer (some ⟨bp, 0, none⟩), .string s] w fun e w' => e = .returned (.tuple #[.int .i64 i, .bool r]) ∧ w = w' := by
  have := find_at bp bm v D l s w hT hsz
  rwa [h] at this
theorem find_nil (s : ByteArray) (w : World) :
    Calls Try.prog 19 #[.pointer none, .string s] w fun e w' => e = .returned (.tuple #[.int .i64 0, .bool false]) ∧ Below w.heap.size w w' := by
  go_enter Try.func19, Try.ntmps19
  go_wp2
  go_ret2
  exact ⟨rfl, by (repeat' first | with_reducible assumption | exact Below.refl _ _ | with_reducible refine Below.drew ?_ | with_reducible refine Below.drewN ?_ _ | with_reducible refine Below.alloc' ?_ _ | with_reducible refine Below.setCell ?_ (by first | exact Nat.le_refl _ | omega | (simp; done) | (simp; omega)) _ | with_reducible refine Below.after ?_ ‹_›)⟩
theorem add_nil (s : ByteArray) (w : World) :
    Calls Try.prog 17 #[.pointer none, .string s] w fun e w' => e = .returned (.tuple #[.int .i64 0, .int .i64 14]) ∧ Below w.heap.size w w' := by
  go_enter Try.func17, Try.ntmps17
  go_wp2
  go_ret2
  exact ⟨rfl, by (repeat' first | with_reducible assumption | exact Below.refl _ _ | with_reducible refine Below.drew ?_ | with_reducible refine Below.drewN ?_ _ | with_reducible refine Below.alloc' ?_ _ | with_reducible refine Below.setCell ?_ (by first | exact Nat.le_refl _ | omega | (simp; done) | (simp; omega)) _ | with_reducible refine Below.after ?_ ‹_›)⟩
end Go.Proofs.Yteemacgknmidaaa
