/-
  The contracts of package ident that the laws' walks ask, gathered in one structure over a predicate on tables; what a call may turn.
-/
import Derived.Test.YteemacgknmidaaaIdD
namespace Go.Proofs.Yteemacgknmidaaa
set_option linter.unusedVariables false
set_option linter.unusedSimpArgs false
open Go.RowKit

/-- a call that turns blocks of F alone, and may make new ones -/
structure Only (F : Nat → Prop) (w w' : World) : Prop where
  os : w'.os = w.os
  tape : w'.tape = w.tape
  output : w'.output = w.output
  size : w.heap.size ≤ w'.heap.size
  block : ∀ k, k < w.heap.size → ¬ F k → w'.heap[k]? = w.heap[k]?
theorem Only.below {F : Nat → Prop} {w w' : World} {B : Nat} (h : Only F w w') (hB : B ≤ w.heap.size) (hF : ∀ k, F k → B ≤ k) : Below B w w' :=
  ⟨h.os, h.tape, h.output, h.size, fun k hk => h.block k (by omega) (fun hf => by have := hF k hf; omega)⟩
theorem Only.cell {F : Nat → Prop} {w w' : World} {p : Addr} {v : Value} (h : Only F w w') (hF : ¬ F p.block) (hc : w.cell? p = some v) : w'.cell? p = some v := by
  have hlt := World.block_lt_of_cell? w p hc
  rw [← hc]
  unfold World.cell?
  rw [h.block _ hlt hF]
theorem Only.strs {F : Nat → Prop} {w w' : World} {a : Option Addr} {l : List ByteArray} (h : Only F w w') (hF : ∀ x, a = some x → ¬ F x.block) (hl : Strs w a l) : Strs w' a l := by
  intro hne
  obtain ⟨b, off, rfl, hc⟩ := hl hne
  exact ⟨b, off, rfl, fun k hk => h.cell (p := ⟨b, off + k, none⟩) (hF ⟨b, off, none⟩ rfl) (hc k hk)⟩
theorem Only.frozen {F : Nat → Prop} {w w' : World} {p : Addr} {v : Value} (h : Only F w w') (hF : ¬ F p.block) (hc : w.cell? p = some v) (hf : w.frozen? p = false) : w'.frozen? p = false := by
  have hlt := World.block_lt_of_cell? w p hc
  rw [← hf]
  unfold World.frozen?
  rw [h.block _ hlt hF]

abbrev TabP := World → Addr → List ByteArray → (Nat → Prop) → Prop
/-- a call that gives back a table of its own, or an error -/
def GivesTab (Tab : TabP) (w : World) (r : List ByteArray × Int) (e : Ending) (w' : World) : Prop :=
  Below w.heap.size w w' ∧ ((r.2 = 0 ∧ ∃ p F, e = .returned (.tuple #[.pointer (some p), .int .i64 0]) ∧ Tab w' p r.1 F ∧ ∀ k, F k → w.heap.size ≤ k) ∨ (r.2 ≠ 0 ∧ e = .returned (.tuple #[.pointer none, .int .i64 r.2])))
/-- a call that adds to a table -/
def GivesAdd (Tab : TabP) (w : World) (p : Addr) (F : Nat → Prop) (r : List ByteArray × Int × Int) (e : Ending) (w' : World) : Prop :=
  e = .returned (.tuple #[.int .i64 r.2.1, .int .i64 r.2.2]) ∧ (∃ F', Tab w' p r.1 F' ∧ ∀ k, F' k → F k ∨ w.heap.size ≤ k) ∧ Only F w w'

/-- what the laws' walks ask of package ident -/
structure IdCon (Tab : TabP) : Prop where
  lt : ∀ {w : World} {p : Addr} {l : List ByteArray} {F : Nat → Prop}, Tab w p l F → ∀ k, F k → k < w.heap.size
  keep : ∀ {w w' : World} {p : Addr} {l : List ByteArray} {F : Nat → Prop}, Tab w p l F → w.heap.size ≤ w'.heap.size → (∀ k, F k → w'.heap[k]? = w.heap[k]?) → Tab w' p l F
  valid : ∀ (s : ByteArray) (w : World) (_hs : s.size ≤ 9223372036854775807),
    Calls Try.prog 10 #[.string s] w fun e w' => e = .returned (.bool (idB s)) ∧ Below w.heap.size w w'
  new : ∀ (a : Option Addr) (l : List ByteArray) (n cap : Nat) (w : World) (_hn : l.length = n) (_hb : n ≤ 1000) (_hl : Strs w a l) (_hsz : ∀ s ∈ l, s.size ≤ 9223372036854775807),
    Calls Try.prog 14 #[.slice a n cap] w (GivesTab Tab w (newS [] l))
  add : ∀ (p : Addr) (l : List ByteArray) (F : Nat → Prop) (s : ByteArray) (w : World) (_hT : Tab w p l F) (_hb : l.length ≤ 1000) (_hs : s.size ≤ 9223372036854775807),
    Calls Try.prog 17 #[.pointer (some p), .string s] w (GivesAdd Tab w p F (addS l s))
  find : ∀ (p : Addr) (l : List ByteArray) (F : Nat → Prop) (s : ByteArray) (w : World) (_hT : Tab w p l F) (_hb : l.length ≤ 1000) (_hs : s.size ≤ 9223372036854775807),
    Calls Try.prog 19 #[.pointer (some p), .string s] w fun e w' => e = .returned (.tuple #[.int .i64 (findS l s).1, .bool (findS l s).2]) ∧ Below w.heap.size w w'
  name : ∀ (p : Addr) (l : List ByteArray) (F : Nat → Prop) (i : Int) (w : World) (_hT : Tab w p l F) (_hb : l.length ≤ 1000),
    Calls Try.prog 21 #[.pointer (some p), .int .i64 i] w fun e w' => e = .returned (.tuple #[.string (nameS l i).1, .bool (nameS l i).2]) ∧ Below w.heap.size w w'
  len : ∀ (p : Addr) (l : List ByteArray) (F : Nat → Prop) (n : Nat) (w : World) (_hT : Tab w p l F) (_hn : l.length = n) (_hb : n ≤ 1000),
    Calls Try.prog 23 #[.pointer (some p)] w fun e w' => e = .returned (.int .i64 n) ∧ Below w.heap.size w w'
  addNil : ∀ (s : ByteArray) (w : World),
    Calls Try.prog 17 #[.pointer none, .string s] w fun e w' => e = .returned (.tuple #[.int .i64 0, .int .i64 14]) ∧ Below w.heap.size w w'
  findNil : ∀ (s : ByteArray) (w : World),
    Calls Try.prog 19 #[.pointer none, .string s] w fun e w' => e = .returned (.tuple #[.int .i64 0, .bool false]) ∧ Below w.heap.size w w'
  nameNil : ∀ (i : Int) (w : World),
    Calls Try.prog 21 #[.pointer none, .int .i64 i] w fun e w' => e = .returned (.tuple #[.string ⟨#[]⟩, .bool false]) ∧ Below w.heap.size w w'
  lenNil : ∀ (w : World),
    Calls Try.prog 23 #[.pointer none] w fun e w' => e = .returned (.int .i64 0) ∧ Below w.heap.size w w'

section
variable {Tab : TabP} (K : IdCon Tab)
include K
theorem IdCon.on {w w' : World} {p : Addr} {l : List ByteArray} {F : Nat → Prop} (h : Tab w p l F) (hb : Below w.heap.size w w') : Tab w' p l F :=
  K.keep h hb.size (fun k hk => hb.block k (K.lt h k hk))
theorem IdCon.find_is {p : Addr} {l : List ByteArray} {F : Nat → Prop} {s : ByteArray} {i : Int} {r : Bool} (h : findS l s = (i, r)) (w : World) (hT : Tab w p l F) (hb : l.length ≤ 1000) (hs : s.size ≤ 9223372036854775807) :
    Calls Try.prog 19 #[.pointer (some p), .string s] w fun e w' => e = .returned (.tuple #[.int .i64 i, .bool r]) ∧ Below w.heap.size w w' := by
  have := K.find p l F s w hT hb hs
  rwa [h] at this
theorem IdCon.name_is {p : Addr} {l : List ByteArray} {F : Nat → Prop} {s : ByteArray} {i : Int} {r : Bool} (h : nameS l i = (s, r)) (w : World) (hT : Tab w p l F) (hb : l.length ≤ 1000) :
    Calls Try.prog 21 #[.pointer (some p), .int .i64 i] w fun e w' => e = .returned (.tuple #[.string s, .bool r]) ∧ Below w.heap.size w w' := by
  have := K.name p l F i w hT hb
  rwa [h] at this
theorem IdCon.valid_is {s : ByteArray} {r : Bool} (h : idB s = r) (w : World) (hs : s.size ≤ 9223372036854775807) :
    Calls Try.prog 10 #[.string s] w fun e w' => e = .returned (.bool r) ∧ Below w.heap.size w w' := by
  have := K.valid s w hs
  rwa [h] at this
theorem IdCon.new_yes {l r : List ByteArray} (h : newS [] l = (r, 0)) (a : Option Addr) (n cap : Nat) (w : World) (hn : l.length = n) (hb : n ≤ 1000) (hl : Strs w a l) (hsz : ∀ s ∈ l, s.size ≤ 9223372036854775807) :
    Calls Try.prog 14 #[.slice a n cap] w fun e w' => ∃ p F, e = .returned (.tuple #[.pointer (some p), .int .i64 0]) ∧ Tab w' p r F ∧ (∀ k, F k → w.heap.size ≤ k) ∧ Below w.heap.size w w' := by
  have := K.new a l n cap w hn hb hl hsz
  rw [h] at this
  refine this.mono ?_
  rintro e w' ⟨hb, ⟨_, p, F, he, hT, hF⟩ | ⟨h, _⟩⟩
  · exact ⟨p, F, he, hT, hF, hb⟩
  · exact absurd rfl h
theorem IdCon.new_no {l r : List ByteArray} {x : Int} (h : newS [] l = (r, x)) (hx : x ≠ 0) (a : Option Addr) (n cap : Nat) (w : World) (hn : l.length = n) (hb : n ≤ 1000) (hl : Strs w a l) (hsz : ∀ s ∈ l, s.size ≤ 9223372036854775807) :
    Calls Try.prog 14 #[.slice a n cap] w fun e w' => e = .returned (.tuple #[.pointer none, .int .i64 x]) ∧ Below w.heap.size w w' := by
  have := K.new a l n cap w hn hb hl hsz
  rw [h] at this
  refine this.mono ?_
  rintro e w' ⟨hb, ⟨h, _⟩ | ⟨_, he⟩⟩
  · exact absurd h hx
  · exact ⟨he, hb⟩
theorem IdCon.add_is {p : Addr} {l r : List ByteArray} {F : Nat → Prop} {s : ByteArray} {i x : Int} (h : addS l s = (r, i, x)) (w : World) (hT : Tab w p l F) (hb : l.length ≤ 1000) (hs : s.size ≤ 9223372036854775807) :
    Calls Try.prog 17 #[.pointer (some p), .string s] w fun e w' => e = .returned (.tuple #[.int .i64 i, .int .i64 x]) ∧ ∃ F', Tab w' p r F' ∧ (∀ k, F' k → F k ∨ w.heap.size ≤ k) ∧ Only F w w' := by
  have := K.add p l F s w hT hb hs
  rw [h] at this
  refine this.mono ?_
  rintro e w' ⟨he, ⟨F', h1, h2⟩, h3⟩
  exact ⟨he, F', h1, h2, h3⟩
end

/-! ### what the tables of the reference are -/
def distinct (l : List ByteArray) : Prop := ∀ i j, i < j → j < l.length → l[i]?.getD ByteArray.empty ≠ l[j]?.getD ByteArray.empty
theorem addS_distinct {l : List ByteArray} (h : distinct l) (s : ByteArray) : distinct (addS l s).1 := by
  unfold addS
  cases hv : idB s
  · simpa using h
  · rcases findS_cases l s with ⟨k, _, _, _, hf⟩ | ⟨hno, hf⟩
    · simpa [hf] using h
    · simp only [if_true, hf]
      intro i j hij hj
      simp at hj
      by_cases hjl : j < l.length
      · have e1 : (l ++ [s])[i]? = l[i]? := List.getElem?_append_left (by omega)
        have e2 : (l ++ [s])[j]? = l[j]? := List.getElem?_append_left hjl
        simpa [e1, e2] using h i j hij hjl
      · have e1 : (l ++ [s])[i]? = l[i]? := List.getElem?_append_left (by omega)
        have e2 : (l ++ [s])[j]? = some s := by
          rw [show j = l.length by omega]; simp
        simpa [e1, e2] using hno i (by omega)
theorem newS_distinct : ∀ (l acc : List ByteArray), distinct acc → distinct (newS acc l).1
  | [], acc, h => h
  | s :: l, acc, h => by
    unfold newS
    split
    · exact newS_distinct l _ (addS_distinct h s)
    · intro i j _ hj; simp at hj
theorem newS_len : ∀ (l acc : List ByteArray), (newS acc l).1.length ≤ acc.length + l.length
  | [], acc => by simp [newS]
  | s :: l, acc => by
    unfold newS
    split
    · have h1 := newS_len l (addS acc s).1
      have h2 := addS_len acc s
      simp
      omega
    · simp
theorem addS_mem {l : List ByteArray} {s x : ByteArray} (h : x ∈ (addS l s).1) : x ∈ l ∨ x = s := by
  unfold addS at h
  split at h
  · split at h
    · exact Or.inl h
    · simpa using h
  · exact Or.inl h
theorem newS_mem : ∀ (l acc : List ByteArray) (x : ByteArray), x ∈ (newS acc l).1 → x ∈ acc ∨ x ∈ l
  | [], acc, x, h => Or.inl h
  | s :: l, acc, x, h => by
    unfold newS at h
    split at h
    · rcases newS_mem l _ x h with h | h
      · rcases addS_mem h with h | rfl
        · exact Or.inl h
        · exact Or.inr (by simp)
      · exact Or.inr (by simp [h])
    · simp at h
theorem newS_err : ∀ (l acc : List ByteArray), (newS acc l).2 = 0 ∨ (newS acc l).2 = 5 ∨ (newS acc l).2 = 6
  | [], _ => Or.inl rfl
  | s :: l, acc => by
    unfold newS
    split
    · exact newS_err l _
    · have := addS_err acc s
      simp only []
      omega
end Go.Proofs.Yteemacgknmidaaa
