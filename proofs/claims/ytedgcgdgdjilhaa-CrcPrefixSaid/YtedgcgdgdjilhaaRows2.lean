/-
  Slices of slices in general: that read as lists of lists; owned, and append of one value onto them.
-/
import Derived.Test.YtedgcgdgdjilhaaVals
namespace Go.Proofs.Ytedgcgdgdjilhaa
set_option linter.unusedVariables false
set_option linter.unusedSimpArgs false
open Go.RowKit

section
variable {α : Type} {f : List α → List Value}
/-- a slice of slices that reads as the lists (f: the cells of a list) -/
def Rowss (f : List α → List Value) (w : World) (a : Option Addr) (ls : List (List α)) : Prop :=
  ls ≠ [] → ∃ b off, a = some ⟨b, off, none⟩ ∧ ∀ k, k < ls.length → ∃ x n c, w.cell? ⟨b, off + k, none⟩ = some (.slice x n c) ∧ (ls[k]?.getD []).length = n ∧ n ≤ c ∧ Reads w x (f (ls[k]?.getD []))
theorem rowss_nil (w : World) (a : Option Addr) : Rowss f w a [] := fun h => absurd rfl h
theorem Rowss.at_ {w : World} {a : Option Addr} {ls : List (List α)} (h : Rowss f w a ls) {k : Nat} (hk : k < ls.length) :
    ∃ b off x n c, a = some ⟨b, off, none⟩ ∧ w.cell? ⟨b, off + k, none⟩ = some (.slice x n c) ∧ (ls[k]?.getD []).length = n ∧ n ≤ c ∧ Reads w x (f (ls[k]?.getD [])) := by
  obtain ⟨b, off, e, hc⟩ := h (by intro e; subst e; simp at hk)
  obtain ⟨x, n, c, h1, h2, h3, h4⟩ := hc k hk
  exact ⟨b, off, x, n, c, e, h1, h2, h3, h4⟩
theorem Rowss.kept {w w' : World} {a : Option Addr} {ls : List (List α)} (hb : Below w.heap.size w w') (h : Rowss f w a ls) : Rowss f w' a ls := by
  intro hne
  obtain ⟨b, off, e, hc⟩ := h hne
  refine ⟨b, off, e, fun k hk => ?_⟩
  obtain ⟨x, n, c, h1, h2, h3, h4⟩ := hc k hk
  exact ⟨x, n, c, Go.Proofs.Ytedgcgdgdjilhaa.kept hb h1, h2, h3, h4.kept hb⟩
theorem Rowss.take {w : World} {a : Option Addr} {ls : List (List α)} (h : Rowss f w a ls) (j : Nat) : Rowss f w a (ls.take j) := by
  intro hne
  obtain ⟨b, off, e, hc⟩ := h (by intro e; subst e; simp at hne)
  refine ⟨b, off, e, fun k hk => ?_⟩
  rw [List.length_take] at hk
  obtain ⟨x, n, c, h1, h2, h3, h4⟩ := hc k (by omega)
  have e2 : (ls.take j)[k]? = ls[k]? := by rw [List.getElem?_take, if_pos (by omega)]
  rw [e2]
  exact ⟨x, n, c, h1, h2, h3, h4⟩
theorem Rowss.drewN {w : World} {a : Option Addr} {ls : List (List α)} (h : Rowss f w a ls) (m : Nat) : Rowss f (w.drewN m) a ls := h
theorem getD_lists {ls : List (List α)} {k : Nat} (h : k < ls.length) : ls[k]? = some (ls[k]?.getD []) := by
  rw [List.getElem?_eq_getElem h]; rfl

/-- the values of a row are slices that read as the lists, and lie apart from the row -/
structure HeldR (f : List α → List Value) (w : World) (v : Value) (vals : List Value) (acc : List (List α)) : Prop where
  len : vals.length = acc.length
  at_ : ∀ k, k < acc.length → ∃ x n c, vals[k]? = some (.slice x n c) ∧ (acc[k]?.getD []).length = n ∧ n ≤ c ∧ Reads w x (f (acc[k]?.getD [])) ∧ (f (acc[k]?.getD []) ≠ [] → ∀ y, x = some y → v.ownBlock ≠ some y.block)
theorem heldR_nil (w : World) (v : Value) : HeldR f w v [] [] := ⟨rfl, fun k hk => by simp at hk⟩
theorem HeldR.kept {w w' : World} {v : Value} {vals : List Value} {acc : List (List α)} (h : HeldR f w v vals acc) (hb : Below w.heap.size w w') : HeldR f w' v vals acc :=
  ⟨h.len, fun k hk => by
    obtain ⟨x, n, c, h1, h2, h3, h4, h5⟩ := h.at_ k hk
    exact ⟨x, n, c, h1, h2, h3, h4.kept hb, h5⟩⟩
theorem reads_lt {w : World} {a : Option Addr} {l : List Value} (h : Reads w a l) (hne : l ≠ []) : ∀ y, a = some y → y.block < w.heap.size := by
  obtain ⟨b, off, rfl, hc⟩ := h hne
  intro y hy
  obtain rfl : (⟨b, off, none⟩ : Addr) = y := by simpa using hy
  have hl : 0 < l.length := by
    cases l with
    | nil => exact absurd rfl hne
    | cons _ _ => simp
  have := hc 0 hl
  rw [List.getElem?_eq_getElem hl] at this
  exact World.block_lt_of_cell? _ _ this
theorem reads_grown {w w' : World} {row : Option Nat} {a : Option Addr} {l : List Value} (h : Reads w a l) (hg : w.grownBy w' row) (hr : l ≠ [] → ∀ y, a = some y → row ≠ some y.block) : Reads w' a l := by
  intro hne
  obtain ⟨b, off, rfl, hc⟩ := h hne
  refine ⟨b, off, rfl, fun k hk => ?_⟩
  have hlt := reads_lt h hne ⟨b, off, none⟩ rfl
  rw [← hc k hk]
  exact World.cell?_of_block (hg.block b hlt (fun e => hr hne ⟨b, off, none⟩ rfl e.symm))
theorem HeldR.more {w w' : World} {v v' : Value} {vals : List Value} {acc : List (List α)} {x : Option Addr} {n c : Nat} {l : List α} (h : HeldR f w v vals acc) (hg : w.grownBy w' v.ownBlock) (hv : v'.ownBlock = v.ownBlock ∨ v'.ownBlock = some w.heap.size)
    (hn : l.length = n) (hc : n ≤ c) (hl : Reads w x (f l)) (hx : f l ≠ [] → ∀ y, x = some y → v.ownBlock ≠ some y.block) : HeldR f w' v' (vals ++ [.slice x n c]) (acc ++ [l]) := by
  have sep : ∀ (b : Nat), v.ownBlock ≠ some b → b < w.heap.size → v'.ownBlock ≠ some b := by
    intro b h1 h2 e
    rcases hv with hv | hv
    · exact h1 (hv.symm.trans e)
    · rw [hv] at e
      have := Option.some.inj e
      omega
  refine ⟨by simp [h.len], fun k hk => ?_⟩
  by_cases hka : k < acc.length
  · obtain ⟨y, m, d, h1, h2, h3, h4, h5⟩ := h.at_ k hka
    have hkv : k < vals.length := by rw [h.len]; exact hka
    have e : (acc ++ [l])[k]? = acc[k]? := List.getElem?_append_left hka
    rw [e]
    exact ⟨y, m, d, by rw [List.getElem?_append_left hkv]; exact h1, h2, h3, reads_grown h4 hg h5, fun hne z hz => sep _ (h5 hne z hz) (reads_lt h4 hne z hz)⟩
  · have hk2 : k = acc.length := by simp at hk; omega
    subst hk2
    have e : (acc ++ [l])[acc.length]?.getD [] = l := by simp
    rw [e]
    exact ⟨x, n, c, by rw [← h.len]; simp, hn, hc, reads_grown hl hg hx, fun hne z hz => sep _ (hx hne z hz) (reads_lt hl hne z hz)⟩
theorem own_rowss {w : World} {base : Nat} {e : TypeId} {v : Value} {n : Nat} {vals : List Value} {acc : List (List α)} (h : w.ownsRow base e 1 v n vals) (hh : HeldR f w v vals acc) : ∃ a cap, v = .slice a n cap ∧ acc.length = n ∧ n ≤ cap ∧ Rowss f w a acc ∧ ∀ x, a = some x → base ≤ x.block ∧ x.block < w.heap.size := by
  have hl : acc.length = n := by have := h.1; rw [← hh.len]; omega
  rcases h.2 with ⟨rfl, rfl⟩ | ⟨g, cap, cur, rfl, hb, hg, hnc, _⟩
  · exact ⟨none, 0, rfl, hl, Nat.le_refl _, fun hne => absurd (List.length_eq_zero_iff.1 hl) hne, fun x hx => by cases hx⟩
  · refine ⟨_, cap, rfl, hl, hnc, fun _ => ⟨g, 0, rfl, fun k hk => ?_⟩, fun x hx => by cases hx; exact ⟨hb, (Array.getElem?_eq_some_iff.1 hg).1⟩⟩
    obtain ⟨x, m, d, h1, h2, h3, h4, _⟩ := hh.at_ k hk
    refine ⟨x, m, d, ?_, h2, h3, h4⟩
    rw [Nat.zero_add, h.cellAt k (by omega)]
    exact h1
theorem apart_new {w : World} {base : Nat} {e : TypeId} {v : Value} {n : Nat} {vals : List Value} (h : w.ownsRow base e 1 v n vals) {b : Nat} (hb : w.heap.size ≤ b) : v.ownBlock ≠ some b := by
  intro e
  rcases h.2 with ⟨rfl, _⟩ | ⟨g, cap, cur, rfl, _, hg, _⟩
  · cases e
  · have := (Array.getElem?_eq_some_iff.1 hg).1
    have h2 : g = b := by simpa [Value.ownBlock] using e
    omega
end
/-- an owned row, with its capacity -/
theorem own_slice {w : World} {base : Nat} {e : TypeId} {v : Value} {n : Nat} {vs : List Value} (h : w.ownsRow base e 1 v n vs) : ∃ a cap, v = .slice a n cap ∧ vs.length = n ∧ n ≤ cap ∧ Reads w a vs ∧ ∀ x, a = some x → base ≤ x.block ∧ x.block < w.heap.size := by
  obtain ⟨a, cap, rfl, h1, h2, h3⟩ := own_reads h
  refine ⟨a, cap, rfl, h1, ?_, h2, h3⟩
  rcases h.2 with ⟨h4, rfl⟩ | ⟨g, c, cur, h4, _, _, hnc, _⟩
  · have := Value.slice.inj h4
    omega
  · have := Value.slice.inj h4
    omega
section
variable {P : Program} {t e : TypeId}
/-- append of one value of one cell, that lies in a block of its own, onto a slice of the call's own (at the list of a plain region's operations) -/
theorem wpList_append_one {ops : Array Oper} {rest : List Oper} {o : Oper} {a : Act} {w : World} {Q : Exit → Act → World → Prop} (hgd : o.guard = none) (s x : Operand) (ht : P.underlying t = some (.slice e)) {z : Value} {bytes : Nat} (hinfo : (P.info? e).map (fun i => (i.zero, i.size, i.bytes)) = some (some z, 1, bytes)) (hz : z.cells.size = 1) (hby : bytes ≤ 1000)
    (ho : o.op = .call { callee := .builtin .append, args := #[s, x], argTypes := #[t, t] }) (base : Nat) (v : Value) (n : Nat) (xs : List Value) (hs : a.eval s = v) (hown : w.ownsRow base e 1 v n xs)
    (b m : Nat) (u : Value) (hx : a.eval x = .slice (some ⟨b, 0, none⟩) 1 m) (hc : w.cell? ⟨b, 0, none⟩ = some u) (hu : u.oneCell' = true) (hb : n + 1 ≤ 1000000) (hbase : base ≤ w.heap.size)
    (h : ∀ v' w', w'.ownsRow base e 1 v' (n + 1) (xs ++ [u]) → w.grownBy w' v.ownBlock → (v'.ownBlock = v.ownBlock ∨ v'.ownBlock = some w.heap.size) → wpList P ops Q rest (a.put o.dst v') w') :
    wpList P ops Q (o :: rest) a w :=
  wpList_append_reads hgd s x ht hinfo hz hby ho base v n xs hs hown (some ⟨b, 0, none⟩) 1 m [u] hx rfl (fun _ => ⟨b, 0, rfl, fun k hk => by
    have : k = 0 := by simp at hk; omega
    subst this
    exact hc⟩) (fun y hy => by rw [List.mem_singleton.1 hy]; exact hu) hb hbase h
end
end Go.Proofs.Ytedgcgdgdjilhaa
