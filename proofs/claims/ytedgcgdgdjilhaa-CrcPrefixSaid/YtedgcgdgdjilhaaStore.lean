/-
  Stores into slices of the call's own; a row that make lays.
-/
import Derived.Test.YtedgcgdgdjilhaaRows2
import Derived.Lib.SmallJoins
import Derived.Laws.OwnMore
namespace Go.Proofs.Ytedgcgdgdjilhaa
set_option linter.unusedVariables false
set_option linter.unusedSimpArgs false
open Go.RowKit

/-- an owned row that is not empty: its block, its cells, which can be written -/
theorem own_shape {w : World} {base : Nat} {e : TypeId} {v : Value} {n : Nat} {vs : List Value} (h : w.ownsRow base e 1 v n vs) (h0 : 0 < n) :
    ∃ g cap, v = .slice (some ⟨g, 0, none⟩) n cap ∧ base ≤ g ∧ g < w.heap.size ∧ n ≤ cap ∧ ∀ k, k < n → w.cell? ⟨g, k, none⟩ = vs[k]? ∧ w.frozen? ⟨g, k, none⟩ = false := by
  rcases h.2 with ⟨_, h1⟩ | ⟨g, cap, cur, rfl, hb, hg, hnc, _⟩
  · omega
  · exact ⟨g, cap, rfl, hb, (Array.getElem?_eq_some_iff.1 hg).1, hnc, fun k hk => ⟨h.cellAt k (by omega), Joins.unfrozen_of_block hg k⟩⟩
theorem own_storeS {w : World} {base size : Nat} {e : TypeId} {g n cap : Nat} {vs : List Value} (h : w.ownsRow base e size (.slice (some ⟨g, 0, none⟩) n cap) n vs) (i : Nat) (u : Value) :
    (w.setCell ⟨g, i, none⟩ u).ownsRow base e size (.slice (some ⟨g, 0, none⟩) n cap) n (vs.set i u) := by
  refine ⟨by rw [List.length_set]; exact h.1, ?_⟩
  rcases h.2 with ⟨h1, _⟩ | ⟨g', cap', cur, hv, hb, hg, hnc, hcm, hsz, ht⟩
  · cases h1
  · obtain ⟨e1, _, rfl⟩ := Value.slice.inj hv
    obtain rfl : g = g' := by simpa using e1
    refine .inr ⟨g, cap, cur.setIfInBounds i u, rfl, hb, Joins.block_setCell hg u, hnc, hcm, by simpa using hsz, ?_⟩
    rw [Array.toList_setIfInBounds, List.take_set, ht]
theorem own_store {w : World} {base : Nat} {e : TypeId} {g n cap : Nat} {vs : List Value} (h : w.ownsRow base e 1 (.slice (some ⟨g, 0, none⟩) n cap) n vs) (i : Nat) (u : Value) :
    (w.setCell ⟨g, i, none⟩ u).ownsRow base e 1 (.slice (some ⟨g, 0, none⟩) n cap) n (vs.set i u) := own_storeS h i u
/-- an owned row that is not empty, of elements of several cells -/
theorem own_shapeS {w : World} {base size : Nat} {e : TypeId} {v : Value} {n : Nat} {vs : List Value} (h : w.ownsRow base e size v n vs) (h0 : 0 < n) :
    ∃ g cap, v = .slice (some ⟨g, 0, none⟩) n cap ∧ base ≤ g ∧ g < w.heap.size ∧ n ≤ cap ∧ ∀ k, k < n * size → w.cell? ⟨g, k, none⟩ = vs[k]? ∧ w.frozen? ⟨g, k, none⟩ = false := by
  rcases h.2 with ⟨_, h1⟩ | ⟨g, cap, cur, rfl, hb, hg, hnc, _⟩
  · omega
  · exact ⟨g, cap, rfl, hb, (Array.getElem?_eq_some_iff.1 hg).1, hnc, fun k hk => ⟨h.cellAt k hk, Joins.unfrozen_of_block hg k⟩⟩
/-- Below at a base of one's own, behind an append; .. behind an allocation and an append -/
theorem below_at {base : Nat} {w w1 w2 : World} {v : Value} (hb : Below base w w1) (hg : w1.grownBy w2 v.ownBlock) (hsz : base ≤ w1.heap.size) (hv : ∀ g, v.ownBlock = some g → base ≤ g) : Below base w w2 := hb.grown hg hsz hv
theorem below_atA {base : Nat} {w w1 w2 : World} {o : Obj} {v : Value} (hb : Below base w w1) (hg : (w1.alloc o).grownBy w2 v.ownBlock) (hsz : base ≤ w1.heap.size) (hv : ∀ g, v.ownBlock = some g → base ≤ g) : Below base w w2 :=
  (hb.alloc hsz o).grown hg (by simp; omega) hv
/-- what reads elsewhere, behind a store -/
theorem Reads.set {w : World} {a : Option Addr} {l : List Value} {p : Addr} {v : Value} (h : Reads w a l) (hp : ∀ x, a = some x → x.block ≠ p.block) : Reads (w.setCell p v) a l := by
  intro hne
  obtain ⟨g, off, rfl, hc⟩ := h hne
  refine ⟨g, off, rfl, fun k hk => ?_⟩
  rw [← hc k hk]
  exact World.cell?_of_block (Below.heap_setCell _ _ _ _ (hp ⟨g, off, none⟩ rfl))
/-- a literal, as a row of the call's own -/
theorem own_literal {w : World} {base : Nat} {e : TypeId} (vs : List Value) {n m : Nat} (hn : vs.length = n) (hb : base ≤ w.heap.size) (hm : n ≤ maxLen) (hg : m = w.heap.size) : (w.alloc (.cells vs.toArray e)).ownsRow base e 1 (.slice (some ⟨m, 0, none⟩) n n) n vs := by
  subst hg
  subst hn
  refine ⟨by simp, .inr ⟨w.heap.size, vs.length, vs.toArray, rfl, hb, heap_alloc_new w _, Nat.le_refl _, hm, by simp, ?_⟩⟩
  simp
theorem made_bytes (n : Nat) : (madeCells (Value.int .u8 0).cells (n * 1)).toList = bytV (List.replicate n 0) := by
  show (madeCells #[Value.int .u8 0] (n * 1)).toList = _
  rw [toList_madeCells_one, Nat.mul_one]
  simp [bytV]
theorem made_ints (n : Nat) : (madeCells (Value.int .i64 0).cells (n * 1)).toList = intV (List.replicate n 0) := by
  show (madeCells #[Value.int .i64 0] (n * 1)).toList = _
  rw [toList_madeCells_one, Nat.mul_one]
  simp [intV]
/-- another owned row behind an append onto one that lies apart -/
theorem own_grown {w w' : World} {base : Nat} {e : TypeId} {size n : Nat} {v : Value} {xs : List Value} {row : Option Nat} (h : w.ownsRow base e size v n xs) (hg : w.grownBy w' row) (hr : ∀ g, v.ownBlock = some g → row ≠ some g) : w'.ownsRow base e size v n xs := by
  refine ⟨h.1, ?_⟩
  rcases h.2 with h0 | ⟨g, cap, cur, rfl, hb, hc, rest⟩
  · exact .inl h0
  · exact .inr ⟨g, cap, cur, rfl, hb, by rw [hg.block g (Array.getElem?_eq_some_iff.1 hc).1 (fun e => hr g rfl e.symm)]; exact hc, rest⟩
/-- two owned rows lie apart -/
def Apart (v u : Value) : Prop := ∀ g, v.ownBlock = some g → u.ownBlock ≠ some g
theorem Apart.symm {v u : Value} (h : Apart v u) : Apart u v := fun g h1 h2 => h g h2 h1
/-- .. also behind an append onto one of them -/
theorem Apart.grown {w : World} {base : Nat} {e : TypeId} {size n : Nat} {v v' u : Value} {xs : List Value} (h : Apart v u) (hu : w.ownsRow base e size u n xs) (hv : v'.ownBlock = v.ownBlock ∨ v'.ownBlock = some w.heap.size) : Apart v' u := by
  intro g h1 h2
  rcases hv with hv | hv
  · exact h g (hv ▸ h1) h2
  · rw [hv] at h1
    have := (hu.lt g h2).2
    have := Option.some.inj h1
    omega
theorem Apart.new {w : World} {base : Nat} {e : TypeId} {size n : Nat} {v u : Value} {xs : List Value} (hu : w.ownsRow base e size u n xs) (hv : ∀ g, v.ownBlock = some g → w.heap.size ≤ g) : Apart v u := by
  intro g h1 h2
  have := (hu.lt g h2).2
  have := hv g h1
  omega
theorem Apart.nil (u : Value) : Apart (.slice none 0 0) u := fun g h => by cases h
section
variable {P : Program} {T : TypeId} {α : Type} {f : List α → List Value}
/-- s[:j] of a slice of slices -/
theorem rowss_upto (hT : P.underlying T = some (.slice (P.elem T))) (hz : ∀ W, (sizeOf (P.elem T)).run P W = .ok 1 W) {w : World} {a : Option Addr} {ls : List (List α)} (h : Rowss f w a ls) {n j cap : Nat} {J : Int} (hJ : (j : Int) = J) (hj : j ≤ ls.length) (hc : j ≤ cap) :
    ∃ p, (∀ W, (Instr.slice T (.slice a n cap) none (some (.int .i64 J)) none).run P W = .ok (.slice p j cap) W) ∧ Rowss f w p (ls.take j) := by
  subst hJ
  refine ⟨if cap = 0 then a else a.map (·.add (0 * 1)), fun W => ?_, ?_⟩
  · rw [run_slice_h W T _ _ _ hT .i64 j (by omega) (by omega), hz W]
    simp only [Result.andThen, Int.toNat_natCast]
    rfl
  · intro hne
    have hj0 : 0 < j := by
      rcases Nat.eq_zero_or_pos j with h0 | h0
      · subst h0; simp at hne
      · exact h0
    obtain ⟨b, off, e, hcell⟩ := (h.take j) hne
    refine ⟨b, off, ?_, hcell⟩
    rw [if_neg (by omega), e]
    simp [Addr.add]
end
end Go.Proofs.Ytedgcgdgdjilhaa
