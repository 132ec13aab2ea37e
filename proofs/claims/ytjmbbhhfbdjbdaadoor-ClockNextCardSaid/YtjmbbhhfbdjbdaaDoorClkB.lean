/-
  Walks over the reference of package clock: insert.
-/
import Derived.Test.YtjmbbhhfbdjbdaaDoorClkA
namespace Go.Proofs.YtjmbbhhfbdjbdaaDoor
open Go.RowKit

theorem info_window : (Tryd.prog.info? 40).map (fun i => (i.zero, i.size, i.bytes)) = some (some (.agg #[.int .i64 0, .int .i64 0]), 2, 16) := by kernel_rfl

theorem putS_end : ∀ (l : List (Int × Int)) (w : Int × Int), (∀ z ∈ l, ¬ w.1 < z.1) → putS l w = l ++ [w]
  | [], w, _ => rfl
  | x :: l, w, h => by
    have hx := h x (by simp)
    rw [show putS (x :: l) w = if w.1 < x.1 then w :: x :: l else x :: putS l w from rfl, if_neg hx, putS_end l w (fun z hz => h z (by simp [hz]))]
    rfl
theorem putS_here : ∀ (l : List (Int × Int)) (w x : Int × Int), (∀ z ∈ l, ¬ w.1 < z.1) → w.1 < x.1 → putS (l ++ [x]) w = l ++ [w] ++ [x]
  | [], w, x, _, hx => by
    rw [show ([] : List (Int × Int)) ++ [x] = [x] from rfl, show putS [x] w = if w.1 < x.1 then w :: [x] else x :: putS [] w from rfl, if_pos hx]
    rfl
  | y :: l, w, x, h, hx => by
    have hy := h y (by simp)
    rw [List.cons_append, show putS (y :: (l ++ [x])) w = if w.1 < y.1 then w :: y :: (l ++ [x]) else y :: putS (l ++ [x]) w from rfl, if_neg hy, putS_here l w x (fun z hz => h z (by simp [hz])) hx]
    rfl
theorem putS_done : ∀ (l : List (Int × Int)) (w x : Int × Int), (∃ z ∈ l, w.1 < z.1) → putS (l ++ [x]) w = putS l w ++ [x]
  | [], w, x, h => by obtain ⟨z, hz, _⟩ := h; cases hz
  | y :: l, w, x, h => by
    rw [List.cons_append, show putS (y :: (l ++ [x])) w = if w.1 < y.1 then w :: y :: (l ++ [x]) else y :: putS (l ++ [x]) w from rfl, show putS (y :: l) w = if w.1 < y.1 then w :: y :: l else y :: putS l w from rfl]
    by_cases hy : w.1 < y.1
    · rw [if_pos hy, if_pos hy]; rfl
    · rw [if_neg hy, if_neg hy]
      obtain ⟨z, hz, hlt⟩ := h
      rw [putS_done l w x ⟨z, by
        rcases List.mem_cons.1 hz with rfl | hz
        · exact absurd hlt hy
        · exact hz, hlt⟩]
      rfl

/-- what insert has gathered from the first windows -/
def gone (l : List (Int × Int)) (w : Int × Int) (done : Bool) (xs : List (Int × Int)) : Prop :=
  (done = false ∧ xs = l ∧ ∀ z ∈ l, ¬ w.1 < z.1) ∨ (done = true ∧ xs = putS l w ∧ ∃ z ∈ l, w.1 < z.1)
theorem take_succ_pair (l : List (Int × Int)) (k : Nat) (hk : k < l.length) : l.take (k + 1) = l.take k ++ [l[k]?.getD (0, 0)] := by
  rw [List.take_add_one]
  simp [List.getElem?_eq_getElem hk]

theorem putS_length : ∀ (l : List (Int × Int)) (w : Int × Int), (putS l w).length = l.length + 1
  | [], _ => rfl
  | x :: l, w => by
    rw [show putS (x :: l) w = if w.1 < x.1 then w :: x :: l else x :: putS l w from rfl]
    split
    · rfl
    · simp [putS_length l w]
theorem gone_here {l xs : List (Int × Int)} {x y p q : Int} (h : gone l (x, y) false xs) (hp : x < p) : gone (l ++ [(p, q)]) (x, y) true (xs ++ [(x, y)] ++ [(p, q)]) := by
  rcases h with ⟨_, rfl, h⟩ | ⟨h, _, _⟩
  · exact Or.inr ⟨rfl, (putS_here _ _ _ h hp).symm, (p, q), by simp, hp⟩
  · cases h
theorem gone_skip {l xs : List (Int × Int)} {x y p q : Int} (h : gone l (x, y) false xs) (hp : ¬ x < p) : gone (l ++ [(p, q)]) (x, y) false (xs ++ [(p, q)]) := by
  rcases h with ⟨_, rfl, h⟩ | ⟨h, _, _⟩
  · refine Or.inl ⟨rfl, rfl, fun z hz => ?_⟩
    rcases List.mem_append.1 hz with hz | hz
    · exact h z hz
    · simp at hz
      subst hz
      exact hp
  · cases h
theorem gone_done {l xs : List (Int × Int)} {x y p q : Int} (h : gone l (x, y) true xs) : gone (l ++ [(p, q)]) (x, y) true (xs ++ [(p, q)]) := by
  rcases h with ⟨h, _, _⟩ | ⟨_, rfl, z, hz, hlt⟩
  · cases h
  · exact Or.inr ⟨rfl, (putS_done _ _ _ ⟨z, hz, hlt⟩).symm, z, by simp [hz], hlt⟩
theorem own_ne {w : World} {base : Nat} {e : TypeId} {size : Nat} {v : Value} {n : Nat} {xs : List Value} (h : w.ownsRow base e size v n xs) {k : Nat} (hk : k < base) : some k ≠ v.ownBlock := by
  intro hq
  have := (h.lt _ hq.symm).1
  omega
theorem own_ne_size {w : World} {base : Nat} {e : TypeId} {size : Nat} {v : Value} {n : Nat} {xs : List Value} (h : w.ownsRow base e size v n xs) : some w.heap.size ≠ v.ownBlock := by
  intro hq
  have := (h.lt _ hq.symm).2
  omega
theorem grown_below {w wr W W' : World} {e : TypeId} {size : Nat} {v : Value} {n : Nat} {xs : List Value} (h : wr.ownsRow (w.heap.size + 1) e size v n xs) (hg : W.grownBy W' v.ownBlock) (hb : Below w.heap.size w W) (hs : w.heap.size ≤ W.heap.size) : Below w.heap.size w W' :=
  hb.grown hg hs (fun k hk => by have := (h.lt k hk).1; omega)

theorem own_below {w w' : World} {base : Nat} {e : TypeId} {size : Nat} {v : Value} {n : Nat} {xs : List Value} (h : w.ownsRow base e size v n xs) (hb : Below w.heap.size w w') : w'.ownsRow base e size v n xs := by
  refine ⟨h.1, ?_⟩
  rcases h.2 with hn | ⟨g, cap, cur, hv, hbg, hg, r⟩
  · exact .inl hn
  · refine .inr ⟨g, cap, cur, hv, hbg, ?_, r⟩
    rw [hb.block g (Array.getElem?_eq_some_iff.1 hg).1]
    exact hg

/-- a call that gives back a slice of its own -/
def GivesOwn (w : World) (l : List (Int × Int)) (e : Ending) (w' : World) : Prop :=
  ∃ v, e = .returned v ∧ w'.ownsRow w.heap.size 40 2 v l.length (flat l) ∧ Below w.heap.size w w'

theorem own_base {w : World} {base base' : Nat} {e : TypeId} {size : Nat} {v : Value} {n : Nat} {xs : List Value} (h : w.ownsRow base e size v n xs) (hb : base' ≤ base) : w.ownsRow base' e size v n xs := by
  refine ⟨h.1, ?_⟩
  rcases h.2 with hn | ⟨g, cap, cur, hv, hg, r⟩
  · exact .inl hn
  · exact .inr ⟨g, cap, cur, hv, Nat.le_trans hb hg, r⟩
theorem Pairs_at (w : World) (x y : Int) (t : TypeId) {m : Nat} (hm : m = w.heap.size) : Pairs (w.alloc (.cells #[.int .i64 x, .int .i64 y] t)) (some ⟨m, 0, none⟩) [(x, y)] := by
  subst hm
  exact Pairs_one w x y t

set_option maxRecDepth 100000 in
set_option maxHeartbeats 4000000 in
theorem rInsert_any (a : Option Addr) (l : List (Int × Int)) (n cap : Nat) (x y : Int) (w : World) (hn : l.length = n) (hb : n ≤ 900000) (hl : Pairs w a l) :
    Calls Tryd.prog 43 #[.slice a n cap, .agg #[.int .i64 x, .int .i64 y]] w (GivesOwn w (putS l (x, y))) := by
  have Hn := Lib.hid hn
  clear hn
  go_enter Tryd.func43, Tryd.ntmps43
  go_wp2
  go_loopw [5, 6, 8, 11] (fun v d _ i wr => ∃ (k : Nat) (done : Bool) (xs : List (Int × Int)), k ≤ n ∧ i = .int .i64 k ∧ d = .bool done ∧ Hid (gone (l.take k) (x, y) done xs) ∧ Below w.heap.size w wr ∧ w.heap.size < wr.heap.size ∧
    wr.cell? ⟨w.heap.size, 0, none⟩ = some (.int .i64 x) ∧ wr.cell? ⟨w.heap.size, 1, none⟩ = some (.int .i64 y) ∧ wr.ownsRow (w.heap.size + 1) 40 2 v xs.length (flat xs)) (fun _ _ _ i _ => n - (intOf i).toNat)
  case atStart => exact ⟨0, false, [], Nat.zero_le _, rfl, rfl, Or.inl ⟨rfl, rfl, by simp⟩, by (repeat' first | exact Below.refl _ _ | with_reducible refine Below.drew ?_ | with_reducible refine Below.drewN ?_ _ | with_reducible refine Below.alloc' ?_ _ | with_reducible refine Below.setCell ?_ (by first | exact Nat.le_refl _ | (simp; done) | (simp; omega)) _ | with_reducible refine Below.after ?_ ‹_›), by simp, by simp [go_sem], by simp [go_sem], World.ownsRow_nil _ _ _ _⟩
  case round =>
    obtain ⟨k, done, xs, hk, rfl, rfl, Hg, hbr, hsz, c0, c1, hown⟩ := hrel
    by_cases hlt : k < n
    · obtain ⟨b, off, rfl, hc⟩ := (hl.kept hbr).at_ (k := k) (by rw [Hn.out]; exact hlt)
      obtain ⟨hc0, hc1⟩ := hc
      have Hlt := Lib.hid (show k < l.length by rw [Hn.out]; exact hlt)
      have Ht := Lib.hid (take_succ_pair l k Hlt.out)
      obtain ⟨⟨p, q⟩, hz⟩ : ∃ z, l[k]?.getD (0, 0) = z := ⟨_, rfl⟩
      rw [hz] at hc0 hc1 Ht
      simp only [] at hc0 hc1 Ht
      clear hz
      have hxl : xs.length ≤ k + 1 := by
        rcases Hg.out with ⟨_, rfl, _⟩ | ⟨_, rfl, _⟩
        · rw [List.length_take]; omega
        · rw [putS_length, List.length_take]; omega
      cases done
      · by_cases hp : x < p
        · have HG := Lib.hid (gone_here Hg.out hp (y := y) (q := q))
          rw [← Ht.out] at HG
          go_wp2_with (first | (at_builtin; refine wpList_append_pairs rfl (.tmp 24) (.tmp 26) Tryd.underlying33 info_window rfl (w.heap.size + 1) _ (xs).length (xs) rfl ((hown.alloc _).alloc _) _ _ _ [(x, y)] rfl rfl (Pairs_at _ _ _ _ (by simp)) (by simp) (by simp; omega) (by simp; omega) ?_; intro v1 x1 o1 g1 _ _; have hbx := grown_below hown g1 (by (repeat' first | with_reducible assumption | exact Below.refl _ _ | with_reducible refine Below.drew ?_ | with_reducible refine Below.drewN ?_ _ | with_reducible refine Below.alloc' ?_ _ | with_reducible refine Below.setCell ?_ (by first | exact Nat.le_refl _ | omega | (simp; done) | (simp; omega)) _ | with_reducible refine Below.after ?_ ‹_›)) (by simp; omega); have b0 := g1.cell (cellA (cellA c0)) (own_ne hown (Nat.lt_succ_self _)); have b1 := g1.cell (cellA (cellA c1)) (own_ne hown (Nat.lt_succ_self _)); have e0 := g1.cell (a := ⟨wr.heap.size, 0, none⟩) (v := .int .i64 p) (by simp [go_sem]) (own_ne_size hown); have e1 := g1.cell (a := ⟨wr.heap.size, 1, none⟩) (v := .int .i64 q) (by simp [go_sem]) (own_ne_size hown)) | (at_builtin; refine wpList_append_pairs rfl (.tmp 28) (.tmp 30) Tryd.underlying33 info_window rfl (w.heap.size + 1) _ (xs.length + 1) (xs ++ [(x, y)]) rfl (o1.alloc _) _ _ _ [(p, q)] rfl rfl (Pairs_at _ _ _ _ (by simp)) (by simp) (by simp; omega) (by have := hbx.size; simp; omega) ?_; intro v2 x2 o2 g2 _ _; have hby := grown_below o1 g2 (by (repeat' first | with_reducible assumption | exact Below.refl _ _ | with_reducible refine Below.drew ?_ | with_reducible refine Below.drewN ?_ _ | with_reducible refine Below.alloc' ?_ _ | with_reducible refine Below.setCell ?_ (by first | exact Nat.le_refl _ | omega | (simp; done) | (simp; omega)) _ | with_reducible refine Below.after ?_ ‹_›)) (by have := hbx.size; simp; omega); have d0 := g2.cell (cellA b0) (own_ne o1 (Nat.lt_succ_self _)); have d1 := g2.cell (cellA b1) (own_ne o1 (Nat.lt_succ_self _))))
          go_roundw
          case rel => exact ⟨k + 1, true, xs ++ [(x, y)] ++ [(p, q)], by omega, by go_num, rfl, HG.out, hby, by have := g2.size; have := g1.size; simp at *; omega, d0, d1, by rw [List.length_append, List.length_append]; exact o2⟩
          case measure => simp [intOf]; omega
        · have HG := Lib.hid (gone_skip Hg.out hp (y := y) (q := q))
          rw [← Ht.out] at HG
          have hp' : decide (x < p) = false := by simpa using hp
          clear hp
          go_wp2_with (at_builtin; refine wpList_append_pairs rfl (.tmp 28) (.tmp 30) Tryd.underlying33 info_window rfl (w.heap.size + 1) _ (xs).length (xs) rfl ((hown.alloc _).alloc _) _ _ _ [(p, q)] rfl rfl (Pairs_at _ _ _ _ (by simp)) (by simp) (by simp; omega) (by simp; omega) ?_; intro v1 x1 o1 g1 _ _)
          have hbx := grown_below hown g1 (by (repeat' first | with_reducible assumption | exact Below.refl _ _ | with_reducible refine Below.drew ?_ | with_reducible refine Below.drewN ?_ _ | with_reducible refine Below.alloc' ?_ _ | with_reducible refine Below.setCell ?_ (by first | exact Nat.le_refl _ | omega | (simp; done) | (simp; omega)) _ | with_reducible refine Below.after ?_ ‹_›)) (by simp; omega)
          have b0 := g1.cell (cellA (cellA c0)) (own_ne hown (Nat.lt_succ_self _))
          have b1 := g1.cell (cellA (cellA c1)) (own_ne hown (Nat.lt_succ_self _))
          go_wp2
          go_roundw
          case rel => exact ⟨k + 1, false, xs ++ [(p, q)], by omega, by go_num, rfl, HG.out, hbx, by have := hbx.size; have := g1.size; simp at this; omega, b0, b1, by rw [List.length_append]; exact o1⟩
          case measure => simp [intOf]; omega
      · have HG := Lib.hid (gone_done Hg.out (p := p) (q := q))
        rw [← Ht.out] at HG
        go_wp2_with (at_builtin; refine wpList_append_pairs rfl (.tmp 28) (.tmp 30) Tryd.underlying33 info_window rfl (w.heap.size + 1) _ (xs).length (xs) rfl ((hown.alloc _).alloc _) _ _ _ [(p, q)] rfl rfl (Pairs_at _ _ _ _ (by simp)) (by simp) (by simp; omega) (by simp; omega) ?_; intro v1 x1 o1 g1 _ _)
        have hbx := grown_below hown g1 (by (repeat' first | with_reducible assumption | exact Below.refl _ _ | with_reducible refine Below.drew ?_ | with_reducible refine Below.drewN ?_ _ | with_reducible refine Below.alloc' ?_ _ | with_reducible refine Below.setCell ?_ (by first | exact Nat.le_refl _ | omega | (simp; done) | (simp; omega)) _ | with_reducible refine Below.after ?_ ‹_›)) (by simp; omega)
        have b0 := g1.cell (cellA (cellA c0)) (own_ne hown (Nat.lt_succ_self _))
        have b1 := g1.cell (cellA (cellA c1)) (own_ne hown (Nat.lt_succ_self _))
        go_wp2
        go_roundw
        case rel => exact ⟨k + 1, true, xs ++ [(p, q)], by omega, by go_num, rfl, HG.out, hbx, by have := hbx.size; have := g1.size; simp at this; omega, b0, b1, by rw [List.length_append]; exact o1⟩
        case measure => simp [intOf]; omega
    · have hk' : k = l.length := by rw [Hn.out]; omega
      have hg := Hg.out
      rw [hk', List.take_length] at hg
      cases done
      · have hxs : xs = l := by rcases hg with ⟨_, h, _⟩ | ⟨h, _, _⟩ <;> first | exact h | cases h
        have hput : putS l (x, y) = xs ++ [(x, y)] := by
          rcases hg with ⟨_, rfl, h⟩ | ⟨h, _, _⟩
          · exact putS_end _ _ h
          · cases h
        have hxl : xs.length ≤ 900000 := by rw [hxs, Hn.out]; omega
        have Hp := Lib.hid hput
        clear hg hk' hxs hput
        go_wp2_with (at_builtin; refine wpList_append_pairs rfl (.tmp 35) (.tmp 37) Tryd.underlying33 info_window rfl (w.heap.size + 1) _ (xs).length (xs) rfl (hown.alloc _) _ _ _ [(x, y)] rfl rfl (Pairs_at _ _ _ _ (by simp)) (by simp) (by simp; omega) (by simp; omega) ?_; intro v1 x1 o1 g1 _ _)
        go_wp2
        go_ret
        have hbx := grown_below hown g1 (by (repeat' first | with_reducible assumption | exact Below.refl _ _ | with_reducible refine Below.drew ?_ | with_reducible refine Below.drewN ?_ _ | with_reducible refine Below.alloc' ?_ _ | with_reducible refine Below.setCell ?_ (by first | exact Nat.le_refl _ | omega | (simp; done) | (simp; omega)) _ | with_reducible refine Below.after ?_ ‹_›)) (by simp; omega)
        refine ⟨v1, rfl, ?_, hbx⟩
        rw [Hp.out, List.length_append]
        exact own_base o1 (Nat.le_succ _)
      · have hput : putS l (x, y) = xs := by
          rcases hg with ⟨h, _, _⟩ | ⟨_, h, _⟩
          · cases h
          · exact h.symm
        have Hp := Lib.hid hput
        clear hg hk' hput
        go_wp2
        go_ret
        refine ⟨_, rfl, ?_, hbr⟩
        rw [Hp.out]
        exact own_base hown (Nat.le_succ _)
end Go.Proofs.YtjmbbhhfbdjbdaaDoor
