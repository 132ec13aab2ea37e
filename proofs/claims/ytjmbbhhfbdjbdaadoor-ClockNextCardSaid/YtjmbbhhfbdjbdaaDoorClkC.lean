/-
  Walks over the reference of package clock: Merge.
-/
import Derived.Test.YtjmbbhhfbdjbdaaDoorClkB
namespace Go.Proofs.YtjmbbhhfbdjbdaaDoor
open Go.RowKit

/-- what Merge returns -/
def mrg (l : List (Int × Int)) : List (Int × Int) × Int := if l.all wB then (unite l, 0) else ([], 1)
/-- a call that gives back a slice of its own, and an error -/
def GivesTwo (w : World) (r : List (Int × Int) × Int) (e : Ending) (w' : World) : Prop :=
  ∃ v, e = .returned (.tuple #[v, .int .i64 r.2]) ∧ w'.ownsRow w.heap.size 40 2 v r.1.length (flat r.1) ∧ Below w.heap.size w w'

/-- the sorting's step -/
def sortStep (a : List (Int × Int)) (w : Int × Int) : List (Int × Int) := if w.1 < w.2 then putS a w else a
theorem sortS_fold (l : List (Int × Int)) : sortS l = l.foldl sortStep [] := rfl
theorem fold_take {α : Type} (f : α → Int × Int → α) (a : α) (l : List (Int × Int)) (k : Nat) (hk : k < l.length) : (l.take (k + 1)).foldl f a = f ((l.take k).foldl f a) (l[k]?.getD (0, 0)) := by
  rw [take_succ_pair l k hk, List.foldl_append]
  rfl
theorem all_take_succ (l : List (Int × Int)) (k : Nat) (hk : k < l.length) : (l.take (k + 1)).all wB = ((l.take k).all wB && wB (l[k]?.getD (0, 0))) := by
  rw [take_succ_pair l k hk, List.all_append]
  simp
theorem all_not (l : List (Int × Int)) (k : Nat) (hk : k < l.length) (h : wB (l[k]?.getD (0, 0)) = false) : l.all wB = false := by
  rw [List.all_eq_false]
  exact ⟨l[k], List.getElem_mem hk, by simpa [List.getElem?_eq_getElem hk] using h⟩
theorem sort_length : ∀ (l acc : List (Int × Int)), (l.foldl sortStep acc).length ≤ acc.length + l.length
  | [], acc => by simp
  | z :: l, acc => by
    have := sort_length l (sortStep acc z)
    have h : (sortStep acc z).length ≤ acc.length + 1 := by
      unfold sortStep
      split
      · rw [putS_length]; exact Nat.le_refl _
      · omega
    rw [List.foldl_cons, List.length_cons]
    omega
theorem join_length (l : List (Int × Int)) (w : Int × Int) : (joinR l w).length ≤ l.length + 1 := by
  cases l with
  | nil => exact Nat.le_refl _
  | cons z r =>
    rw [show joinR (z :: r) w = if w.1 ≤ z.2 then (z.1, max z.2 w.2) :: r else w :: z :: r from rfl]
    split <;> simp
theorem join_all_length : ∀ (l acc : List (Int × Int)), (l.foldl joinR acc).length ≤ acc.length + l.length
  | [], acc => by simp
  | z :: l, acc => by
    have := join_all_length l (joinR acc z)
    have h := join_length acc z
    rw [List.foldl_cons, List.length_cons]
    omega
theorem flat_set (l : List (Int × Int)) (a b q : Int) : (flat (l ++ [(a, b)])).set (l.length * 2 + 1) (.int .i64 q) = flat (l ++ [(a, q)]) := by
  rw [flat_append, flat_append, List.set_append_right _ _ (by rw [flat_length]; omega), flat_length]
  have : l.length * 2 + 1 - l.length * 2 = 1 := by omega
  rw [this]
  rfl

theorem own_drewN {w : World} {base : Nat} {e : TypeId} {size : Nat} {v : Value} {n : Nat} {xs : List Value} (h : w.ownsRow base e size v n xs) (k : Nat) : (w.drewN k).ownsRow base e size v n xs := h
theorem pairs_drewN {w : World} {a : Option Addr} {l : List (Int × Int)} (h : Pairs w a l) (k : Nat) : Pairs (w.drewN k) a l := h
theorem last_cell {w : World} {base : Nat} {e : TypeId} {g m c : Nat} {l : List (Int × Int)} {a b : Int} (h : w.ownsRow base e 2 (.slice (some ⟨g, 0, none⟩) (m + 1) c) (m + 1) (flat (l ++ [(a, b)]))) (hl : l.length = m) :
    w.cell? ⟨g, m * 2, none⟩ = some (.int .i64 a) ∧ w.cell? ⟨g, m * 2 + 1, none⟩ = some (.int .i64 b) ∧ w.frozen? ⟨g, m * 2 + 1, none⟩ = false := by
  subst hl
  have hf := flat_at (l ++ [(a, b)]) l.length (by simp)
  have e : (l ++ [(a, b)])[l.length]?.getD (0, 0) = (a, b) := by simp
  rw [e] at hf
  exact ⟨(h.cellAt _ (by omega)).trans hf.1, (h.cellAt _ (by omega)).trans hf.2, h.frozenAt _⟩

set_option maxRecDepth 100000 in
set_option maxHeartbeats 4000000 in
theorem rMerge_any (a : Option Addr) (l : List (Int × Int)) (n cap : Nat) (w : World) (hn : l.length = n) (hb : n ≤ 800000) (hl : Pairs w a l) :
    Calls Tryd.prog 22 #[.slice a n cap] w (GivesTwo w (mrg l)) := by
  have Hn := Lib.hid hn
  clear hn
  go_enter Tryd.func22, Tryd.ntmps22
  go_wp2
  go_loopw [4, 7, 13] (fun v _ i wr => ∃ (k : Nat) (xs : List (Int × Int)), k ≤ n ∧ i = .int .i64 k ∧ Hid ((l.take k).all wB = true) ∧ Hid (xs = (l.take k).foldl sortStep []) ∧ Below w.heap.size w wr ∧ wr.ownsRow w.heap.size 40 2 v xs.length (flat xs)) (fun _ _ i _ => n - (intOf i).toNat)
  case atStart => exact ⟨0, [], Nat.zero_le _, rfl, rfl, rfl, Below.refl _ _, World.ownsRow_nil _ _ _ _⟩
  case round =>
    obtain ⟨k, xs, hk, rfl, Hall, Hx, hbr, hown⟩ := hrel
    obtain ⟨a4, c4, rfl, hl4, hp4⟩ := own_pairs hown
    clear hl4
    by_cases hlt : k < n
    · obtain ⟨b, off, rfl, hc⟩ := (hl.kept hbr).at_ (k := k) (by rw [Hn.out]; exact hlt)
      obtain ⟨hc0, hc1⟩ := hc
      have Hlt := Lib.hid (show k < l.length by rw [Hn.out]; exact hlt)
      have Hs := Lib.hid (fold_take sortStep [] l k Hlt.out)
      have Ha := Lib.hid (all_take_succ l k Hlt.out)
      have Hno := Lib.hid (all_not l k Hlt.out)
      have hxl : xs.length ≤ k := by
        rw [Hx.out]
        have := sort_length (l.take k) []
        rw [List.length_take] at this
        simp at this
        omega
      obtain ⟨⟨p, q⟩, hz⟩ : ∃ z, l[k]?.getD (0, 0) = z := ⟨_, rfl⟩
      rw [hz] at hc0 hc1 Hs Ha Hno
      simp only [] at hc0 hc1
      clear hz
      cases hv : wB (p, q)
      · have E := Lib.hid (show mrg l = ([], 1) by unfold mrg; rw [Hno.out hv]; rfl)
        have Hv := Lib.hid hv
        clear hv
        go_wp2_with fail
        refine (rValidW_is Hv.out _).mono ?_
        rintro e w1 ⟨rfl, hb1⟩
        go_wp2
        go_ret2
        refine ⟨_, by rw [E.out]; rfl, by rw [E.out]; exact World.ownsRow_nil _ _ _ _, hbr.trans (Below.mono (w := wr) (by (repeat' first | with_reducible assumption | exact Below.refl _ _ | with_reducible refine Below.drew ?_ | with_reducible refine Below.drewN ?_ _ | with_reducible refine Below.alloc' ?_ _ | with_reducible refine Below.setCell ?_ (by first | exact Nat.le_refl _ | omega | (simp; done) | (simp; omega)) _ | with_reducible refine Below.after ?_ ‹_›)) hbr.size)⟩
      · have Ha1 := Lib.hid (show (l.take (k + 1)).all wB = true by rw [Ha.out, Hall.out, hv]; rfl)
        have Hv := Lib.hid hv
        clear hv
        by_cases hpq : p < q
        · have Hx1 := Lib.hid (show putS xs (p, q) = (l.take (k + 1)).foldl sortStep [] by rw [Hs.out, ← Hx.out]; unfold sortStep; rw [if_pos hpq])
          go_wp2_with fail
          refine (rValidW_is Hv.out _).mono ?_
          rintro e w1 ⟨rfl, hb1⟩
          have q1 := kept hb1 (p := ⟨wr.heap.size, 0, none⟩) (v := .int .i64 p) (by first | ((repeat' first | with_reducible assumption | with_reducible refine cellA ?_ | with_reducible refine cellD ?_); done) | (simp [go_sem]; done) | (simp [go_sem, *]; done))
          have y1 := World.block_lt_of_cell? _ _ q1
          simp only [] at y1
          have q2 := kept hb1 (p := ⟨wr.heap.size, 1, none⟩) (v := .int .i64 q) (by first | ((repeat' first | with_reducible assumption | with_reducible refine cellA ?_ | with_reducible refine cellD ?_); done) | (simp [go_sem]; done) | (simp [go_sem, *]; done))
          go_wp2_with fail
          refine (rInsert_any a4 xs xs.length c4 p q _ rfl (by omega) (hp4.kept (by (repeat' first | with_reducible assumption | exact Below.refl _ _ | with_reducible refine Below.drew ?_ | with_reducible refine Below.drewN ?_ _ | with_reducible refine Below.alloc' ?_ _ | with_reducible refine Below.setCell ?_ (by first | exact Nat.le_refl _ | omega | (simp; done) | (simp; omega)) _ | with_reducible refine Below.after ?_ ‹_›)))).mono ?_
          rintro e w2 ⟨v2, rfl, o2, hb2⟩
          have hbx : Below w.heap.size w w2 := hbr.trans (Below.mono (w := wr) (by (repeat' first | with_reducible assumption | exact Below.refl _ _ | with_reducible refine Below.drew ?_ | with_reducible refine Below.drewN ?_ _ | with_reducible refine Below.alloc' ?_ _ | with_reducible refine Below.setCell ?_ (by first | exact Nat.le_refl _ | omega | (simp; done) | (simp; omega)) _ | with_reducible refine Below.after ?_ ‹_›)) hbr.size)
          have hsz := hb1.size
          simp at hsz
          go_wp2
          go_roundw
          case rel => exact ⟨k + 1, putS xs (p, q), by omega, by go_num, Ha1.out, Hx1.out, hbx, own_base o2 (by have := hbr.size; omega)⟩
          case measure => simp [intOf]; omega
        · have Hx1 := Lib.hid (show xs = (l.take (k + 1)).foldl sortStep [] by rw [Hs.out, ← Hx.out]; unfold sortStep; rw [if_neg hpq])
          have hpq' : decide (p < q) = false := by simpa using hpq
          clear hpq
          go_wp2_with fail
          refine (rValidW_is Hv.out _).mono ?_
          rintro e w1 ⟨rfl, hb1⟩
          have q3 := kept hb1 (p := ⟨wr.heap.size, 0, none⟩) (v := .int .i64 p) (by first | ((repeat' first | with_reducible assumption | with_reducible refine cellA ?_ | with_reducible refine cellD ?_); done) | (simp [go_sem]; done) | (simp [go_sem, *]; done))
          have y3 := World.block_lt_of_cell? _ _ q3
          simp only [] at y3
          have q4 := kept hb1 (p := ⟨wr.heap.size, 1, none⟩) (v := .int .i64 q) (by first | ((repeat' first | with_reducible assumption | with_reducible refine cellA ?_ | with_reducible refine cellD ?_); done) | (simp [go_sem]; done) | (simp [go_sem, *]; done))
          have hbx : Below w.heap.size w w1 := hbr.trans (Below.mono (w := wr) (by (repeat' first | with_reducible assumption | exact Below.refl _ _ | with_reducible refine Below.drew ?_ | with_reducible refine Below.drewN ?_ _ | with_reducible refine Below.alloc' ?_ _ | with_reducible refine Below.setCell ?_ (by first | exact Nat.le_refl _ | omega | (simp; done) | (simp; omega)) _ | with_reducible refine Below.after ?_ ‹_›)) hbr.size)
          have ho1 := own_below (hown.alloc (.cells #[.int .i64 p, .int .i64 q] 40)) hb1
          go_wp2
          go_roundw
          case rel => exact ⟨k + 1, xs, by omega, by go_num, Ha1.out, Hx1.out, hbx, ho1⟩
          case measure => simp [intOf]; omega
    · have hk' : k = l.length := by rw [Hn.out]; omega
      have hall := Hall.out
      have hx := Hx.out
      rw [hk', List.take_length] at hall hx
      have E := Lib.hid (show mrg l = (unite l, 0) by unfold mrg; rw [hall]; rfl)
      have hxs : xs = sortS l := hx
      clear hall hx hk' Hall Hx
      have HX := Lib.hid hxs
      have hxl : xs.length ≤ 800000 := by
        rw [hxs, sortS_fold]
        have := sort_length l []
        rw [Hn.out] at this
        simp at this
        omega
      clear hxs
      obtain ⟨W0, hW0⟩ : ∃ W0, W0 = wr := ⟨_, rfl⟩
      subst hW0
      go_wp2
      go_loopw [5, 9, 10, 31] (fun v _ _ i wx => ∃ (j : Nat) (acc : List (Int × Int)), j ≤ xs.length ∧ i = .int .i64 j ∧ Hid (acc = (xs.take j).foldl joinR []) ∧ Below W0.heap.size W0 wx ∧ wx.ownsRow W0.heap.size 40 2 v acc.length (flat acc.reverse)) (fun _ _ _ i _ => xs.length - (intOf i).toNat)
      case atStart => exact ⟨0, [], Nat.zero_le _, rfl, rfl, Below.refl _ _, World.ownsRow_nil _ _ _ _⟩
      case round =>
        obtain ⟨j, acc, hj, rfl, Hacc, hbx, hown2⟩ := hrel
        by_cases hlt2 : j < xs.length
        · obtain ⟨b, off, rfl, hc⟩ := (hp4.kept hbx).at_ (k := j) hlt2
          obtain ⟨hc0, hc1⟩ := hc
          have Hs := Lib.hid (fold_take joinR [] xs j hlt2)
          have hal : acc.length ≤ j := by
            rw [Hacc.out]
            have := join_all_length (xs.take j) []
            rw [List.length_take] at this
            simp at this
            omega
          obtain ⟨⟨p, q⟩, hz⟩ : ∃ z, xs[j]?.getD (0, 0) = z := ⟨_, rfl⟩
          rw [hz, ← Hacc.out] at Hs
          rw [hz] at hc0 hc1
          simp only [] at hc0 hc1
          clear hz
          have hsz := hbx.size
          cases acc with
          | nil =>
            simp only [List.length_nil, List.reverse_nil] at hown2
            obtain ⟨a5, c5, rfl, hl5, hp5⟩ := own_pairs hown2
            clear hl5 hp5
            go_wp2
            go_quiet (fail)
            go_wp2_with (at_builtin; refine wpList_append_pairs rfl (.tmp 62) (.tmp 64) Tryd.underlying33 info_window rfl W0.heap.size _ 0 [] rfl (by first | exact own_drewN ((hown2.alloc _).alloc _) _ | exact (own_drewN (hown2.alloc _) _).alloc _) _ _ _ [(p, q)] rfl rfl (by first | exact Pairs_at _ _ _ _ (by simp) | exact pairs_drewN (Pairs_at _ _ _ _ (by simp)) _) (by simp) (by omega) (by have := hbx.size; simp; omega) ?_; intro v1 x1 o1 g1 _ _)
            have hby : Below W0.heap.size W0 x1 := Below.grown (by (repeat' first | with_reducible assumption | exact Below.refl _ _ | with_reducible refine Below.drew ?_ | with_reducible refine Below.drewN ?_ _ | with_reducible refine Below.alloc' ?_ _ | with_reducible refine Below.setCell ?_ (by first | exact Nat.le_refl _ | omega | (simp; done) | (simp; omega)) _ | with_reducible refine Below.after ?_ ‹_›)) g1 (by simp; omega) (fun k hk => (hown2.lt k hk).1)
            go_wp2
            go_roundw
            case rel => exact ⟨j + 1, [(p, q)], by omega, by go_num, by unfold Hid; rw [Hs.out]; rfl, hby, o1⟩
            case measure => simp [intOf]; omega
          | cons z r =>
            obtain ⟨z1, z2⟩ := z
            simp only [List.length_cons, List.reverse_cons] at hown2 hal
            obtain ⟨m, hm⟩ : ∃ m, r.length = m := ⟨_, rfl⟩
            rw [hm] at hown2 hal
            have HM := Lib.hid hm
            clear hm
            obtain ⟨g, c5, rfl, hg1, hg2⟩ := hown2.form (by omega)
            have e0 := last_cell hown2 (by rw [List.length_reverse, HM.out])
            obtain ⟨e0, e1, f1⟩ := e0
            have m0 : (0 : Int) ≤ (m : Int) := by omega
            have m1 : (m : Int) < (m : Int) + 1 := by omega
            by_cases hp : p ≤ z2
            · have Hj := Lib.hid (show joinR ((z1, z2) :: r) (p, q) = (z1, max z2 q) :: r from if_pos hp)
              rcases Int.lt_or_le z2 q with hq | hq
              · rw [show max z2 q = q by omega] at Hj
                go_wp2
                go_quiet (fail)
                go_wp2_with fail
                refine region_tail 12 (by kernel_rfl) (by kernel_rfl) (fun W hW => ?_)
                have E1 : W.cell? ⟨g, m * 2 + 1, none⟩ = some (.int .i64 z2) := by rw [hW]; exact cellA e1
                have E2 : W.cell? ⟨wr.heap.size, 1, none⟩ = some (.int .i64 q) := by rw [hW]; show (wr.alloc _).cell? _ = _; simp [go_sem]
                have E3 : W.frozen? ⟨g, m * 2 + 1, none⟩ = false := by rw [hW]; exact frozA (v := .int .i64 z2) e1 f1
                have o1 : W.ownsRow W0.heap.size 40 2 (.slice (some ⟨g, 0, none⟩) (m + 1) c5) (m + 1) (flat (r.reverse ++ [(z1, z2)])) := by rw [hW]; exact hown2.alloc _
                have hbW : Below W0.heap.size W0 W := by rw [hW]; exact (((hbx.alloc' _).drewN _).drew)
                have o2 := (o1.stored (m * 2 + 1) (.int .i64 q)).1
                rw [show m * 2 + 1 = r.reverse.length * 2 + 1 by rw [List.length_reverse, HM.out], flat_set, show r.reverse.length * 2 + 1 = m * 2 + 1 by rw [List.length_reverse, HM.out]] at o2
                clear hW o1 e0 e1 f1 hc0 hc1
                simp only [List.take_succ_cons, List.take_zero, List.drop_succ_cons, List.drop_zero]
                repeat still_step
                refine wpStill_nil ?_
                go_wp2
                go_roundw
                case rel => exact ⟨j + 1, (z1, q) :: r, by omega, by go_num, by unfold Hid; rw [Hs.out, Hj.out], hbW.setCell hg1 _, by simp only [List.length_cons, List.reverse_cons]; rw [HM.out]; exact o2⟩
                case measure => simp [intOf]; omega
              · rw [show max z2 q = z2 by omega] at Hj
                go_wp2
                go_quiet (fail)
                go_wp2_with fail
                refine region_tail 12 (by kernel_rfl) (by kernel_rfl) (fun W hW => ?_)
                have E1 : W.cell? ⟨g, m * 2 + 1, none⟩ = some (.int .i64 z2) := by rw [hW]; exact cellA e1
                have E2 : W.cell? ⟨wr.heap.size, 1, none⟩ = some (.int .i64 q) := by rw [hW]; show (wr.alloc _).cell? _ = _; simp [go_sem]
                have E3 : W.frozen? ⟨g, m * 2 + 1, none⟩ = false := by rw [hW]; exact frozA (v := .int .i64 z2) e1 f1
                have o1 : W.ownsRow W0.heap.size 40 2 (.slice (some ⟨g, 0, none⟩) (m + 1) c5) (m + 1) (flat (r.reverse ++ [(z1, z2)])) := by rw [hW]; exact hown2.alloc _
                have hbW : Below W0.heap.size W0 W := by rw [hW]; exact (((hbx.alloc' _).drewN _).drew)
                have o2 := (o1.stored (m * 2 + 1) (.int .i64 z2)).1
                rw [show m * 2 + 1 = r.reverse.length * 2 + 1 by rw [List.length_reverse, HM.out], flat_set, show r.reverse.length * 2 + 1 = m * 2 + 1 by rw [List.length_reverse, HM.out]] at o2
                clear hW o1 e0 e1 f1 hc0 hc1
                simp only [List.take_succ_cons, List.take_zero, List.drop_succ_cons, List.drop_zero]
                repeat still_step
                refine wpStill_nil ?_
                go_wp2
                go_roundw
                case rel => exact ⟨j + 1, (z1, z2) :: r, by omega, by go_num, by unfold Hid; rw [Hs.out, Hj.out], hbW.setCell hg1 _, by simp only [List.length_cons, List.reverse_cons]; rw [HM.out]; exact o2⟩
                case measure => simp [intOf]; omega
            · have hp' : decide (p ≤ z2) = false := by simpa using hp
              have Hj := Lib.hid (show joinR ((z1, z2) :: r) (p, q) = (p, q) :: (z1, z2) :: r from if_neg hp)
              clear hp
              go_wp2
              go_quiet (fail)
              go_wp2_with (at_builtin; refine wpList_append_pairs rfl (.tmp 62) (.tmp 64) Tryd.underlying33 info_window rfl W0.heap.size _ (m + 1) (r.reverse ++ [(z1, z2)]) rfl (by first | exact own_drewN ((hown2.alloc _).alloc _) _ | exact (own_drewN (hown2.alloc _) _).alloc _) _ _ _ [(p, q)] rfl rfl (by first | exact Pairs_at _ _ _ _ (by simp) | exact pairs_drewN (Pairs_at _ _ _ _ (by simp)) _) (by simp) (by omega) (by have := hbx.size; simp; omega) ?_; intro v1 x1 o1 g1 _ _)
              have hby : Below W0.heap.size W0 x1 := Below.grown (by (repeat' first | with_reducible assumption | exact Below.refl _ _ | with_reducible refine Below.drew ?_ | with_reducible refine Below.drewN ?_ _ | with_reducible refine Below.alloc' ?_ _ | with_reducible refine Below.setCell ?_ (by first | exact Nat.le_refl _ | omega | (simp; done) | (simp; omega)) _ | with_reducible refine Below.after ?_ ‹_›)) g1 (by simp; omega) (fun k hk => (hown2.lt k hk).1)
              go_wp2
              go_roundw
              case rel => exact ⟨j + 1, (p, q) :: (z1, z2) :: r, by omega, by go_num, by unfold Hid; rw [Hs.out, Hj.out], hby, by simp only [List.length_cons, List.reverse_cons]; rw [HM.out]; exact o1⟩
              case measure => simp [intOf]; omega
        · have hj' : j = xs.length := by omega
          have ha := Hacc.out
          rw [hj', List.take_length] at ha
          have HU := Lib.hid (show acc.reverse = unite l by unfold unite; rw [← HX.out, ← ha])
          clear ha hj'
          go_wp2
          go_ret2
          refine ⟨_, by rw [E.out]; rfl, ?_, ?_⟩
          · rw [E.out]
            show World.ownsRow _ _ _ _ _ (unite l).length (flat (unite l))
            rw [← HU.out, List.length_reverse]
            exact own_base hown2 hbr.size
          · exact hbr.trans (hbx.mono hbr.size)
end Go.Proofs.YtjmbbhhfbdjbdaaDoor
