/-
  Walks over package clock: valid, contains, Inside; joinSorted.
-/
import Derived.Test.YtjmbbhhfbdjbdaaDoorClkC
namespace Go.Proofs.YtjmbbhhfbdjbdaaDoor
open Go.RowKit

/-- a window that lies within 0 and e -/
def vwB (z : Int × Int) (e : Int) : Bool := decide (0 ≤ z.1) && decide (z.1 ≤ z.2) && decide (z.2 ≤ e)
theorem vwB_w (z : Int × Int) : vwB z 3155760000 = wB z := rfl
/-- whether a window contains a number -/
def conB (z : Int × Int) (t : Int) : Bool := decide (z.1 ≤ t) && decide (t < z.2)

set_option maxHeartbeats 1000000 in
theorem valid_any (a b t : Int) (w : World) :
    Calls Tryd.prog 37 #[.agg #[.int .i64 a, .int .i64 b], .int .i64 t] w fun e w' => e = .returned (.bool (vwB (a, b) t)) ∧ Below w.heap.size w w' := by
  by_cases h1 : 0 ≤ a
  · by_cases h : a ≤ b
    · by_cases h2 : b ≤ t
      · have H := Lib.hid (show vwB (a, b) t = true by simp [vwB, *])
        go_enter Tryd.func37, Tryd.ntmps37
        go_wp2
        go_ret
        exact ⟨by rw [H.out]; rfl, by (repeat' first | exact Below.refl _ _ | with_reducible refine Below.drew ?_ | with_reducible refine Below.drewN ?_ _ | with_reducible refine Below.alloc' ?_ _ | with_reducible refine Below.setCell ?_ (by first | exact Nat.le_refl _ | (simp; done) | (simp; omega)) _ | with_reducible refine Below.after ?_ ‹_›)⟩
      · have H := Lib.hid (show vwB (a, b) t = false by simp [vwB, *])
        go_enter Tryd.func37, Tryd.ntmps37
        go_wp2
        go_ret
        exact ⟨by rw [H.out]; rfl, by (repeat' first | exact Below.refl _ _ | with_reducible refine Below.drew ?_ | with_reducible refine Below.drewN ?_ _ | with_reducible refine Below.alloc' ?_ _ | with_reducible refine Below.setCell ?_ (by first | exact Nat.le_refl _ | (simp; done) | (simp; omega)) _ | with_reducible refine Below.after ?_ ‹_›)⟩
    · have H := Lib.hid (show vwB (a, b) t = false by simp [vwB, *])
      go_enter Tryd.func37, Tryd.ntmps37
      go_wp2
      go_ret
      exact ⟨by rw [H.out]; rfl, by (repeat' first | exact Below.refl _ _ | with_reducible refine Below.drew ?_ | with_reducible refine Below.drewN ?_ _ | with_reducible refine Below.alloc' ?_ _ | with_reducible refine Below.setCell ?_ (by first | exact Nat.le_refl _ | (simp; done) | (simp; omega)) _ | with_reducible refine Below.after ?_ ‹_›)⟩
  · have H := Lib.hid (show vwB (a, b) t = false by simp [vwB, *])
    go_enter Tryd.func37, Tryd.ntmps37
    go_wp2
    go_ret
    exact ⟨by rw [H.out]; rfl, by (repeat' first | exact Below.refl _ _ | with_reducible refine Below.drew ?_ | with_reducible refine Below.drewN ?_ _ | with_reducible refine Below.alloc' ?_ _ | with_reducible refine Below.setCell ?_ (by first | exact Nat.le_refl _ | (simp; done) | (simp; omega)) _ | with_reducible refine Below.after ?_ ‹_›)⟩
theorem valid_is {a b t : Int} {r : Bool} (h : vwB (a, b) t = r) (w : World) :
    Calls Tryd.prog 37 #[.agg #[.int .i64 a, .int .i64 b], .int .i64 t] w fun e w' => e = .returned (.bool r) ∧ Below w.heap.size w w' := by
  have := valid_any a b t w
  rwa [h] at this

set_option maxHeartbeats 1000000 in
theorem contains_any (a b t : Int) (w : World) :
    Calls Tryd.prog 44 #[.agg #[.int .i64 a, .int .i64 b], .int .i64 t] w fun e w' => e = .returned (.bool (conB (a, b) t)) ∧ Below w.heap.size w w' := by
  by_cases h1 : a ≤ t
  · by_cases h : t < b
    · have H := Lib.hid (show conB (a, b) t = true by simp [conB, *])
      go_enter Tryd.func44, Tryd.ntmps44
      go_wp2
      go_ret
      exact ⟨by rw [H.out]; rfl, by (repeat' first | exact Below.refl _ _ | with_reducible refine Below.drew ?_ | with_reducible refine Below.drewN ?_ _ | with_reducible refine Below.alloc' ?_ _ | with_reducible refine Below.setCell ?_ (by first | exact Nat.le_refl _ | (simp; done) | (simp; omega)) _ | with_reducible refine Below.after ?_ ‹_›)⟩
    · have H := Lib.hid (show conB (a, b) t = false by simp [conB, *])
      go_enter Tryd.func44, Tryd.ntmps44
      go_wp2
      go_ret
      exact ⟨by rw [H.out]; rfl, by (repeat' first | exact Below.refl _ _ | with_reducible refine Below.drew ?_ | with_reducible refine Below.drewN ?_ _ | with_reducible refine Below.alloc' ?_ _ | with_reducible refine Below.setCell ?_ (by first | exact Nat.le_refl _ | (simp; done) | (simp; omega)) _ | with_reducible refine Below.after ?_ ‹_›)⟩
  · have H := Lib.hid (show conB (a, b) t = false by simp [conB, *])
    go_enter Tryd.func44, Tryd.ntmps44
    go_wp2
    go_ret
    exact ⟨by rw [H.out]; rfl, by (repeat' first | exact Below.refl _ _ | with_reducible refine Below.drew ?_ | with_reducible refine Below.drewN ?_ _ | with_reducible refine Below.alloc' ?_ _ | with_reducible refine Below.setCell ?_ (by first | exact Nat.le_refl _ | (simp; done) | (simp; omega)) _ | with_reducible refine Below.after ?_ ‹_›)⟩
theorem contains_is {a b t : Int} {r : Bool} (h : conB (a, b) t = r) (w : World) :
    Calls Tryd.prog 44 #[.agg #[.int .i64 a, .int .i64 b], .int .i64 t] w fun e w' => e = .returned (.bool r) ∧ Below w.heap.size w w' := by
  have := contains_any a b t w
  rwa [h] at this

theorem ins_step (l : List (Int × Int)) (t : Int) (k : Nat) (hk : k < l.length) : insB (l.take (k + 1)) t = (insB (l.take k) t || conB (l[k]?.getD (0, 0)) t) := ins_take_succ l t k hk
theorem ins_hit (l : List (Int × Int)) (t : Int) (k : Nat) (hk : k < l.length) (h : conB (l[k]?.getD (0, 0)) t = true) : insB l t = true := by
  have h' : (l[k]?.getD (0, 0)).1 ≤ t ∧ t < (l[k]?.getD (0, 0)).2 := by simpa [conB] using h
  exact ins_of l t k hk h'.1 h'.2

set_option maxHeartbeats 1000000 in
theorem inside_any (a : Option Addr) (l : List (Int × Int)) (n cap : Nat) (t : Int) (w : World) (hn : l.length = n) (hb : n ≤ 1000000) (hl : Pairs w a l) :
    Calls Tryd.prog 24 #[.slice a n cap, .int .i64 t] w fun e w' => e = .returned (.bool (insB l t)) ∧ Below w.heap.size w w' := by
  have Hn := Lib.hid hn
  clear hn
  go_enter Tryd.func24, Tryd.ntmps24
  go_wp2
  go_loopw [6, 9] (fun _ i wr => ∃ k : Nat, k ≤ n ∧ i = .int .i64 k ∧ Hid (insB (l.take k) t = false) ∧ Below w.heap.size w wr) (fun _ i _ => n - (intOf i).toNat)
  case atStart => exact ⟨0, Nat.zero_le _, rfl, rfl, Below.refl _ _⟩
  case round =>
    obtain ⟨k, hk, rfl, Hall, hbr⟩ := hrel
    by_cases hlt : k < n
    · obtain ⟨b, off, rfl, hc⟩ := (hl.kept hbr).at_ (k := k) (by rw [Hn.out]; exact hlt)
      obtain ⟨hc0, hc1⟩ := hc
      have Hlt := Lib.hid (show k < l.length by rw [Hn.out]; exact hlt)
      have Hs := Lib.hid (ins_step l t k Hlt.out)
      have Hh := Lib.hid (ins_hit l t k Hlt.out)
      obtain ⟨⟨x, y⟩, hz⟩ : ∃ z, l[k]?.getD (0, 0) = z := ⟨_, rfl⟩
      rw [hz] at hc0 hc1 Hs Hh
      simp only [] at hc0 hc1
      clear hz
      cases hc : conB (x, y) t
      · have E := Lib.hid (show insB (l.take (k + 1)) t = false by rw [Hs.out, Hall.out, hc]; rfl)
        have Hc := Lib.hid hc
        clear hc
        go_wp2_with fail
        refine (contains_is Hc.out _).mono ?_
        rintro e w1 ⟨rfl, hb1⟩
        have hbx : Below w.heap.size w w1 := hbr.trans (Below.mono (w := wr) (by (repeat' first | with_reducible assumption | exact Below.refl _ _ | with_reducible refine Below.drew ?_ | with_reducible refine Below.drewN ?_ _ | with_reducible refine Below.alloc' ?_ _ | with_reducible refine Below.setCell ?_ (by first | exact Nat.le_refl _ | omega | (simp; done) | (simp; omega)) _ | with_reducible refine Below.after ?_ ‹_›)) hbr.size)
        go_wp2
        go_roundw
        case rel => exact ⟨k + 1, by omega, by go_num, E.out, hbx⟩
        case measure => simp [intOf]; omega
      · have E := Lib.hid (Hh.out hc)
        have Hc := Lib.hid hc
        clear hc
        go_wp2_with fail
        refine (contains_is Hc.out _).mono ?_
        rintro e w1 ⟨rfl, hb1⟩
        have hbx : Below w.heap.size w w1 := hbr.trans (Below.mono (w := wr) (by (repeat' first | with_reducible assumption | exact Below.refl _ _ | with_reducible refine Below.drew ?_ | with_reducible refine Below.drewN ?_ _ | with_reducible refine Below.alloc' ?_ _ | with_reducible refine Below.setCell ?_ (by first | exact Nat.le_refl _ | omega | (simp; done) | (simp; omega)) _ | with_reducible refine Below.after ?_ ‹_›)) hbr.size)
        go_wp2
        go_ret
        exact ⟨by rw [E.out]; rfl, hbx⟩
    · go_wp2
      go_ret
      have h1 := Hall.out
      rw [show k = l.length by rw [Hn.out]; omega, List.take_length] at h1
      exact ⟨by rw [h1]; rfl, hbr⟩

/-- a call that gives back one slice of its own -/
def GivesOne (w : World) (r : List (Int × Int)) (e : Ending) (w' : World) : Prop :=
  ∃ v, e = .returned v ∧ w'.ownsRow w.heap.size 40 2 v r.length (flat r) ∧ Below w.heap.size w w'

set_option maxRecDepth 100000 in
set_option maxHeartbeats 4000000 in
theorem joinSorted_any (a : Option Addr) (l : List (Int × Int)) (n cap : Nat) (w : World) (hn : l.length = n) (hb : n ≤ 800000) (hl : Pairs w a l) :
    Calls Tryd.prog 41 #[.slice a n cap] w (GivesOne w (l.foldl joinR []).reverse) := by
  have Hn := Lib.hid hn
  clear hn
  go_enter Tryd.func41, Tryd.ntmps41
  go_wp2
  go_loopw [3, 5, 6, 9] (fun v _ _ i wx => ∃ (j : Nat) (acc : List (Int × Int)), j ≤ n ∧ i = .int .i64 j ∧ Hid (acc = (l.take j).foldl joinR []) ∧ Below w.heap.size w wx ∧ wx.ownsRow w.heap.size 40 2 v acc.length (flat acc.reverse)) (fun _ _ _ i _ => n - (intOf i).toNat)
  case atStart => exact ⟨0, [], Nat.zero_le _, rfl, rfl, Below.refl _ _, World.ownsRow_nil _ _ _ _⟩
  case round =>
    obtain ⟨j, acc, hj, rfl, Hacc, hbx, hown2⟩ := hrel
    by_cases hlt2 : j < n
    · obtain ⟨b, off, rfl, hc⟩ := (hl.kept hbx).at_ (k := j) (by rw [Hn.out]; exact hlt2)
      obtain ⟨hc0, hc1⟩ := hc
      have Hs := Lib.hid (fold_take joinR [] l j (by rw [Hn.out]; exact hlt2))
      have hal : acc.length ≤ j := by
        rw [Hacc.out]
        have := join_all_length (l.take j) []
        rw [List.length_take] at this
        simp at this
        omega
      obtain ⟨⟨p, q⟩, hz⟩ : ∃ z, l[j]?.getD (0, 0) = z := ⟨_, rfl⟩
      rw [hz, ← Hacc.out] at Hs
      rw [hz] at hc0 hc1
      simp only [] at hc0 hc1
      clear hz
      have hsz := hbx.size
      cases acc with
      | nil =>
        simp only [List.length_nil, List.reverse_nil] at hown2
        obtain ⟨a5, c5, rfl, hl5, hp5⟩ := own_pairs hown2
        clear hl5 hp5
        go_wp2
        go_quiet (fail)
        go_wp2_with (at_builtin; refine wpList_append_pairs rfl (.tmp 40) (.tmp 42) Tryd.underlying33 info_window rfl w.heap.size _ 0 [] rfl (by first | exact own_drewN ((hown2.alloc _).alloc _) _ | exact (own_drewN (hown2.alloc _) _).alloc _) _ _ _ [(p, q)] rfl rfl (by first | exact Pairs_at _ _ _ _ (by simp) | exact pairs_drewN (Pairs_at _ _ _ _ (by simp)) _) (by simp) (by omega) (by have := hbx.size; simp; omega) ?_; intro v1 x1 o1 g1 _ _)
        have hby : Below w.heap.size w x1 := Below.grown (by (repeat' first | with_reducible assumption | exact Below.refl _ _ | with_reducible refine Below.drew ?_ | with_reducible refine Below.drewN ?_ _ | with_reducible refine Below.alloc' ?_ _ | with_reducible refine Below.setCell ?_ (by first | exact Nat.le_refl _ | omega | (simp; done) | (simp; omega)) _ | with_reducible refine Below.after ?_ ‹_›)) g1 (by simp; omega) (fun k hk => (hown2.lt k hk).1)
        go_wp2
        go_roundw
        case rel => exact ⟨j + 1, [(p, q)], by omega, by go_num, by unfold Hid; rw [Hs.out]; rfl, hby, o1⟩
        case measure => simp [intOf]; omega
      | cons z r =>
        obtain ⟨z1, z2⟩ := z
        simp only [List.length_cons, List.reverse_cons] at hown2 hal
        obtain ⟨m, hm⟩ : ∃ m, r.length = m := ⟨_, rfl⟩
        rw [hm] at hown2 hal
        have HM := Lib.hid hm
        clear hm
        obtain ⟨g, c5, rfl, hg1, hg2⟩ := hown2.form (by omega)
        have e0 := last_cell hown2 (by rw [List.length_reverse, HM.out])
        obtain ⟨e0, e1, f1⟩ := e0
        have m0 : (0 : Int) ≤ (m : Int) := by omega
        have m1 : (m : Int) < (m : Int) + 1 := by omega
        by_cases hp : p ≤ z2
        · have Hj := Lib.hid (show joinR ((z1, z2) :: r) (p, q) = (z1, max z2 q) :: r from if_pos hp)
          rcases Int.lt_or_le z2 q with hq | hq
          · rw [show max z2 q = q by omega] at Hj
            go_wp2
            go_quiet (fail)
            go_wp2_with fail
            refine region_tail 12 (by kernel_rfl) (by kernel_rfl) (fun W hW => ?_)
            have E1 : W.cell? ⟨g, m * 2 + 1, none⟩ = some (.int .i64 z2) := by rw [hW]; exact cellA e1
            have E2 : W.cell? ⟨wr.heap.size, 1, none⟩ = some (.int .i64 q) := by rw [hW]; show (wr.alloc _).cell? _ = _; simp [go_sem]
            have E3 : W.frozen? ⟨g, m * 2 + 1, none⟩ = false := by rw [hW]; exact frozA (v := .int .i64 z2) e1 f1
            have o1 : W.ownsRow w.heap.size 40 2 (.slice (some ⟨g, 0, none⟩) (m + 1) c5) (m + 1) (flat (r.reverse ++ [(z1, z2)])) := by rw [hW]; exact hown2.alloc _
            have hbW : Below w.heap.size w W := by rw [hW]; exact (((hbx.alloc' _).drewN _).drew)
            have o2 := (o1.stored (m * 2 + 1) (.int .i64 q)).1
            rw [show m * 2 + 1 = r.reverse.length * 2 + 1 by rw [List.length_reverse, HM.out], flat_set, show r.reverse.length * 2 + 1 = m * 2 + 1 by rw [List.length_reverse, HM.out]] at o2
            clear hW o1 e0 e1 f1 hc0 hc1
            simp only [List.take_succ_cons, List.take_zero, List.drop_succ_cons, List.drop_zero]
            repeat still_step
            refine wpStill_nil ?_
            go_wp2
            go_roundw
            case rel => exact ⟨j + 1, (z1, q) :: r, by omega, by go_num, by unfold Hid; rw [Hs.out, Hj.out], hbW.setCell hg1 _, by simp only [List.length_cons, List.reverse_cons]; rw [HM.out]; exact o2⟩
            case measure => simp [intOf]; omega
          · rw [show max z2 q = z2 by omega] at Hj
            go_wp2
            go_quiet (fail)
            go_wp2_with fail
            refine region_tail 12 (by kernel_rfl) (by kernel_rfl) (fun W hW => ?_)
            have E1 : W.cell? ⟨g, m * 2 + 1, none⟩ = some (.int .i64 z2) := by rw [hW]; exact cellA e1
            have E2 : W.cell? ⟨wr.heap.size, 1, none⟩ = some (.int .i64 q) := by rw [hW]; show (wr.alloc _).cell? _ = _; simp [go_sem]
            have E3 : W.frozen? ⟨g, m * 2 + 1, none⟩ = false := by rw [hW]; exact frozA (v := .int .i64 z2) e1 f1
            have o1 : W.ownsRow w.heap.size 40 2 (.slice (some ⟨g, 0, none⟩) (m + 1) c5) (m + 1) (flat (r.reverse ++ [(z1, z2)])) := by rw [hW]; exact hown2.alloc _
            have hbW : Below w.heap.size w W := by rw [hW]; exact (((hbx.alloc' _).drewN _).drew)
            have o2 := (o1.stored (m * 2 + 1) (.int .i64 z2)).1
            rw [show m * 2 + 1 = r.reverse.length * 2 + 1 by rw [List.length_reverse, HM.out], flat_set, show r.reverse.length * 2 + 1 = m * 2 + 1 by rw [List.length_reverse, HM.out]] at o2
            clear hW o1 e0 e1 f1 hc0 hc1
            simp only [List.take_succ_cons, List.take_zero, List.drop_succ_cons, List.drop_zero]
            repeat still_step
            refine wpStill_nil ?_
            go_wp2
            go_roundw
            case rel => exact ⟨j + 1, (z1, z2) :: r, by omega, by go_num, by unfold Hid; rw [Hs.out, Hj.out], hbW.setCell hg1 _, by simp only [List.length_cons, List.reverse_cons]; rw [HM.out]; exact o2⟩
            case measure => simp [intOf]; omega
        · have hp' : decide (p ≤ z2) = false := by simpa using hp
          have Hj := Lib.hid (show joinR ((z1, z2) :: r) (p, q) = (p, q) :: (z1, z2) :: r from if_neg hp)
          clear hp
          go_wp2
          go_quiet (fail)
          go_wp2_with (at_builtin; refine wpList_append_pairs rfl (.tmp 40) (.tmp 42) Tryd.underlying33 info_window rfl w.heap.size _ (m + 1) (r.reverse ++ [(z1, z2)]) rfl (by first | exact own_drewN ((hown2.alloc _).alloc _) _ | exact (own_drewN (hown2.alloc _) _).alloc _) _ _ _ [(p, q)] rfl rfl (by first | exact Pairs_at _ _ _ _ (by simp) | exact pairs_drewN (Pairs_at _ _ _ _ (by simp)) _) (by simp) (by omega) (by have := hbx.size; simp; omega) ?_; intro v1 x1 o1 g1 _ _)
          have hby : Below w.heap.size w x1 := Below.grown (by (repeat' first | with_reducible assumption | exact Below.refl _ _ | with_reducible refine Below.drew ?_ | with_reducible refine Below.drewN ?_ _ | with_reducible refine Below.alloc' ?_ _ | with_reducible refine Below.setCell ?_ (by first | exact Nat.le_refl _ | omega | (simp; done) | (simp; omega)) _ | with_reducible refine Below.after ?_ ‹_›)) g1 (by simp; omega) (fun k hk => (hown2.lt k hk).1)
          go_wp2
          go_roundw
          case rel => exact ⟨j + 1, (p, q) :: (z1, z2) :: r, by omega, by go_num, by unfold Hid; rw [Hs.out, Hj.out], hby, by simp only [List.length_cons, List.reverse_cons]; rw [HM.out]; exact o1⟩
          case measure => simp [intOf]; omega
    · have hj' : j = l.length := by rw [Hn.out]; omega
      have ha := Hacc.out
      rw [hj', List.take_length] at ha
      have HA := Lib.hid ha
      clear ha hj'
      go_wp2
      go_ret
      refine ⟨_, rfl, ?_, hbx⟩
      rw [← HA.out, List.length_reverse]
      exact hown2
end Go.Proofs.YtjmbbhhfbdjbdaaDoor
