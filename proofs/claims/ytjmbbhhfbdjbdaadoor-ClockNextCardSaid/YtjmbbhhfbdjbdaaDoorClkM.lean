/-
  Walks over package clock: the comparison, the library's sort at windows, Merge.
-/
import Derived.Test.YtjmbbhhfbdjbdaaDoorClkV
import Derived.Test.YtjmbbhhfbdjbdaaDoorClkPlain6
import Derived.Test.YtjmbbhhfbdjbdaaDoorShelf
import Derived.Shelf.SlSortCmp.NoneTotal
namespace Go.Proofs.YtjmbbhhfbdjbdaaDoor
open Go.RowKit

/-- the cells of a window -/
def encW (x : Int × Int) : List Value := [.int .i64 x.1, .int .i64 x.2]

set_option maxHeartbeats 1000000 in
theorem compare_any (x y : Int) (w : World) :
    Calls Tryd.prog 40 #[.int .i64 x, .int .i64 y] w fun e w' => e = .returned (.int .i64 (Lib.compareInt x y)) ∧ w' = w := by
  rcases Int.lt_trichotomy x y with h | h | h
  · have E := Lib.hid (show Lib.compareInt x y = -1 by unfold Lib.compareInt; rw [if_pos h])
    go_enter Tryd.func40, Tryd.ntmps40
    go_wp2
    go_ret
    exact ⟨by rw [E.out]; rfl, rfl⟩
  · subst h
    have E := Lib.hid (show Lib.compareInt x x = 0 by unfold Lib.compareInt; rw [if_neg (by omega), if_neg (by omega)])
    have h1 : ¬ x < x := by omega
    go_enter Tryd.func40, Tryd.ntmps40
    go_wp2
    go_ret
    exact ⟨by rw [E.out]; rfl, rfl⟩
  · have E := Lib.hid (show Lib.compareInt x y = 1 by unfold Lib.compareInt; rw [if_neg (by omega), if_pos h])
    have h1 : ¬ x < y := by omega
    go_enter Tryd.func40, Tryd.ntmps40
    go_wp2
    go_ret
    exact ⟨by rw [E.out]; rfl, rfl⟩

set_option maxHeartbeats 1000000 in
theorem closure_any (x y : Int × Int) (W : World) :
    Calls Tryd.prog 39 #[.agg #[.int .i64 x.1, .int .i64 x.2], .agg #[.int .i64 y.1, .int .i64 y.2]] W fun e w' => e = .returned (.int .i64 (Lib.compareInt x.1 y.1)) ∧ ∃ q os', w' = Sort.grow (W.drewN q) os' := by
  have hcon := fun W' => compare_any x.1 y.1 W'
  generalize Lib.compareInt x.1 y.1 = r at hcon ⊢
  go_enter Tryd.func39, Tryd.ntmps39
  go_wp2_with (go_at_call 40; refine (hcon _).mono ?_; rintro e w' ⟨rfl, rfl⟩)
  go_ret
  exact ⟨rfl, 0, _, by rw [Sort.alloc_eq_grow, Sort.alloc_eq_grow, Sort.grow_grow]; rfl⟩

theorem cmpLays (blk off size : Nat) (w : World) : CmpLays Tryd.prog 39 #[] encW 2 (fun x y => Lib.compareInt x.1 y.1) blk off size w :=
  fun _ _ _ _ x y => closure_any x y _
theorem ltFrom (x y : Int × Int) : ltOf (fun x y : Int × Int => Lib.compareInt x.1 y.1) x y = decide (x.1 < y.1) := by
  unfold ltOf Lib.compareInt
  by_cases h1 : x.1 < y.1
  · simp [h1]
  · by_cases h2 : y.1 < x.1 <;> simp [h1, h2]
theorem swoFrom : Sort.SWO (ltOf fun x y : Int × Int => Lib.compareInt x.1 y.1) where
  irrefl x := by rw [ltFrom]; simp
  trans x y z h1 h2 := by rw [ltFrom] at *; simp at *; omega
  ntrans x y z h1 h2 := by rw [ltFrom] at *; simp at *; omega

theorem holds_own {w : World} {base : Nat} {e : TypeId} {g n cap : Nat} {xs : List (Int × Int)} (h : w.ownsRow base e 2 (.slice (some ⟨g, 0, none⟩) n cap) n (flat xs)) (hl : xs.length = n) : Sort.HoldsK encW 2 w g 0 xs.toArray := by
  intro j hj
  rw [Sort.size_flatK] at hj
  have hj' : j < xs.length * 2 := by simpa using hj
  rw [Nat.zero_add]
  refine ⟨?_, h.frozenAt _⟩
  rw [h.cellAt j (by omega), Sort.get_flatK _ _ _ _ hj]
  have hk : j / 2 < xs.length := by omega
  have hf := flat_at xs (j / 2) hk
  have hb : (xs.toArray)[j / 2]! = xs[j / 2]?.getD (0, 0) := get_bang (by simpa using hk)
  rw [hb]
  rcases Nat.mod_two_eq_zero_or_one j with hm | hm
  · rw [hm]
    have := hf.1
    rw [show j / 2 * 2 = j by omega] at this
    exact this
  · rw [hm]
    have := hf.2
    rw [show j / 2 * 2 + 1 = j by omega] at this
    exact this
theorem pairs_holds {w : World} {g : Nat} {d : Array (Int × Int)} (h : Sort.HoldsK encW 2 w g 0 d) : Pairs w (some ⟨g, 0, none⟩) d.toList := by
  intro _
  refine ⟨g, 0, rfl, fun k hk => ?_⟩
  have hk' : k < d.size := by simpa using hk
  have h0 := (Sort.HoldsK.cell h hk' (c := 0) (by omega)).1
  have h1 := (Sort.HoldsK.cell h hk' (c := 1) (by omega)).1
  rw [get_bang hk'] at h0 h1
  exact ⟨h0, h1⟩
theorem below_sort (base : Nat) (w : World) (blk n : Nat) (d : Array (Int × Int)) (os : Array Obj) (h1 : base ≤ blk) (h2 : blk < w.heap.size) : Below base w (sortWorldK encW 2 w blk 0 n d os) := by
  refine ⟨rfl, rfl, rfl, ?_, ?_⟩
  · show w.heap.size ≤ ((w.heap.modify blk _) ++ os).size
    simp
  · intro k hk
    show ((w.heap.modify blk _) ++ os)[k]? = w.heap[k]?
    rw [Array.getElem?_append_left (by simp; omega), Array.getElem?_modify, if_neg (by omega)]

set_option maxHeartbeats 1000000 in
theorem sort_any (a : Option Addr) (xs : List (Int × Int)) (n cap base : Nat) (w : World) (hn : xs.length = n) (hb : n ≤ 1000000) (hown : w.ownsRow base 40 2 (.slice a n cap) n (flat xs)) :
    Calls Tryd.prog 38 #[.slice a n cap, .func (.func 39) #[] #[]] w fun e w' => e = .returned (.tuple #[]) ∧ ∃ ys, Hid (ys.Perm xs ∧ ascend ys) ∧ ys.length = n ∧ Pairs w' a ys ∧ Below base w w' := by
  by_cases h0 : n = 0
  · subst h0
    have hx : xs = [] := List.length_eq_zero_iff.1 hn
    subst hx
    refine (AnyF.slices_SortFunc_none { Tryd.laysSort with } a cap _ w).mono ?_
    rintro e w' ⟨rfl, rfl⟩
    exact ⟨rfl, [], ⟨List.Perm.refl _, trivial⟩, rfl, fun h => absurd rfl h, Below.refl _ _⟩
  · obtain ⟨g, c5, e, hg1, hg2⟩ := hown.form (by omega)
    obtain ⟨rfl, -, rfl⟩ : a = some ⟨g, 0, none⟩ ∧ n = n ∧ cap = c5 := by simpa using e
    have eg : ∀ args w, (callFunc 39 args).run Tryd.prog w = .ok (.enter 39 args) w := enters_of Tryd.func39 (by kernel_rfl) rfl
    have hcon := AnyQ.slices_SortFunc Tryd.laysSort 2 Tryd.isAgg40 Tryd.sizeOf40 encW (fun _ => rfl) (fun x v hv => by simp [encW] at hv; rcases hv with rfl | rfl <;> rfl) (fun x y => Lib.compareInt x.1 y.1) swoFrom 39 #[] g 0 cap xs.toArray w eg (cmpLays g 0 _ w) (holds_own hown hn) hg2 (by simp; omega)
    rw [show xs.toArray.size = n by simpa using hn] at hcon
    refine hcon.mono ?_
    rintro e w' ⟨rfl, d', m, os, hp, hs, rfl⟩
    rw [show n = xs.toArray.size by simpa using hn.symm] at hp hs
    have hsz : d'.size = xs.toArray.size := hp.1
    have hr := sorted_list (fun x y h => by rw [ltFrom] at h; simpa using h) hp hs
    refine ⟨rfl, d'.toList, ⟨by simpa using hr.1, hr.2⟩, by rw [Array.length_toList, hsz]; simpa using hn, pairs_holds ?_, below_sort base w g m d' os hg1 hg2⟩
    exact holdsK_sortWorldK encW 2 w g 0 m xs.toArray d' os hg2 (holds_own hown hn) hsz

set_option maxRecDepth 100000 in
set_option maxHeartbeats 4000000 in
theorem merge_any (a : Option Addr) (l : List (Int × Int)) (n cap : Nat) (w : World) (hn : l.length = n) (hb : n ≤ 800000) (hl : Pairs w a l) :
    Calls Tryd.prog 21 #[.slice a n cap] w (GivesTwo w (mrg l)) := by
  have Hn := Lib.hid hn
  clear hn
  go_enter Tryd.func21, Tryd.ntmps21
  go_wp2
  go_loopw [4, 6, 9] (fun v _ i wr => ∃ (k : Nat) (xs : List (Int × Int)), k ≤ n ∧ i = .int .i64 k ∧ Hid ((l.take k).all wB = true) ∧ Hid (xs = fullW (l.take k)) ∧ Below w.heap.size w wr ∧ wr.ownsRow w.heap.size 40 2 v xs.length (flat xs)) (fun _ _ i _ => n - (intOf i).toNat)
  case atStart => exact ⟨0, [], Nat.zero_le _, rfl, rfl, rfl, Below.refl _ _, World.ownsRow_nil _ _ _ _⟩
  case round =>
    obtain ⟨k, xs, hk, rfl, Hall, Hx, hbr, hown⟩ := hrel
    have hxl : xs.length ≤ k := by
      rw [Hx.out]
      have := full_length (l.take k)
      rw [List.length_take] at this
      omega
    by_cases hlt : k < n
    · obtain ⟨a4, c4, rfl, hl4, hp4⟩ := own_pairs hown
      clear hl4
      obtain ⟨b, off, rfl, hc⟩ := (hl.kept hbr).at_ (k := k) (by rw [Hn.out]; exact hlt)
      obtain ⟨hc0, hc1⟩ := hc
      have Hlt := Lib.hid (show k < l.length by rw [Hn.out]; exact hlt)
      have Hs := Lib.hid (full_take l k Hlt.out)
      have Ha := Lib.hid (all_take_succ l k Hlt.out)
      have Hno := Lib.hid (all_not l k Hlt.out)
      obtain ⟨⟨p, q⟩, hz⟩ : ∃ z, l[k]?.getD (0, 0) = z := ⟨_, rfl⟩
      rw [hz] at hc0 hc1 Hs Ha Hno
      simp only [] at hc0 hc1
      clear hz
      cases hv : wB (p, q)
      · have E := Lib.hid (show mrg l = ([], 1) by unfold mrg; rw [Hno.out hv]; rfl)
        have Hv := Lib.hid hv
        clear hv
        go_wp2_with fail
        refine (valid_is (t := 3155760000) ((vwB_w (p, q)).trans Hv.out) _).mono ?_
        rintro e w1 ⟨rfl, hb1⟩
        go_wp2
        go_ret2
        refine ⟨_, by rw [E.out]; rfl, by rw [E.out]; exact World.ownsRow_nil _ _ _ _, hbr.trans (Below.mono (w := wr) (by (repeat' first | with_reducible assumption | exact Below.refl _ _ | with_reducible refine Below.drew ?_ | with_reducible refine Below.drewN ?_ _ | with_reducible refine Below.alloc' ?_ _ | with_reducible refine Below.setCell ?_ (by first | exact Nat.le_refl _ | omega | (simp; done) | (simp; omega)) _ | with_reducible refine Below.after ?_ ‹_›)) hbr.size)⟩
      · have Ha1 := Lib.hid (show (l.take (k + 1)).all wB = true by rw [Ha.out, Hall.out, hv]; rfl)
        have Hv := Lib.hid hv
        clear hv
        by_cases hpq : p < q
        · have Hx1 := Lib.hid (show xs ++ [(p, q)] = fullW (l.take (k + 1)) by rw [Hs.out, if_pos hpq, ← Hx.out])
          go_wp2_with fail
          refine (valid_is (t := 3155760000) ((vwB_w (p, q)).trans Hv.out) _).mono ?_
          rintro e w1 ⟨rfl, hb1⟩
          have q1 := kept hb1 (p := ⟨wr.heap.size, 0, none⟩) (v := .int .i64 p) (by first | ((repeat' first | with_reducible assumption | with_reducible refine cellA ?_ | with_reducible refine cellD ?_); done) | (simp [go_sem]; done) | (simp [go_sem, *]; done))
          have y1 := World.block_lt_of_cell? _ _ q1
          simp only [] at y1
          have q2 := kept hb1 (p := ⟨wr.heap.size, 1, none⟩) (v := .int .i64 q) (by first | ((repeat' first | with_reducible assumption | with_reducible refine cellA ?_ | with_reducible refine cellD ?_); done) | (simp [go_sem]; done) | (simp [go_sem, *]; done))
          have hbx : Below w.heap.size w w1 := hbr.trans (Below.mono (w := wr) (by (repeat' first | with_reducible assumption | exact Below.refl _ _ | with_reducible refine Below.drew ?_ | with_reducible refine Below.drewN ?_ _ | with_reducible refine Below.alloc' ?_ _ | with_reducible refine Below.setCell ?_ (by first | exact Nat.le_refl _ | omega | (simp; done) | (simp; omega)) _ | with_reducible refine Below.after ?_ ‹_›)) hbr.size)
          have ho1 := own_below (hown.alloc (.cells #[.int .i64 p, .int .i64 q] 40)) hb1
          go_wp2_with (at_builtin; refine wpList_append_pairs rfl (.tmp 21) (.tmp 23) Tryd.underlying33 info_window rfl w.heap.size _ _ xs rfl (ho1.alloc _) _ _ _ [(p, q)] rfl rfl (Pairs_at _ _ _ _ (by simp)) (by simp) (by omega) (by have := hbx.size; simp; omega) ?_; intro v1 x1 o1 g1 _ _)
          have hby : Below w.heap.size w x1 := Below.grown (by (repeat' first | with_reducible assumption | exact Below.refl _ _ | with_reducible refine Below.drew ?_ | with_reducible refine Below.drewN ?_ _ | with_reducible refine Below.alloc' ?_ _ | with_reducible refine Below.setCell ?_ (by first | exact Nat.le_refl _ | omega | (simp; done) | (simp; omega)) _ | with_reducible refine Below.after ?_ ‹_›)) g1 (by have := hbx.size; simp; omega) (fun k hk => (ho1.lt k hk).1)
          go_wp2
          go_roundw
          case rel => exact ⟨k + 1, xs ++ [(p, q)], by omega, by go_num, Ha1.out, Hx1.out, hby, by rw [List.length_append]; exact o1⟩
          case measure => simp [intOf]; omega
        · have Hx1 := Lib.hid (show xs = fullW (l.take (k + 1)) by rw [Hs.out, if_neg hpq, ← Hx.out, List.append_nil])
          have hpq' : decide (p < q) = false := by simpa using hpq
          clear hpq
          go_wp2_with fail
          refine (valid_is (t := 3155760000) ((vwB_w (p, q)).trans Hv.out) _).mono ?_
          rintro e w1 ⟨rfl, hb1⟩
          have q3 := kept hb1 (p := ⟨wr.heap.size, 0, none⟩) (v := .int .i64 p) (by first | ((repeat' first | with_reducible assumption | with_reducible refine cellA ?_ | with_reducible refine cellD ?_); done) | (simp [go_sem]; done) | (simp [go_sem, *]; done))
          have y3 := World.block_lt_of_cell? _ _ q3
          simp only [] at y3
          have q4 := kept hb1 (p := ⟨wr.heap.size, 1, none⟩) (v := .int .i64 q) (by first | ((repeat' first | with_reducible assumption | with_reducible refine cellA ?_ | with_reducible refine cellD ?_); done) | (simp [go_sem]; done) | (simp [go_sem, *]; done))
          have hbx : Below w.heap.size w w1 := hbr.trans (Below.mono (w := wr) (by (repeat' first | with_reducible assumption | exact Below.refl _ _ | with_reducible refine Below.drew ?_ | with_reducible refine Below.drewN ?_ _ | with_reducible refine Below.alloc' ?_ _ | with_reducible refine Below.setCell ?_ (by first | exact Nat.le_refl _ | omega | (simp; done) | (simp; omega)) _ | with_reducible refine Below.after ?_ ‹_›)) hbr.size)
          have ho1 := own_below (hown.alloc (.cells #[.int .i64 p, .int .i64 q] 40)) hb1
          go_wp2
          go_roundw
          case rel => exact ⟨k + 1, xs, by omega, by go_num, Ha1.out, Hx1.out, hbx, ho1⟩
          case measure => simp [intOf]; omega
    · have hk' : k = l.length := by rw [Hn.out]; omega
      have hall := Hall.out
      have hx := Hx.out
      rw [hk', List.take_length] at hall hx
      have E := Lib.hid (show mrg l = (unite l, 0) by unfold mrg; rw [hall]; rfl)
      have HX := Lib.hid hx
      clear hall hx hk' Hall Hx
      obtain ⟨m, hm⟩ : ∃ m, xs.length = m := ⟨_, rfl⟩
      rw [hm] at hown hxl
      have HM := Lib.hid hm
      clear hm
      obtain ⟨a4, c4, rfl, _, _⟩ := own_pairs hown
      go_wp2_with fail
      refine (sort_any a4 xs m c4 w.heap.size _ HM.out (by omega) hown).mono ?_
      rintro e w1 ⟨rfl, ys, Hy, hyl, hp1, hb1⟩
      have HY := Lib.hid (show (ys.foldl joinR []).reverse = unite l from sorted_unite (by rw [← HX.out]; exact Hy.out.1) Hy.out.2)
      have hbx : Below w.heap.size w w1 := hbr.trans hb1
      have Hyl := Lib.hid hyl
      clear hyl
      go_wp2_with fail
      refine (joinSorted_any a4 ys m c4 _ Hyl.out (by omega) hp1).mono ?_
      rintro e w2 ⟨v2, rfl, o2, hb2⟩
      rw [HY.out] at o2
      go_wp2
      go_ret2
      refine ⟨v2, by rw [E.out]; rfl, by rw [E.out]; exact own_base o2 hbx.size, hbx.trans (hb2.mono hbx.size)⟩
end Go.Proofs.YtjmbbhhfbdjbdaaDoor
