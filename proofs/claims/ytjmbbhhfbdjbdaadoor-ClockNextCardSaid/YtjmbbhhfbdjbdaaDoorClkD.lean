/-
  Walks over the reference of package clock: Common.
-/
import Derived.Test.YtjmbbhhfbdjbdaaDoorClkC
import Derived.Test.YtjmbbhhfbdjbdaaDoorClkPlain2
namespace Go.Proofs.YtjmbbhhfbdjbdaaDoor
open Go.RowKit

theorem unite_length (l : List (Int × Int)) : (unite l).length ≤ l.length := by
  unfold unite
  rw [List.length_reverse, sortS_fold]
  have h1 := join_all_length (l.foldl sortStep []) []
  have h2 := sort_length l []
  simp at h1 h2
  omega
theorem rMerge_is {l : List (Int × Int)} {r : List (Int × Int)} {e : Int} (h : mrg l = (r, e)) (a : Option Addr) (n cap : Nat) (w : World) (hn : l.length = n) (hb : n ≤ 800000) (hl : Pairs w a l) :
    Calls Tryd.prog 22 #[.slice a n cap] w fun s w' => ∃ b c, s = .returned (.tuple #[.slice b r.length c, .int .i64 e]) ∧ w'.ownsRow w.heap.size 40 2 (.slice b r.length c) r.length (flat r) ∧ Pairs w' b r ∧ Below w.heap.size w w' := by
  refine (rMerge_any a l n cap w hn hb hl).mono ?_
  rintro s w' ⟨v, hs, ho, hb⟩
  rw [h] at hs ho
  obtain ⟨b, c, rfl, _, hp⟩ := own_pairs ho
  exact ⟨b, c, hs, ho, hp, hb⟩

set_option maxRecDepth 100000 in
set_option maxHeartbeats 8000000 in
theorem rCommon_any (a b : Option Addr) (l m : List (Int × Int)) (n n' cap cap' : Nat) (w : World) (hn : l.length = n) (hn' : m.length = n') (hb : n ≤ 900) (hb' : n' ≤ 900) (hl : Pairs w a l) (hm : Pairs w b m) :
    Calls Tryd.prog 27 #[.slice a n cap, .slice b n' cap'] w (GivesTwo w (comS l m)) := by
  have Hn := Lib.hid hn
  have Hn' := Lib.hid hn'
  cases h1 : l.all wB
  · have E := Lib.hid (show comS l m = ([], 1) by unfold comS; rw [h1]; rfl)
    have M1 := Lib.hid (show mrg l = ([], 1) by unfold mrg; rw [h1]; rfl)
    clear hn hn' h1
    go_enter Tryd.func27, Tryd.ntmps27
    go_wp2_with fail
    refine (rMerge_is M1.out _ _ _ _ Hn.out (by omega) hl).mono ?_
    rintro e w1 ⟨a1, c1, rfl, _, _, hb1⟩
    go_wp2
    go_ret2
    exact ⟨_, by rw [E.out]; rfl, by rw [E.out]; exact World.ownsRow_nil _ _ _ _, hb1⟩
  · have M1 := Lib.hid (show mrg l = (unite l, 0) by unfold mrg; rw [h1]; rfl)
    cases h2 : m.all wB
    · have E := Lib.hid (show comS l m = ([], 1) by unfold comS; rw [h1, h2]; rfl)
      have M2 := Lib.hid (show mrg m = ([], 1) by unfold mrg; rw [h2]; rfl)
      clear hn hn' h1 h2
      go_enter Tryd.func27, Tryd.ntmps27
      go_wp2_with fail
      refine (rMerge_is M1.out _ _ _ _ Hn.out (by omega) hl).mono ?_
      rintro e w1 ⟨a1, c1, rfl, _, _, hb1⟩
      go_wp2_with fail
      refine (rMerge_is M2.out _ _ _ _ Hn'.out (by omega) (hm.kept hb1)).mono ?_
      rintro e w2 ⟨a2, c2, rfl, _, _, hb2⟩
      go_wp2
      go_ret2
      exact ⟨_, by rw [E.out]; rfl, by rw [E.out]; exact World.ownsRow_nil _ _ _ _, by (repeat' first | with_reducible assumption | exact Below.refl _ _ | with_reducible refine Below.drew ?_ | with_reducible refine Below.drewN ?_ _ | with_reducible refine Below.alloc' ?_ _ | with_reducible refine Below.setCell ?_ (by first | exact Nat.le_refl _ | omega | (simp; done) | (simp; omega)) _ | with_reducible refine Below.after ?_ ‹_›)⟩
    · have E := Lib.hid (show comS l m = (inter (unite l) (unite m), 0) by unfold comS; rw [h1, h2]; rfl)
      have M2 := Lib.hid (show mrg m = (unite m, 0) by unfold mrg; rw [h2]; rfl)
      have b1 : (unite l).length ≤ 900 := by have := unite_length l; omega
      have b2 : (unite m).length ≤ 900 := by have := unite_length m; omega
      clear hn hn' h1 h2
      obtain ⟨x, hx⟩ : ∃ x, unite l = x := ⟨_, rfl⟩
      obtain ⟨y, hy⟩ : ∃ y, unite m = y := ⟨_, rfl⟩
      rw [hx, hy] at E
      rw [hx] at M1 b1
      rw [hy] at M2 b2
      clear hx hy
      go_enter Tryd.func27, Tryd.ntmps27
      go_wp2_with fail
      refine (rMerge_is M1.out _ _ _ _ Hn.out (by omega) hl).mono ?_
      rintro e w1 ⟨a1, c1, rfl, _, hp1, hb1⟩
      go_wp2_with fail
      refine (rMerge_is M2.out _ _ _ _ Hn'.out (by omega) (hm.kept hb1)).mono ?_
      rintro e W0 ⟨a2, c2, rfl, _, hp2, hb2⟩
      have hbw : Below w.heap.size w W0 := by (repeat' first | with_reducible assumption | exact Below.refl _ _ | with_reducible refine Below.drew ?_ | with_reducible refine Below.drewN ?_ _ | with_reducible refine Below.alloc' ?_ _ | with_reducible refine Below.setCell ?_ (by first | exact Nat.le_refl _ | omega | (simp; done) | (simp; omega)) _ | with_reducible refine Below.after ?_ ‹_›)
      have hp1' : Pairs W0 a1 x := hp1.kept hb2
      clear hp1 hb2 hb1 M1 M2
      obtain ⟨N, hN⟩ : ∃ N, x.length = N := ⟨_, rfl⟩
      obtain ⟨M, hM⟩ : ∃ M, y.length = M := ⟨_, rfl⟩
      rw [hN] at b1 ⊢
      rw [hM] at b2 ⊢
      have HN := Lib.hid hN
      have HM := Lib.hid hM
      clear hN hM
      go_wp2
      go_loopw [9, 11, 34] (fun v _ i wx => ∃ (k : Nat) (out : List (Int × Int)), k ≤ N ∧ i = .int .i64 k ∧ Hid (out = inter (x.take k) y) ∧ Below W0.heap.size W0 wx ∧ wx.ownsRow W0.heap.size 40 2 v out.length (flat out)) (fun _ _ i _ => N - (intOf i).toNat)
      case atStart => exact ⟨0, [], Nat.zero_le _, rfl, rfl, Below.refl _ _, World.ownsRow_nil _ _ _ _⟩
      case round =>
        obtain ⟨k, out, hk, rfl, Hout, hbr, hown⟩ := hrel
        by_cases hlt : k < N
        · obtain ⟨ba, offa, rfl, hc⟩ := (hp1'.kept hbr).at_ (k := k) (by rw [HN.out]; exact hlt)
          obtain ⟨hc0, hc1⟩ := hc
          have Ht := Lib.hid (take_succ_pair x k (by rw [HN.out]; exact hlt))
          obtain ⟨⟨p, q⟩, hz⟩ : ∃ z, x[k]?.getD (0, 0) = z := ⟨_, rfl⟩
          rw [hz] at hc0 hc1 Ht
          simp only [] at hc0 hc1
          clear hz
          obtain ⟨W1, hW1⟩ : ∃ W1, W1 = wr := ⟨_, rfl⟩
          subst hW1
          have nown := own_ne_size hown
          have hsz := hbr.size
          have hol : out.length ≤ k * M := by
            rw [Hout.out]
            have := inter_length (x.take k) y
            rw [List.length_take, HN.out, HM.out, Nat.min_eq_left hk] at this
            exact this
          have hol2 : out.length ≤ 899 * 900 := Nat.le_trans hol (Nat.mul_le_mul (by omega) b2)
          clear hol
          go_wp2
          go_loopw [9, 13, 14, 15, 40] (fun v _ _ _ i wx => ∃ (j : Nat) (rest : List (Int × Int)), j ≤ M ∧ i = .int .i64 j ∧ Hid (rest = cutRow (p, q) (y.take j)) ∧ Below W0.heap.size W0 wx ∧ W1.heap.size < wx.heap.size ∧ wx.cell? ⟨W1.heap.size, 0, none⟩ = some (.int .i64 p) ∧ wx.cell? ⟨W1.heap.size, 1, none⟩ = some (.int .i64 q) ∧
            some W1.heap.size ≠ v.ownBlock ∧ wx.ownsRow W0.heap.size 40 2 v (out ++ rest).length (flat (out ++ rest))) (fun _ _ _ _ i _ => M - (intOf i).toNat)
          case atStart => exact ⟨0, [], Nat.zero_le _, rfl, rfl, by (repeat' first | with_reducible assumption | exact Below.refl _ _ | with_reducible refine Below.drew ?_ | with_reducible refine Below.drewN ?_ _ | with_reducible refine Below.alloc' ?_ _ | with_reducible refine Below.setCell ?_ (by first | exact Nat.le_refl _ | omega | (simp; done) | (simp; omega)) _ | with_reducible refine Below.after ?_ ‹_›), by simp, by simp [go_sem], by simp [go_sem], nown, by rw [List.append_nil]; exact hown.alloc _⟩
          case round =>
            obtain ⟨j, rest, hj, rfl, Hrest, hbx, hszx, c0, c1, nv, hownx⟩ := hrel
            by_cases hltj : j < M
            · obtain ⟨bb, offb, rfl, hd⟩ := (hp2.kept hbx).at_ (k := j) (by rw [HM.out]; exact hltj)
              obtain ⟨hd0, hd1⟩ := hd
              have Hr := Lib.hid (take_succ_pair y j (by rw [HM.out]; exact hltj))
              obtain ⟨⟨u, v⟩, hz⟩ : ∃ z, y[j]?.getD (0, 0) = z := ⟨_, rfl⟩
              rw [hz] at hd0 hd1 Hr
              simp only [] at hd0 hd1
              clear hz
              have hrl : rest.length ≤ 900 := by
                rw [Hrest.out]
                have := cutRow_length (p, q) (y.take j)
                rw [List.length_take, HM.out] at this
                omega
              have hszy := hbx.size
              have Hc := Lib.hid (cutRow_snoc (p, q) (u, v) (y.take j))
              rw [← Hr.out, ← Hrest.out] at Hc
              rcases Int.lt_or_le p u with h3 | h3 <;> rcases Int.lt_or_le v q with h4 | h4
              · by_cases h5 : u < v
                · have H1 := Lib.hid (show cutRow (p, q) (y.take (j + 1)) = rest ++ [(u, v)] by rw [Hc.out]; unfold cut1; rw [show max p u = u by omega, show min q v = v by omega, if_pos h5])
                  go_wp2
                  go_quiet (fail)
                  go_wp2_with (at_builtin; refine wpList_append_pairs rfl (.tmp 57) (.tmp 61) Tryd.underlying33 info_window rfl W0.heap.size _ (out ++ rest).length (out ++ rest) rfl (by first | exact own_drewN ((hownx.alloc _).alloc _) _ | exact (own_drewN (hownx.alloc _) _).alloc _) _ _ _ [(u, v)] rfl rfl (by first | exact Pairs_at _ _ _ _ (by simp) | exact pairs_drewN (Pairs_at _ _ _ _ (by simp)) _) (by simp) (by rw [List.length_append]; omega) (by simp; omega) ?_; intro v1 x1 o1 g1 _ at1)
                  have hby : Below W0.heap.size W0 x1 := Below.grown (by (repeat' first | with_reducible assumption | exact Below.refl _ _ | with_reducible refine Below.drew ?_ | with_reducible refine Below.drewN ?_ _ | with_reducible refine Below.alloc' ?_ _ | with_reducible refine Below.setCell ?_ (by first | exact Nat.le_refl _ | omega | (simp; done) | (simp; omega)) _ | with_reducible refine Below.after ?_ ‹_›)) g1 (by simp; omega) (fun i hi => (hownx.lt i hi).1)
                  have d0 := g1.cell (a := ⟨W1.heap.size, 0, none⟩) (v := .int .i64 p) (by first | exact cellA (cellA c0) | exact cellA c0) nv
                  have d1 := g1.cell (a := ⟨W1.heap.size, 1, none⟩) (v := .int .i64 q) (by first | exact cellA (cellA c1) | exact cellA c1) nv
                  have nv1 : some W1.heap.size ≠ v1.ownBlock := by
                    rcases at1 with e | e <;> rw [e]
                    · exact nv
                    · simp; omega
                  have hs1 := g1.size
                  simp at hs1
                  go_wp2
                  go_roundw
                  case rel => exact ⟨j + 1, rest ++ [(u, v)], by omega, by go_num, H1.out.symm, hby, by omega, d0, d1, nv1, by rw [← List.append_assoc, List.length_append]; exact o1⟩
                  case measure => simp [intOf]; omega
                · have H1 := Lib.hid (show cutRow (p, q) (y.take (j + 1)) = rest by rw [Hc.out]; unfold cut1; rw [show max p u = u by omega, show min q v = v by omega, if_neg h5, List.append_nil])
                  have h5' : decide (u < v) = false := by simpa using h5
                  clear h5
                  go_wp2
                  go_quiet (fail)
                  go_wp2
                  go_roundw
                  case rel => exact ⟨j + 1, rest, by omega, by go_num, H1.out.symm, by (repeat' first | with_reducible assumption | exact Below.refl _ _ | with_reducible refine Below.drew ?_ | with_reducible refine Below.drewN ?_ _ | with_reducible refine Below.alloc' ?_ _ | with_reducible refine Below.setCell ?_ (by first | exact Nat.le_refl _ | omega | (simp; done) | (simp; omega)) _ | with_reducible refine Below.after ?_ ‹_›), by simp; omega, cellA c0, cellA c1, nv, hownx.alloc _⟩
                  case measure => simp [intOf]; omega
              · by_cases h5 : u < q
                · have H1 := Lib.hid (show cutRow (p, q) (y.take (j + 1)) = rest ++ [(u, q)] by rw [Hc.out]; unfold cut1; rw [show max p u = u by omega, show min q v = q by omega, if_pos h5])
                  go_wp2
                  go_quiet (fail)
                  go_wp2_with (at_builtin; refine wpList_append_pairs rfl (.tmp 57) (.tmp 61) Tryd.underlying33 info_window rfl W0.heap.size _ (out ++ rest).length (out ++ rest) rfl (by first | exact own_drewN ((hownx.alloc _).alloc _) _ | exact (own_drewN (hownx.alloc _) _).alloc _) _ _ _ [(u, q)] rfl rfl (by first | exact Pairs_at _ _ _ _ (by simp) | exact pairs_drewN (Pairs_at _ _ _ _ (by simp)) _) (by simp) (by rw [List.length_append]; omega) (by simp; omega) ?_; intro v1 x1 o1 g1 _ at1)
                  have hby : Below W0.heap.size W0 x1 := Below.grown (by (repeat' first | with_reducible assumption | exact Below.refl _ _ | with_reducible refine Below.drew ?_ | with_reducible refine Below.drewN ?_ _ | with_reducible refine Below.alloc' ?_ _ | with_reducible refine Below.setCell ?_ (by first | exact Nat.le_refl _ | omega | (simp; done) | (simp; omega)) _ | with_reducible refine Below.after ?_ ‹_›)) g1 (by simp; omega) (fun i hi => (hownx.lt i hi).1)
                  have d0 := g1.cell (a := ⟨W1.heap.size, 0, none⟩) (v := .int .i64 p) (by first | exact cellA (cellA c0) | exact cellA c0) nv
                  have d1 := g1.cell (a := ⟨W1.heap.size, 1, none⟩) (v := .int .i64 q) (by first | exact cellA (cellA c1) | exact cellA c1) nv
                  have nv1 : some W1.heap.size ≠ v1.ownBlock := by
                    rcases at1 with e | e <;> rw [e]
                    · exact nv
                    · simp; omega
                  have hs1 := g1.size
                  simp at hs1
                  go_wp2
                  go_roundw
                  case rel => exact ⟨j + 1, rest ++ [(u, q)], by omega, by go_num, H1.out.symm, hby, by omega, d0, d1, nv1, by rw [← List.append_assoc, List.length_append]; exact o1⟩
                  case measure => simp [intOf]; omega
                · have H1 := Lib.hid (show cutRow (p, q) (y.take (j + 1)) = rest by rw [Hc.out]; unfold cut1; rw [show max p u = u by omega, show min q v = q by omega, if_neg h5, List.append_nil])
                  have h5' : decide (u < q) = false := by simpa using h5
                  clear h5
                  go_wp2
                  go_quiet (fail)
                  go_wp2
                  go_roundw
                  case rel => exact ⟨j + 1, rest, by omega, by go_num, H1.out.symm, by (repeat' first | with_reducible assumption | exact Below.refl _ _ | with_reducible refine Below.drew ?_ | with_reducible refine Below.drewN ?_ _ | with_reducible refine Below.alloc' ?_ _ | with_reducible refine Below.setCell ?_ (by first | exact Nat.le_refl _ | omega | (simp; done) | (simp; omega)) _ | with_reducible refine Below.after ?_ ‹_›), by simp; omega, cellA c0, cellA c1, nv, hownx.alloc _⟩
                  case measure => simp [intOf]; omega
              · by_cases h5 : p < v
                · have H1 := Lib.hid (show cutRow (p, q) (y.take (j + 1)) = rest ++ [(p, v)] by rw [Hc.out]; unfold cut1; rw [show max p u = p by omega, show min q v = v by omega, if_pos h5])
                  go_wp2
                  go_quiet (fail)
                  go_wp2_with (at_builtin; refine wpList_append_pairs rfl (.tmp 57) (.tmp 61) Tryd.underlying33 info_window rfl W0.heap.size _ (out ++ rest).length (out ++ rest) rfl (by first | exact own_drewN ((hownx.alloc _).alloc _) _ | exact (own_drewN (hownx.alloc _) _).alloc _) _ _ _ [(p, v)] rfl rfl (by first | exact Pairs_at _ _ _ _ (by simp) | exact pairs_drewN (Pairs_at _ _ _ _ (by simp)) _) (by simp) (by rw [List.length_append]; omega) (by simp; omega) ?_; intro v1 x1 o1 g1 _ at1)
                  have hby : Below W0.heap.size W0 x1 := Below.grown (by (repeat' first | with_reducible assumption | exact Below.refl _ _ | with_reducible refine Below.drew ?_ | with_reducible refine Below.drewN ?_ _ | with_reducible refine Below.alloc' ?_ _ | with_reducible refine Below.setCell ?_ (by first | exact Nat.le_refl _ | omega | (simp; done) | (simp; omega)) _ | with_reducible refine Below.after ?_ ‹_›)) g1 (by simp; omega) (fun i hi => (hownx.lt i hi).1)
                  have d0 := g1.cell (a := ⟨W1.heap.size, 0, none⟩) (v := .int .i64 p) (by first | exact cellA (cellA c0) | exact cellA c0) nv
                  have d1 := g1.cell (a := ⟨W1.heap.size, 1, none⟩) (v := .int .i64 q) (by first | exact cellA (cellA c1) | exact cellA c1) nv
                  have nv1 : some W1.heap.size ≠ v1.ownBlock := by
                    rcases at1 with e | e <;> rw [e]
                    · exact nv
                    · simp; omega
                  have hs1 := g1.size
                  simp at hs1
                  go_wp2
                  go_roundw
                  case rel => exact ⟨j + 1, rest ++ [(p, v)], by omega, by go_num, H1.out.symm, hby, by omega, d0, d1, nv1, by rw [← List.append_assoc, List.length_append]; exact o1⟩
                  case measure => simp [intOf]; omega
                · have H1 := Lib.hid (show cutRow (p, q) (y.take (j + 1)) = rest by rw [Hc.out]; unfold cut1; rw [show max p u = p by omega, show min q v = v by omega, if_neg h5, List.append_nil])
                  have h5' : decide (p < v) = false := by simpa using h5
                  clear h5
                  go_wp2
                  go_quiet (fail)
                  go_wp2
                  go_roundw
                  case rel => exact ⟨j + 1, rest, by omega, by go_num, H1.out.symm, by (repeat' first | with_reducible assumption | exact Below.refl _ _ | with_reducible refine Below.drew ?_ | with_reducible refine Below.drewN ?_ _ | with_reducible refine Below.alloc' ?_ _ | with_reducible refine Below.setCell ?_ (by first | exact Nat.le_refl _ | omega | (simp; done) | (simp; omega)) _ | with_reducible refine Below.after ?_ ‹_›), by simp; omega, cellA c0, cellA c1, nv, hownx.alloc _⟩
                  case measure => simp [intOf]; omega
              · by_cases h5 : p < q
                · have H1 := Lib.hid (show cutRow (p, q) (y.take (j + 1)) = rest ++ [(p, q)] by rw [Hc.out]; unfold cut1; rw [show max p u = p by omega, show min q v = q by omega, if_pos h5])
                  go_wp2
                  go_quiet (fail)
                  go_wp2_with (at_builtin; refine wpList_append_pairs rfl (.tmp 57) (.tmp 61) Tryd.underlying33 info_window rfl W0.heap.size _ (out ++ rest).length (out ++ rest) rfl (by first | exact own_drewN ((hownx.alloc _).alloc _) _ | exact (own_drewN (hownx.alloc _) _).alloc _) _ _ _ [(p, q)] rfl rfl (by first | exact Pairs_at _ _ _ _ (by simp) | exact pairs_drewN (Pairs_at _ _ _ _ (by simp)) _) (by simp) (by rw [List.length_append]; omega) (by simp; omega) ?_; intro v1 x1 o1 g1 _ at1)
                  have hby : Below W0.heap.size W0 x1 := Below.grown (by (repeat' first | with_reducible assumption | exact Below.refl _ _ | with_reducible refine Below.drew ?_ | with_reducible refine Below.drewN ?_ _ | with_reducible refine Below.alloc' ?_ _ | with_reducible refine Below.setCell ?_ (by first | exact Nat.le_refl _ | omega | (simp; done) | (simp; omega)) _ | with_reducible refine Below.after ?_ ‹_›)) g1 (by simp; omega) (fun i hi => (hownx.lt i hi).1)
                  have d0 := g1.cell (a := ⟨W1.heap.size, 0, none⟩) (v := .int .i64 p) (by first | exact cellA (cellA c0) | exact cellA c0) nv
                  have d1 := g1.cell (a := ⟨W1.heap.size, 1, none⟩) (v := .int .i64 q) (by first | exact cellA (cellA c1) | exact cellA c1) nv
                  have nv1 : some W1.heap.size ≠ v1.ownBlock := by
                    rcases at1 with e | e <;> rw [e]
                    · exact nv
                    · simp; omega
                  have hs1 := g1.size
                  simp at hs1
                  go_wp2
                  go_roundw
                  case rel => exact ⟨j + 1, rest ++ [(p, q)], by omega, by go_num, H1.out.symm, hby, by omega, d0, d1, nv1, by rw [← List.append_assoc, List.length_append]; exact o1⟩
                  case measure => simp [intOf]; omega
                · have H1 := Lib.hid (show cutRow (p, q) (y.take (j + 1)) = rest by rw [Hc.out]; unfold cut1; rw [show max p u = p by omega, show min q v = q by omega, if_neg h5, List.append_nil])
                  have h5' : decide (p < q) = false := by simpa using h5
                  clear h5
                  go_wp2
                  go_quiet (fail)
                  go_wp2
                  go_roundw
                  case rel => exact ⟨j + 1, rest, by omega, by go_num, H1.out.symm, by (repeat' first | with_reducible assumption | exact Below.refl _ _ | with_reducible refine Below.drew ?_ | with_reducible refine Below.drewN ?_ _ | with_reducible refine Below.alloc' ?_ _ | with_reducible refine Below.setCell ?_ (by first | exact Nat.le_refl _ | omega | (simp; done) | (simp; omega)) _ | with_reducible refine Below.after ?_ ‹_›), by simp; omega, cellA c0, cellA c1, nv, hownx.alloc _⟩
                  case measure => simp [intOf]; omega
            · have hj' : j = y.length := by rw [HM.out]; omega
              have hrest := Hrest.out
              rw [hj', List.take_length] at hrest
              have Ho := Lib.hid (show out ++ rest = inter (x.take (k + 1)) y by rw [Ht.out, inter_snoc, ← Hout.out, ← hrest])
              clear hrest hj'
              go_wp2
              go_roundw
              case rel => exact ⟨k + 1, out ++ rest, by omega, by go_num, Ho.out, hbx, hownx⟩
              case measure => simp [intOf]; omega
        · have hk' : k = x.length := by rw [HN.out]; omega
          have hout := Hout.out
          rw [hk', List.take_length] at hout
          have HO := Lib.hid hout
          clear hout hk'
          go_wp2
          go_ret2
          refine ⟨_, by rw [E.out]; rfl, ?_, hbw.trans (hbr.mono hbw.size)⟩
          rw [E.out]
          show World.ownsRow _ _ _ _ _ (inter x y).length (flat (inter x y))
          rw [← HO.out]
          exact own_base hown hbw.size
end Go.Proofs.YtjmbbhhfbdjbdaaDoor
