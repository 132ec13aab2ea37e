/-
  Walks over the reference of package span: Sum.
-/
import Derived.Test.YtnehmkdcifgpnaaSpanE
namespace Go.Proofs.Ytnehmkdcifgpnaa
open Go.RowKit

set_option maxHeartbeats 2000000 in
theorem rSum_any (s : Option Addr) (l : List (Int × Int)) (n cap : Nat) (w : World) (hn : l.length = n) (hb : n ≤ 1000000) (hl : Spans w s l) :
    Calls Try.prog 23 #[.slice s n cap] w fun e w' => e = .returned (res (sumV l)) ∧ Below w.heap.size w w' := by
  by_cases hbig : 65536 < n
  · have e : sumV l = (0, 0, 8) := by simp [sumV, hn, hbig]
    rw [e]
    have hbig' : (65536 : Int) < (n : Int) := by omega
    clear e hn hl hbig
    go_enter Try.func23, Try.ntmps23
    go_wp2
    ((try simp only [Exit.inBlock, Exit.then]); refine bodyPost_ret (by simp [results, Try.results23, go_sem, *]; try rfl) rfl ?_)
    exact ⟨rfl, by (repeat' first | exact Below.refl _ _ | with_reducible refine Below.drew ?_ | with_reducible refine Below.drewN ?_ _ | with_reducible refine Below.alloc' ?_ _ | with_reducible refine Below.setCell ?_ (by first | exact Nat.le_refl _ | (simp; done) | (simp; omega)) _ | with_reducible refine Below.after ?_ ‹_›)⟩
  · have hbig' : ¬ (65536 : Int) < (n : Int) := by omega
    have Hn := Lib.hid hn
    have e1 : allV l = true → sumV l = chkV (loSum l) (hiSum l) := fun h => by simp [sumV, hn, hbig, h]
    have e2 : allV l = false → sumV l = (0, 0, 1) := fun h => by simp [sumV, hn, hbig, h]
    have E1 := Lib.hid e1
    have E2 := Lib.hid e2
    clear e1 e2 hn
    go_enter Try.func23, Try.ntmps23
    go_wp2
    go_loopw [5] (fun i wr => ∃ (k : Nat) (x y : Int), k ≤ n ∧ i = .int .i64 k ∧ Hid (allV (l.take k) = true) ∧ Hid (x = loSum (l.take k)) ∧ Hid (y = hiSum (l.take k)) ∧ Below w.heap.size w wr ∧ wr.cell? ⟨w.heap.size, 0, none⟩ = some (.int .i64 0) ∧ wr.cell? ⟨w.heap.size, 1, none⟩ = some (.int .i64 0) ∧
      wr.frozen? ⟨w.heap.size, 0, none⟩ = false ∧ wr.frozen? ⟨w.heap.size, 1, none⟩ = false ∧ wr.cell? ⟨w.heap.size + 1, 0, none⟩ = some (.int .i64 x) ∧ wr.cell? ⟨w.heap.size + 1, 1, none⟩ = some (.int .i64 y) ∧
      wr.frozen? ⟨w.heap.size + 1, 0, none⟩ = false ∧ wr.frozen? ⟨w.heap.size + 1, 1, none⟩ = false) (fun i _ => n - (intOf i).toNat)
    case atStart => exact ⟨0, 0, 0, Nat.zero_le _, rfl, rfl, rfl, rfl, by (repeat' first | exact Below.refl _ _ | with_reducible refine Below.drew ?_ | with_reducible refine Below.drewN ?_ _ | with_reducible refine Below.alloc' ?_ _ | with_reducible refine Below.setCell ?_ (by first | exact Nat.le_refl _ | (simp; done) | (simp; omega)) _ | with_reducible refine Below.after ?_ ‹_›), by simp [go_sem], by simp [go_sem], by simp [go_sem], by simp [go_sem], by simp [go_sem], by simp [go_sem], by simp [go_sem], by simp [go_sem]⟩
    case round =>
      obtain ⟨k, x, y, hk, rfl, Hall, Hx, Hy, hbr, c0, c1, f0, f1, d0, d1, g0, g1⟩ := hrel
      by_cases hlt : k < n
      · obtain ⟨b, off, rfl, hc⟩ := hl.at_ (k := k) (by rw [Hn.out]; exact hlt)
        obtain ⟨hc0, hc1⟩ := hc
        have v0 := World.block_lt_of_cell? w _ hc0
        simp only [] at v0
        have hc0 := hbr.cell (p := ⟨b, off + k * 2, none⟩) v0 ▸ hc0
        have hc1 := hbr.cell (p := ⟨b, off + k * 2 + 1, none⟩) v0 ▸ hc1
        have Hall1 := Lib.hid (allV_succ l k (by rw [Hn.out]; exact hlt))
        have Hlo1 := Lib.hid (loSum_succ l k (by rw [Hn.out]; exact hlt))
        have Hhi1 := Lib.hid (hiSum_succ l k (by rw [Hn.out]; exact hlt))
        have Hlt := Lib.hid (show k < l.length by rw [Hn.out]; exact hlt)
        have bd := sums_bd_take_of Hall.out
        rw [← Hx.out, ← Hy.out] at bd
        obtain ⟨⟨p, q⟩, hz⟩ : ∃ z, l[k]?.getD (0, 0) = z := ⟨_, rfl⟩
        rw [hz] at hc0 hc1 Hall1 Hlo1 Hhi1
        simp only [] at hc0 hc1 Hall1 Hlo1 Hhi1
        have bne : ¬ w.heap.size + 1 = b := by omega
        have bne' : ¬ b = w.heap.size + 1 := by omega
        clear v0
        cases hv : vB p q
        · have Hv := Lib.hid hv
          have Hz := Lib.hid hz
          clear hv hz bd
          go_wp2_with fail
          refine (rValid_no _ _ _ Hv.out).mono ?_
          rintro e w1 ⟨rfl, hb1⟩
          have C0 := kept hb1 c0
          have C1 := kept hb1 c1
          have F0 := keptF hb1 c0 f0
          have F1 := keptF hb1 c1 f1
          clear c0 c1 f0 f1 d0 d1 g0 g1 hc0 hc1
          have s1 := hb1.size
          go_wp2
          ((try simp only [Exit.inBlock, Exit.then]); refine bodyPost_ret (by simp [results, Try.results23, go_sem, *]; try rfl) rfl ?_)
          exact ⟨by rw [E2.out (allV_false_of l k Hlt.out (by rw [Hz.out]; exact Hv.out))]; rfl, by (repeat' first | exact Below.refl _ _ | with_reducible refine Below.drew ?_ | with_reducible refine Below.drewN ?_ _ | with_reducible refine Below.alloc' ?_ _ | with_reducible refine Below.setCell ?_ (by first | exact Nat.le_refl _ | (simp; done) | (simp; omega)) _ | with_reducible refine Below.after ?_ ‹_›)⟩
        · have pq := vB_true.1 hv
          have lp : -70368744177664 ≤ p ∧ p ≤ 70368744177664 := by omega
          have lq : -70368744177664 ≤ q ∧ q ≤ 70368744177664 := by omega
          have lx : -4611686018427387904 ≤ x ∧ x ≤ 4611686018427387904 := by omega
          have ly : -4611686018427387904 ≤ y ∧ y ≤ 4611686018427387904 := by omega
          have Hv := Lib.hid hv
          clear hv hz bd pq
          go_wp2_with fail
          refine (rValid_yes _ _ _ Hv.out).mono ?_
          rintro e w1 ⟨rfl, hb1⟩
          have C0 := kept hb1 c0
          have C1 := kept hb1 c1
          have F0 := keptF hb1 c0 f0
          have F1 := keptF hb1 c1 f1
          have D0 := kept hb1 d0
          have D1 := kept hb1 d1
          have G0 := keptF hb1 d0 g0
          have G1 := keptF hb1 d1 g1
          have B0 := kept hb1 hc0
          have B1 := kept hb1 hc1
          have hb2 := hbr.after hb1
          clear c0 c1 f0 f1 d0 d1 g0 g1 hc0 hc1 hb1
          go_wp2_with fail
          refine region_tail 9 (by kernel_rfl) (by kernel_rfl) (fun W hW => ?_)
          have c0 : W.cell? ⟨w.heap.size, 0, none⟩ = some (.int .i64 0) := by rw [hW]; exact C0
          have c1 : W.cell? ⟨w.heap.size, 1, none⟩ = some (.int .i64 0) := by rw [hW]; exact C1
          have f0 : W.frozen? ⟨w.heap.size, 0, none⟩ = false := by rw [hW]; exact F0
          have f1 : W.frozen? ⟨w.heap.size, 1, none⟩ = false := by rw [hW]; exact F1
          have d0 : W.cell? ⟨w.heap.size + 1, 0, none⟩ = some (.int .i64 x) := by rw [hW]; exact D0
          have d1 : W.cell? ⟨w.heap.size + 1, 1, none⟩ = some (.int .i64 y) := by rw [hW]; exact D1
          have g0 : W.frozen? ⟨w.heap.size + 1, 0, none⟩ = false := by rw [hW]; exact G0
          have g1 : W.frozen? ⟨w.heap.size + 1, 1, none⟩ = false := by rw [hW]; exact G1
          have h0 : W.cell? ⟨b, off + k * 2, none⟩ = some (.int .i64 p) := by rw [hW]; exact B0
          have h1 : W.cell? ⟨b, off + k * 2 + 1, none⟩ = some (.int .i64 q) := by rw [hW]; exact B1
          have hb3 : Below w.heap.size w W := by rw [hW]; exact hb2.drew
          clear hW hb2 C0 C1 F0 F1 D0 D1 G0 G1 B0 B1
          simp only [List.take_succ_cons, List.take_zero, List.drop_succ_cons, List.drop_zero]
          repeat still_step
          refine wpStill_nil ?_
          go_wp2_with fail
          refine region_tail 9 (by kernel_rfl) (by kernel_rfl) (fun W2 hW => ?_)
          have C0 : W2.cell? ⟨w.heap.size, 0, none⟩ = some (.int .i64 0) := by rw [hW]; simp [go_sem, *]
          have C1 : W2.cell? ⟨w.heap.size, 1, none⟩ = some (.int .i64 0) := by rw [hW]; simp [go_sem, *]
          have F0 : W2.frozen? ⟨w.heap.size, 0, none⟩ = false := by rw [hW]; simp [go_sem, *]
          have F1 : W2.frozen? ⟨w.heap.size, 1, none⟩ = false := by rw [hW]; simp [go_sem, *]
          have D0 : W2.cell? ⟨w.heap.size + 1, 0, none⟩ = some (.int .i64 (x + p)) := by rw [hW]; simp [go_sem, *]
          have D1 : W2.cell? ⟨w.heap.size + 1, 1, none⟩ = some (.int .i64 y) := by rw [hW]; simp [go_sem, *]
          have G0 : W2.frozen? ⟨w.heap.size + 1, 0, none⟩ = false := by rw [hW]; simp [go_sem, *]
          have G1 : W2.frozen? ⟨w.heap.size + 1, 1, none⟩ = false := by rw [hW]; simp [go_sem, *]
          have B1 : W2.cell? ⟨b, off + k * 2 + 1, none⟩ = some (.int .i64 q) := by rw [hW]; simp [go_sem, *]
          have hb4 : Below w.heap.size w W2 := by rw [hW]; exact (hb3.setCell (by simp) _).drew
          clear hW hb3 c0 c1 f0 f1 d0 d1 g0 g1 h0 h1
          simp only [List.take_succ_cons, List.take_zero, List.drop_succ_cons, List.drop_zero]
          repeat still_step
          refine wpStill_nil ?_
          go_wp2
          go_roundw
          case rel =>
            exact ⟨k + 1, x + p, y + q, by omega, by go_num, by unfold Hid; rw [Hall1.out, Hall.out, Hv.out]; rfl, by unfold Hid; rw [Hlo1.out, ← Hx.out], by unfold Hid; rw [Hhi1.out, ← Hy.out], hb4.setCell (by simp) _,
              by simp [go_sem, *], by simp [go_sem, *], by simp [go_sem, *], by simp [go_sem, *], by simp [go_sem, *], by simp [go_sem, *], by simp [go_sem, *], by simp [go_sem, *]⟩
          case measure => simp [intOf]; omega
      · obtain rfl : k = n := by omega
        have hk : k = l.length := Hn.out.symm
        have hall := Hall.out
        have hx := Hx.out
        have hy := Hy.out
        rw [hk, List.take_length] at hall hx hy
        have E := Lib.hid (E1.out hall)
        rw [← hx, ← hy] at E
        clear hall hx hy hk
        go_wp2_with fail
        refine (rChecked_any _ _ _).mono ?_
        rintro e w1 ⟨rfl, hb1⟩
        have C0 := kept hb1 c0
        have C1 := kept hb1 c1
        have F0 := keptF hb1 c0 f0
        have F1 := keptF hb1 c1 f1
        clear c0 c1 f0 f1 d0 d1 g0 g1
        have s1 := hb1.size
        unfold res
        go_wp2
        ((try simp only [Exit.inBlock, Exit.then]); refine bodyPost_ret (by simp [results, Try.results23, go_sem, *]; try rfl) rfl ?_)
        exact ⟨by rw [E.out]; rfl, by (repeat' first | exact Below.refl _ _ | with_reducible refine Below.drew ?_ | with_reducible refine Below.drewN ?_ _ | with_reducible refine Below.alloc' ?_ _ | with_reducible refine Below.setCell ?_ (by first | exact Nat.le_refl _ | (simp; done) | (simp; omega)) _ | with_reducible refine Below.after ?_ ‹_›)⟩
end Go.Proofs.Ytnehmkdcifgpnaa
