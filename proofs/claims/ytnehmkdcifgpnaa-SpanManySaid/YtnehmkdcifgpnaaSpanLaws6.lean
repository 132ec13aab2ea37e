/-
  The walk of SpanMany.
-/
import Derived.Test.YtnehmkdcifgpnaaSpanW
import Derived.Test.YtnehmkdcifgpnaaSpanJ
import Derived.OwnWalk
namespace Go.Proofs.Ytnehmkdcifgpnaa
open Go.RowKit

theorem info_span : (Try.prog.info? 23).map (fun i => (i.zero, i.size, i.bytes)) = some (some (.agg #[.int .i64 0, .int .i64 0]), 2, 16) := by kernel_rfl

theorem make_spans (n : Nat) (hn : n ≤ 1000000) : ∃ cs : Array Value, cs.size = n * 2 ∧ (∀ j, j < n * 2 → ∃ u, cs[j]? = some u) ∧
    ∀ W : World, (Instr.makeSlice 31 (.int .i64 (n : Int)) (.int .i64 (n : Int))).run Try.prog W = .ok (.slice (some ⟨W.heap.size, 0, none⟩) n n) (W.alloc (.cells cs 23)) := by
  obtain ⟨i0, hi, hz0, hz1, hz2⟩ := info_parts info_span
  refine ⟨madeCells (Value.agg #[.int .i64 0, .int .i64 0]).cells (n * 2), size_madeCells _ _, fun j hj => ?_, fun W => ?_⟩
  · exact ⟨_, Array.getElem?_eq_getElem (by rw [size_madeCells]; exact hj)⟩
  · have := run_make (P := Try.prog) W 31 23 i0 _ Try.underlying31 hi hz0 .i64 .i64 (n : Int) (n : Int) (by omega) (by omega) (by rw [hz2]; omega) (by omega)
    rw [hz1] at this
    simpa using this

/-- the pairs of block g up to k hold a, b; all n of them may be written -/
def Filled (w : World) (g n k : Nat) (a b : Int) : Prop := ∀ j, j < n →
  (∃ u v, w.cell? ⟨g, j * 2, none⟩ = some u ∧ w.cell? ⟨g, j * 2 + 1, none⟩ = some v ∧ (j < k → u = .int .i64 a ∧ v = .int .i64 b)) ∧ w.frozen? ⟨g, j * 2, none⟩ = false ∧ w.frozen? ⟨g, j * 2 + 1, none⟩ = false

theorem Filled.step {w : World} {g n k : Nat} {a b : Int} (h : Filled w g n k a b) (hk : k < n) :
    Filled ((w.setCell ⟨g, k * 2, none⟩ (.int .i64 a)).setCell ⟨g, k * 2 + 1, none⟩ (.int .i64 b)) g n (k + 1) a b := by
  intro j hj
  obtain ⟨⟨u, v, hu, hv, huv⟩, fu, fv⟩ := h j hj
  obtain ⟨⟨u', v', hu', hv', _⟩, _, _⟩ := h k hk
  by_cases hjk : j = k
  · subst hjk
    refine ⟨⟨.int .i64 a, .int .i64 b, ?_, ?_, fun _ => ⟨rfl, rfl⟩⟩, ?_, ?_⟩
    · rw [World.cell?_setCell_other _ _ _ _ (by simp), World.cell?_setCell_same _ _ _ hu]
    · exact World.cell?_setCell_same _ _ _ (by rw [World.cell?_setCell_other _ _ _ _ (by simp)]; exact hv)
    · simp [go_sem, fu]
    · simp [go_sem, fv]
  · refine ⟨⟨u, v, ?_, ?_, fun hlt => huv (by omega)⟩, ?_, ?_⟩
    · rw [World.cell?_setCell_other _ _ _ _ (by first | (simp; done) | (simp; omega)), World.cell?_setCell_other _ _ _ _ (by first | (simp; done) | (simp; omega))]; exact hu
    · rw [World.cell?_setCell_other _ _ _ _ (by first | (simp; done) | (simp; omega)), World.cell?_setCell_other _ _ _ _ (by first | (simp; done) | (simp; omega))]; exact hv
    · simp [go_sem, fu]
    · simp [go_sem, fv]

theorem Filled.spans {w : World} {g n : Nat} {a b : Int} (h : Filled w g n n a b) : Spans w (some ⟨g, 0, none⟩) (List.replicate n (a, b)) := by
  intro _
  refine ⟨g, 0, rfl, fun k hk => ?_⟩
  have hk' : k < n := by simpa using hk
  obtain ⟨⟨u, v, hu, hv, huv⟩, _, _⟩ := h k hk'
  obtain ⟨rfl, rfl⟩ := huv hk'
  rw [Nat.zero_add]
  have : (List.replicate n (a, b))[k]?.getD (0, 0) = (a, b) := by simp [hk']
  rw [this]
  exact ⟨hu, hv⟩

set_option maxRecDepth 100000 in
set_option maxHeartbeats 4000000 in
theorem spanMany_walk (a b m : Int) (w : World) (_h0 : (Lit.int .i64 a).wf = true) (_h1 : (Lit.int .i64 b).wf = true) (h2 : (Lit.int .u8 m).wf = true) :
    Calls Try.prog 6 #[.agg #[.int .i64 a, .int .i64 b], .int .u8 m] w fun e w' => e = .returned (.bool true) ∧ Below w.heap.size w w' := by
  have hm := bounds_u8 h2
  clear _h0 _h1 h2
  obtain ⟨n, hn, hn1, hn2⟩ : ∃ n : Nat, 65535 + m % 3 = (n : Int) ∧ 65535 ≤ n ∧ n ≤ 65537 := ⟨(65535 + m % 3).toNat, by omega, by omega, by omega⟩
  obtain ⟨cs, hcs, hcell, hmake⟩ := make_spans n (by omega)
  have Hcs := Lib.hid hcs
  have Hcell := Lib.hid hcell
  clear hcs hcell
  go_enter Try.func6, Try.ntmps6
  go_wp2
  clear hmake
  go_loopw [6] (fun i wr => ∃ k : Nat, k ≤ n ∧ i = .int .i64 k ∧ Below w.heap.size w wr ∧ wr.cell? ⟨w.heap.size, 0, none⟩ = some (.int .i64 a) ∧ wr.cell? ⟨w.heap.size, 1, none⟩ = some (.int .i64 b) ∧ Filled wr (w.heap.size + 1) n k a b) (fun i _ => n - (intOf i).toNat)
  case atStart =>
    refine ⟨0, Nat.zero_le _, rfl, by (repeat' first | exact Below.refl _ _ | with_reducible refine Below.drew ?_ | with_reducible refine Below.drewN ?_ _ | with_reducible refine Below.alloc' ?_ _ | with_reducible refine Below.setCell ?_ (by first | exact Nat.le_refl _ | (simp; done) | (simp; omega)) _ | with_reducible refine Below.after ?_ ‹_›), by simp [go_sem], by simp [go_sem], fun j hj => ?_⟩
    obtain ⟨u, hu⟩ := Hcell.out (j * 2) (by omega)
    obtain ⟨v, hv⟩ := Hcell.out (j * 2 + 1) (by omega)
    exact ⟨⟨u, v, by simp [go_sem, hu], by simp [go_sem, hv], fun h => absurd h (Nat.not_lt_zero _)⟩, by simp [go_sem], by simp [go_sem]⟩
  case round =>
    obtain ⟨k, hk, rfl, hbr, c0, c1, hF⟩ := hrel
    by_cases hlt : k < n
    · obtain ⟨⟨u, v, hu, hv, _⟩, fu, fv⟩ := hF k hlt
      have hF' := Lib.hid (hF.step hlt)
      clear hF
      go_wp2
      go_roundw
      case rel => exact ⟨k + 1, by omega, by go_num, by (repeat' first | exact Below.refl _ _ | with_reducible refine Below.drew ?_ | with_reducible refine Below.drewN ?_ _ | with_reducible refine Below.alloc' ?_ _ | with_reducible refine Below.setCell ?_ (by first | exact Nat.le_refl _ | (simp; done) | (simp; omega)) _ | with_reducible refine Below.after ?_ ‹_›), by simp [go_sem, *], by simp [go_sem, *], hF'.out⟩
      case measure => simp [intOf]; omega
    · obtain rfl : k = n := by omega
      have hs := hF.spans
      clear hF
      have HL := Lib.hid (show (List.replicate k (a, b)).length = k by simp)
      obtain ⟨l, hl⟩ : ∃ l, List.replicate k (a, b) = l := ⟨_, rfl⟩
      rw [hl] at HL hs
      clear hl c0 c1
      go_wp2_with fail
      refine (sum_any _ l k k _ HL.out (by omega) hs).mono ?_
      rintro e w1 ⟨rfl, hb1⟩
      have hs1 : Spans w1 (some ⟨w.heap.size + 1, 0, none⟩) l := hs.kept hb1
      unfold res
      go_wp2_with fail
      refine (rSum_any _ l k k _ HL.out (by omega) (hs1.kept (by (repeat' first | exact Below.refl _ _ | with_reducible refine Below.drew ?_ | with_reducible refine Below.drewN ?_ _ | with_reducible refine Below.alloc' ?_ _ | with_reducible refine Below.setCell ?_ (by first | exact Nat.le_refl _ | (simp; done) | (simp; omega)) _ | with_reducible refine Below.after ?_ ‹_›)))).mono ?_
      rintro e w2 ⟨rfl, hb2⟩
      have q1 := kept hb2 (p := ⟨w1.heap.size, 0, none⟩) (v := .int .i64 ((sumV l).1)) (by first | ((repeat' first | with_reducible assumption | with_reducible refine cellA ?_ | with_reducible refine cellD ?_); done) | (simp [go_sem]; done) | (simp [go_sem, *]; done))
      have y1 := World.block_lt_of_cell? _ _ q1
      simp only [] at y1
      have q2 := kept hb2 (p := ⟨w1.heap.size, 1, none⟩) (v := .int .i64 ((sumV l).2.1)) (by first | ((repeat' first | with_reducible assumption | with_reducible refine cellA ?_ | with_reducible refine cellD ?_); done) | (simp [go_sem]; done) | (simp [go_sem, *]; done))
      unfold res
      go_wp2_with fail
      refine (awake_any _).mono ?_
      rintro e w3 ⟨rfl, hb3⟩
      go_wp2
      go_ret
      exact ⟨rfl, hbr.trans (Below.mono (w := wr) (by (repeat' first | exact Below.refl _ _ | with_reducible refine Below.drew ?_ | with_reducible refine Below.drewN ?_ _ | with_reducible refine Below.alloc' ?_ _ | with_reducible refine Below.setCell ?_ (by first | exact Nat.le_refl _ | (simp; done) | (simp; omega)) _ | with_reducible refine Below.after ?_ ‹_›)) hbr.size)⟩
end Go.Proofs.Ytnehmkdcifgpnaa
