/-
  Walks over package span: joinEnds.
-/
import Derived.Test.YtnehmkdcifgpnaaSpanB
import Derived.StillTailTactics
namespace Go.Proofs.Ytnehmkdcifgpnaa
open Go.RowKit

theorem plus_any (a b : Int) (w : World) (h : -9223372036854775808 ≤ a + b ∧ a + b ≤ 9223372036854775807) :
    Calls Try.prog 38 #[.int .i64 a, .int .i64 b] w fun e w' => e = .returned (.int .i64 (a + b)) ∧ w = w' := by
  go_enter Try.func38, Try.ntmps38
  go_wp2
  go_ret
  exact ⟨rfl, rfl⟩
theorem lesser_any (a b : Int) (w : World) :
    Calls Try.prog 40 #[.int .i64 a, .int .i64 b] w fun e w' => e = .returned (.int .i64 (min a b)) ∧ w = w' := by
  go_enter Try.func40, Try.ntmps40
  go_wp2
  all_goals go_ret
  · exact ⟨by rw [min_right_of ‹_›]; rfl, rfl⟩
  · exact ⟨by rw [min_left_of ‹_›]; rfl, rfl⟩
theorem larger_any (a b : Int) (w : World) :
    Calls Try.prog 41 #[.int .i64 a, .int .i64 b] w fun e w' => e = .returned (.int .i64 (max a b)) ∧ w = w' := by
  go_enter Try.func41, Try.ntmps41
  go_wp2
  all_goals go_ret
  · exact ⟨by rw [max_right_of ‹_›]; rfl, rfl⟩
  · exact ⟨by rw [max_left_of ‹_›]; rfl, rfl⟩

/-- a region that draws its order, whose last operations stand in one order, from whatever world it draws in -/
theorem region_tail {P : Program} {id : Nat} {Q : Exit → Act → World → Prop} {a : Act} {w : World} {l : List Oper} (n : Nat) (hm : P.follows .mixedOrders = true) (hB : Region.lexTailB .any l.toArray n = true)
    (h : ∀ W : World, W = w.drew → wpStill P l.toArray W (fun a' => wpList P l.toArray Q (l.drop n) a' W) (l.take n) a) : (Code.region id l.toArray true).wp P Q a w :=
  wp_region_still_tail n hm hB (h _ rfl)

/-- a call that only returns a number -/
def Gives (f : FuncId) (a b c : Int) : Prop := ∀ w : World, Calls Try.prog f #[.int .i64 a, .int .i64 b] w fun e w' => e = .returned (.int .i64 c) ∧ w' = w

set_option maxHeartbeats 2000000 in
theorem join_any (F G : FuncId) (X Y : Nat → Int) (a : Option Addr) (l : List (Int × Int)) (n cap : Nat) (w : World) (hn : l.length = n) (hb : n ≤ 1000000) (hl : Spans w a l)
    (cF : ∀ args W, (callFunc F args).run Try.prog W = .ok (.enter F args) W) (cG : ∀ args W, (callFunc G args).run Try.prog W = .ok (.enter G args) W)
    (hX : ∀ k, k < n → Gives F (X k) (l[k]?.getD (0, 0)).1 (X (k + 1))) (hY : ∀ k, k < n → Gives G (Y k) (l[k]?.getD (0, 0)).2 (Y (k + 1))) :
    Calls Try.prog 37 #[.func (.func F) #[] #[], .func (.func G) #[] #[], .agg #[.int .i64 (X 0), .int .i64 (Y 0)], .slice a n cap] w fun e w' =>
      e = .returned (.agg #[.int .i64 (X n), .int .i64 (Y n)]) ∧ Below w.heap.size w w' := by
  have Hn := Lib.hid hn
  have HX := Lib.hid hX
  have HY := Lib.hid hY
  clear hn hX hY
  go_enter Try.func37, Try.ntmps37
  go_wp2
  go_loopw [10, 13] (fun _ i wr => ∃ k : Nat, k ≤ n ∧ i = .int .i64 k ∧ Below w.heap.size w wr ∧ wr.cell? ⟨w.heap.size, 0, none⟩ = some (.int .i64 (X k)) ∧ wr.cell? ⟨w.heap.size, 1, none⟩ = some (.int .i64 (Y k)) ∧
    wr.frozen? ⟨w.heap.size, 0, none⟩ = false ∧ wr.frozen? ⟨w.heap.size, 1, none⟩ = false ∧ wr.cell? ⟨w.heap.size + 1, 0, none⟩ = some (.int .i64 0) ∧ wr.cell? ⟨w.heap.size + 1, 1, none⟩ = some (.int .i64 0) ∧
    wr.frozen? ⟨w.heap.size + 1, 0, none⟩ = false ∧ wr.frozen? ⟨w.heap.size + 1, 1, none⟩ = false) (fun _ i _ => n - (intOf i).toNat)
  case atStart => exact ⟨0, Nat.zero_le _, rfl, by (repeat' first | exact Below.refl _ _ | with_reducible refine Below.drew ?_ | with_reducible refine Below.drewN ?_ _ | with_reducible refine Below.alloc' ?_ _ | with_reducible refine Below.setCell ?_ (by first | exact Nat.le_refl _ | (simp; done) | (simp; omega)) _ | with_reducible refine Below.after ?_ ‹_›), by simp [go_sem], by simp [go_sem], by simp [go_sem], by simp [go_sem], by simp [go_sem], by simp [go_sem], by simp [go_sem], by simp [go_sem]⟩
  case round =>
    obtain ⟨k, hk, rfl, hbr, c0, c1, f0, f1, d0, d1, g0, g1⟩ := hrel
    by_cases hlt : k < n
    · obtain ⟨b, off, rfl, hc⟩ := (hl.kept hbr).at_ (k := k) (by rw [Hn.out]; exact hlt)
      obtain ⟨hc0, hc1⟩ := hc
      have gX := Lib.hid (HX.out k hlt)
      have gY := Lib.hid (HY.out k hlt)
      obtain ⟨⟨x, y⟩, hz⟩ : ∃ z, l[k]?.getD (0, 0) = z := ⟨_, rfl⟩
      rw [hz] at hc0 hc1 gX gY
      simp only [] at hc0 hc1 gX gY
      clear hz
      have s0 : w.heap.size < wr.heap.size := World.block_lt_of_cell? wr _ c0
      have s1 : w.heap.size + 1 < wr.heap.size := World.block_lt_of_cell? wr _ d0
      go_wp2_with fail
      refine region_tail 13 (by kernel_rfl) (by kernel_rfl) (fun W hW => ?_)
      have e0 : W.cell? ⟨w.heap.size, 0, none⟩ = some (.int .i64 (X k)) := by rw [hW]; simp [go_sem, c0, s0]
      have e1 : W.cell? ⟨w.heap.size, 1, none⟩ = some (.int .i64 (Y k)) := by rw [hW]; simp [go_sem, c1, s0]
      have e2 : W.cell? ⟨wr.heap.size, 0, none⟩ = some (.int .i64 x) := by rw [hW]; simp [go_sem]
      have e3 : W.cell? ⟨wr.heap.size, 1, none⟩ = some (.int .i64 y) := by rw [hW]; simp [go_sem]
      have e4 : W.frozen? ⟨w.heap.size, 0, none⟩ = false := by rw [hW]; simp [go_sem, f0, s0]
      have e5 : W.frozen? ⟨w.heap.size, 1, none⟩ = false := by rw [hW]; simp [go_sem, f1, s0]
      have e6 : W.cell? ⟨w.heap.size + 1, 0, none⟩ = some (.int .i64 0) := by rw [hW]; simp [go_sem, d0, s1]
      have e7 : W.cell? ⟨w.heap.size + 1, 1, none⟩ = some (.int .i64 0) := by rw [hW]; simp [go_sem, d1, s1]
      have e8 : W.frozen? ⟨w.heap.size + 1, 0, none⟩ = false := by rw [hW]; simp [go_sem, g0, s1]
      have e9 : W.frozen? ⟨w.heap.size + 1, 1, none⟩ = false := by rw [hW]; simp [go_sem, g1, s1]
      have hbW : Below w.heap.size w W := by rw [hW]; exact (hbr.alloc (Nat.le_of_lt s0) _).drew
      have sW : w.heap.size + 1 < W.heap.size := World.block_lt_of_cell? W _ e6
      clear hW c0 c1 d0 d1 f0 f1 g0 g1 hc0 hc1
      simp only [List.take_succ_cons, List.take_zero, List.drop_succ_cons, List.drop_zero]
      repeat still_step
      still_call (gX.out _)
      repeat still_step
      still_call (gY.out _)
      repeat still_step
      refine wpStill_nil ?_
      clear gX gY
      go_wp2
      trace_state
      go_roundw
      case rel => exact ⟨k + 1, by omega, by go_num, by (repeat' first | exact Below.refl _ _ | with_reducible refine Below.drew ?_ | with_reducible refine Below.drewN ?_ _ | with_reducible refine Below.alloc' ?_ _ | with_reducible refine Below.setCell ?_ (by first | exact Nat.le_refl _ | (simp; done) | (simp; omega)) _ | with_reducible refine Below.after ?_ ‹_›), by simp [go_sem, *], by simp [go_sem, *], by simp [go_sem, *], by simp [go_sem, *], by simp [go_sem, *], by simp [go_sem, *], by simp [go_sem, *], by simp [go_sem, *]⟩
      case measure => simp [intOf]; omega
    · obtain rfl : k = n := by omega
      go_wp2
      ((try simp only [Exit.inBlock, Exit.then]); refine bodyPost_ret (by simp [results, Try.results37, go_sem, *]; try rfl) rfl ?_)
      exact ⟨rfl, by (repeat' first | exact Below.refl _ _ | with_reducible refine Below.drew ?_ | with_reducible refine Below.drewN ?_ _ | with_reducible refine Below.alloc' ?_ _ | with_reducible refine Below.setCell ?_ (by first | exact Nat.le_refl _ | (simp; done) | (simp; omega)) _ | with_reducible refine Below.after ?_ ‹_›)⟩

theorem plus_enters (args : Array Value) (W : World) : (callFunc 38 args).run Try.prog W = .ok (.enter 38 args) W := by kernel_rfl
theorem lesser_enters (args : Array Value) (W : World) : (callFunc 40 args).run Try.prog W = .ok (.enter 40 args) W := by kernel_rfl
theorem larger_enters (args : Array Value) (W : World) : (callFunc 41 args).run Try.prog W = .ok (.enter 41 args) W := by kernel_rfl
end Go.Proofs.Ytnehmkdcifgpnaa
