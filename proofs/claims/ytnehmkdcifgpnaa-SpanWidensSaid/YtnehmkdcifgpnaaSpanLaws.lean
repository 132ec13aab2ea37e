/-
  The walks of SpanAdds, SpanMeets, SpanWidens, SpanSums.
-/
import Derived.Test.YtnehmkdcifgpnaaSpanW
import Derived.Test.YtnehmkdcifgpnaaSpanI
import Derived.Test.YtnehmkdcifgpnaaSpanJ
import Derived.Test.YtnehmkdcifgpnaaOpen
namespace Go.Proofs.Ytnehmkdcifgpnaa
open Go.RowKit

set_option maxRecDepth 100000 in
set_option maxHeartbeats 4000000 in
theorem spanAdds_walk (a b c d : Int) (w : World) (_ha : (Lit.int .i64 a).wf = true) (_hb : (Lit.int .i64 b).wf = true) (_hc : (Lit.int .i64 c).wf = true) (_hd : (Lit.int .i64 d).wf = true) :
    Calls Try.prog 4 #[.agg #[.int .i64 a, .int .i64 b], .agg #[.int .i64 c, .int .i64 d]] w fun e w' => e = .returned (.bool true) ∧ Below w.heap.size w w' := by
  clear _ha _hb _hc _hd
  go_enter Try.func4, Try.ntmps4
  go_wp2_with fail
  refine (add_any a b c d _).mono ?_
  rintro e w1 ⟨rfl, hw1⟩
  have k1_s_0 := kept hw1 (p := ⟨w.heap.size, 0, none⟩) (v := .int .i64 a) (by first | ((repeat' first | with_reducible assumption | with_reducible refine cellA ?_ | with_reducible refine cellD ?_); done) | (simp [go_sem]; done) | (simp [go_sem, *]; done))
  have k1_s_1 := kept hw1 (p := ⟨w.heap.size, 1, none⟩) (v := .int .i64 b) (by first | ((repeat' first | with_reducible assumption | with_reducible refine cellA ?_ | with_reducible refine cellD ?_); done) | (simp [go_sem]; done) | (simp [go_sem, *]; done))
  have y1_s := World.block_lt_of_cell? _ _ k1_s_0
  simp only [] at y1_s
  have k1_t_0 := kept hw1 (p := ⟨w.heap.size + 1, 0, none⟩) (v := .int .i64 c) (by first | ((repeat' first | with_reducible assumption | with_reducible refine cellA ?_ | with_reducible refine cellD ?_); done) | (simp [go_sem]; done) | (simp [go_sem, *]; done))
  have k1_t_1 := kept hw1 (p := ⟨w.heap.size + 1, 1, none⟩) (v := .int .i64 d) (by first | ((repeat' first | with_reducible assumption | with_reducible refine cellA ?_ | with_reducible refine cellD ?_); done) | (simp [go_sem]; done) | (simp [go_sem, *]; done))
  have y1_t := World.block_lt_of_cell? _ _ k1_t_0
  simp only [] at y1_t
  unfold res
  go_wp2_with fail
  refine (rAdd_any a b c d _).mono ?_
  rintro e w2 ⟨rfl, hw2⟩
  have k2_s_0 := kept hw2 (cellA k1_s_0)
  have k2_s_1 := kept hw2 (cellA k1_s_1)
  have y2_s := World.block_lt_of_cell? _ _ k2_s_0
  simp only [] at y2_s
  have k2_t_0 := kept hw2 (cellA k1_t_0)
  have k2_t_1 := kept hw2 (cellA k1_t_1)
  have y2_t := World.block_lt_of_cell? _ _ k2_t_0
  simp only [] at y2_t
  have k2_r1_0 := kept hw2 (p := ⟨w1.heap.size, 0, none⟩) (v := .int .i64 ((addV a b c d).1)) (by first | ((repeat' first | with_reducible assumption | with_reducible refine cellA ?_ | with_reducible refine cellD ?_); done) | (simp [go_sem]; done) | (simp [go_sem, *]; done))
  have k2_r1_1 := kept hw2 (p := ⟨w1.heap.size, 1, none⟩) (v := .int .i64 ((addV a b c d).2.1)) (by first | ((repeat' first | with_reducible assumption | with_reducible refine cellA ?_ | with_reducible refine cellD ?_); done) | (simp [go_sem]; done) | (simp [go_sem, *]; done))
  have y2_r1 := World.block_lt_of_cell? _ _ k2_r1_0
  simp only [] at y2_r1
  clear k1_s_0 k1_s_1 y1_s k1_t_0 k1_t_1 y1_t
  unfold res
  go_wp2_with fail
  refine (sub_any a b c d _).mono ?_
  rintro e w3 ⟨rfl, hw3⟩
  have k3_s_0 := kept hw3 (cellA k2_s_0)
  have k3_s_1 := kept hw3 (cellA k2_s_1)
  have y3_s := World.block_lt_of_cell? _ _ k3_s_0
  simp only [] at y3_s
  have k3_t_0 := kept hw3 (cellA k2_t_0)
  have k3_t_1 := kept hw3 (cellA k2_t_1)
  have y3_t := World.block_lt_of_cell? _ _ k3_t_0
  simp only [] at y3_t
  have k3_r1_0 := kept hw3 (cellA k2_r1_0)
  have k3_r1_1 := kept hw3 (cellA k2_r1_1)
  have y3_r1 := World.block_lt_of_cell? _ _ k3_r1_0
  simp only [] at y3_r1
  have k3_r2_0 := kept hw3 (p := ⟨w2.heap.size, 0, none⟩) (v := .int .i64 ((addV a b c d).1)) (by first | ((repeat' first | with_reducible assumption | with_reducible refine cellA ?_ | with_reducible refine cellD ?_); done) | (simp [go_sem]; done) | (simp [go_sem, *]; done))
  have k3_r2_1 := kept hw3 (p := ⟨w2.heap.size, 1, none⟩) (v := .int .i64 ((addV a b c d).2.1)) (by first | ((repeat' first | with_reducible assumption | with_reducible refine cellA ?_ | with_reducible refine cellD ?_); done) | (simp [go_sem]; done) | (simp [go_sem, *]; done))
  have y3_r2 := World.block_lt_of_cell? _ _ k3_r2_0
  simp only [] at y3_r2
  clear k2_s_0 k2_s_1 y2_s k2_t_0 k2_t_1 y2_t k2_r1_0 k2_r1_1 y2_r1
  unfold res
  go_wp2_with fail
  refine (rSub_any a b c d _).mono ?_
  rintro e w4 ⟨rfl, hw4⟩
  have k4_s_0 := kept hw4 (cellA k3_s_0)
  have k4_s_1 := kept hw4 (cellA k3_s_1)
  have y4_s := World.block_lt_of_cell? _ _ k4_s_0
  simp only [] at y4_s
  have k4_t_0 := kept hw4 (cellA k3_t_0)
  have k4_t_1 := kept hw4 (cellA k3_t_1)
  have y4_t := World.block_lt_of_cell? _ _ k4_t_0
  simp only [] at y4_t
  have k4_r1_0 := kept hw4 (cellA k3_r1_0)
  have k4_r1_1 := kept hw4 (cellA k3_r1_1)
  have y4_r1 := World.block_lt_of_cell? _ _ k4_r1_0
  simp only [] at y4_r1
  have k4_r2_0 := kept hw4 (cellA k3_r2_0)
  have k4_r2_1 := kept hw4 (cellA k3_r2_1)
  have y4_r2 := World.block_lt_of_cell? _ _ k4_r2_0
  simp only [] at y4_r2
  have k4_r3_0 := kept hw4 (p := ⟨w3.heap.size, 0, none⟩) (v := .int .i64 ((subV a b c d).1)) (by first | ((repeat' first | with_reducible assumption | with_reducible refine cellA ?_ | with_reducible refine cellD ?_); done) | (simp [go_sem]; done) | (simp [go_sem, *]; done))
  have k4_r3_1 := kept hw4 (p := ⟨w3.heap.size, 1, none⟩) (v := .int .i64 ((subV a b c d).2.1)) (by first | ((repeat' first | with_reducible assumption | with_reducible refine cellA ?_ | with_reducible refine cellD ?_); done) | (simp [go_sem]; done) | (simp [go_sem, *]; done))
  have y4_r3 := World.block_lt_of_cell? _ _ k4_r3_0
  simp only [] at y4_r3
  clear k3_s_0 k3_s_1 y3_s k3_t_0 k3_t_1 y3_t k3_r1_0 k3_r1_1 y3_r1 k3_r2_0 k3_r2_1 y3_r2
  unfold res
  go_wp2_with fail
  refine (awake_any _).mono ?_
  rintro e w5 ⟨rfl, hw5⟩
  go_wp2
  go_ret
  exact ⟨rfl, by (repeat' first | exact Below.refl _ _ | with_reducible refine Below.drew ?_ | with_reducible refine Below.drewN ?_ _ | with_reducible refine Below.alloc' ?_ _ | with_reducible refine Below.setCell ?_ (by first | exact Nat.le_refl _ | (simp; done) | (simp; omega)) _ | with_reducible refine Below.after ?_ ‹_›)⟩

set_option maxRecDepth 100000 in
set_option maxHeartbeats 4000000 in
theorem spanMeets_walk (a b c d : Int) (w : World) (_ha : (Lit.int .i64 a).wf = true) (_hb : (Lit.int .i64 b).wf = true) (_hc : (Lit.int .i64 c).wf = true) (_hd : (Lit.int .i64 d).wf = true) :
    Calls Try.prog 7 #[.agg #[.int .i64 a, .int .i64 b], .agg #[.int .i64 c, .int .i64 d]] w fun e w' => e = .returned (.bool true) ∧ Below w.heap.size w w' := by
  clear _ha _hb _hc _hd
  go_enter Try.func7, Try.ntmps7
  go_wp2_with fail
  refine (meet_any a b c d _).mono ?_
  rintro e w1 ⟨rfl, hw1⟩
  have k1_s_0 := kept hw1 (p := ⟨w.heap.size, 0, none⟩) (v := .int .i64 a) (by first | ((repeat' first | with_reducible assumption | with_reducible refine cellA ?_ | with_reducible refine cellD ?_); done) | (simp [go_sem]; done) | (simp [go_sem, *]; done))
  have k1_s_1 := kept hw1 (p := ⟨w.heap.size, 1, none⟩) (v := .int .i64 b) (by first | ((repeat' first | with_reducible assumption | with_reducible refine cellA ?_ | with_reducible refine cellD ?_); done) | (simp [go_sem]; done) | (simp [go_sem, *]; done))
  have y1_s := World.block_lt_of_cell? _ _ k1_s_0
  simp only [] at y1_s
  have k1_t_0 := kept hw1 (p := ⟨w.heap.size + 1, 0, none⟩) (v := .int .i64 c) (by first | ((repeat' first | with_reducible assumption | with_reducible refine cellA ?_ | with_reducible refine cellD ?_); done) | (simp [go_sem]; done) | (simp [go_sem, *]; done))
  have k1_t_1 := kept hw1 (p := ⟨w.heap.size + 1, 1, none⟩) (v := .int .i64 d) (by first | ((repeat' first | with_reducible assumption | with_reducible refine cellA ?_ | with_reducible refine cellD ?_); done) | (simp [go_sem]; done) | (simp [go_sem, *]; done))
  have y1_t := World.block_lt_of_cell? _ _ k1_t_0
  simp only [] at y1_t
  unfold res
  go_wp2_with fail
  refine (rMeet_any a b c d _).mono ?_
  rintro e w2 ⟨rfl, hw2⟩
  have k2_s_0 := kept hw2 (cellA k1_s_0)
  have k2_s_1 := kept hw2 (cellA k1_s_1)
  have y2_s := World.block_lt_of_cell? _ _ k2_s_0
  simp only [] at y2_s
  have k2_t_0 := kept hw2 (cellA k1_t_0)
  have k2_t_1 := kept hw2 (cellA k1_t_1)
  have y2_t := World.block_lt_of_cell? _ _ k2_t_0
  simp only [] at y2_t
  have k2_r1_0 := kept hw2 (p := ⟨w1.heap.size, 0, none⟩) (v := .int .i64 ((meetV a b c d).1)) (by first | ((repeat' first | with_reducible assumption | with_reducible refine cellA ?_ | with_reducible refine cellD ?_); done) | (simp [go_sem]; done) | (simp [go_sem, *]; done))
  have k2_r1_1 := kept hw2 (p := ⟨w1.heap.size, 1, none⟩) (v := .int .i64 ((meetV a b c d).2.1)) (by first | ((repeat' first | with_reducible assumption | with_reducible refine cellA ?_ | with_reducible refine cellD ?_); done) | (simp [go_sem]; done) | (simp [go_sem, *]; done))
  have y2_r1 := World.block_lt_of_cell? _ _ k2_r1_0
  simp only [] at y2_r1
  clear k1_s_0 k1_s_1 y1_s k1_t_0 k1_t_1 y1_t
  unfold res
  go_wp2_with fail
  refine (hull_any a b c d _).mono ?_
  rintro e w3 ⟨rfl, hw3⟩
  have k3_s_0 := kept hw3 (cellA k2_s_0)
  have k3_s_1 := kept hw3 (cellA k2_s_1)
  have y3_s := World.block_lt_of_cell? _ _ k3_s_0
  simp only [] at y3_s
  have k3_t_0 := kept hw3 (cellA k2_t_0)
  have k3_t_1 := kept hw3 (cellA k2_t_1)
  have y3_t := World.block_lt_of_cell? _ _ k3_t_0
  simp only [] at y3_t
  have k3_r1_0 := kept hw3 (cellA k2_r1_0)
  have k3_r1_1 := kept hw3 (cellA k2_r1_1)
  have y3_r1 := World.block_lt_of_cell? _ _ k3_r1_0
  simp only [] at y3_r1
  have k3_r2_0 := kept hw3 (p := ⟨w2.heap.size, 0, none⟩) (v := .int .i64 ((meetV a b c d).1)) (by first | ((repeat' first | with_reducible assumption | with_reducible refine cellA ?_ | with_reducible refine cellD ?_); done) | (simp [go_sem]; done) | (simp [go_sem, *]; done))
  have k3_r2_1 := kept hw3 (p := ⟨w2.heap.size, 1, none⟩) (v := .int .i64 ((meetV a b c d).2.1)) (by first | ((repeat' first | with_reducible assumption | with_reducible refine cellA ?_ | with_reducible refine cellD ?_); done) | (simp [go_sem]; done) | (simp [go_sem, *]; done))
  have y3_r2 := World.block_lt_of_cell? _ _ k3_r2_0
  simp only [] at y3_r2
  clear k2_s_0 k2_s_1 y2_s k2_t_0 k2_t_1 y2_t k2_r1_0 k2_r1_1 y2_r1
  unfold res
  go_wp2_with fail
  refine (rHull_any a b c d _).mono ?_
  rintro e w4 ⟨rfl, hw4⟩
  have k4_s_0 := kept hw4 (cellA k3_s_0)
  have k4_s_1 := kept hw4 (cellA k3_s_1)
  have y4_s := World.block_lt_of_cell? _ _ k4_s_0
  simp only [] at y4_s
  have k4_t_0 := kept hw4 (cellA k3_t_0)
  have k4_t_1 := kept hw4 (cellA k3_t_1)
  have y4_t := World.block_lt_of_cell? _ _ k4_t_0
  simp only [] at y4_t
  have k4_r1_0 := kept hw4 (cellA k3_r1_0)
  have k4_r1_1 := kept hw4 (cellA k3_r1_1)
  have y4_r1 := World.block_lt_of_cell? _ _ k4_r1_0
  simp only [] at y4_r1
  have k4_r2_0 := kept hw4 (cellA k3_r2_0)
  have k4_r2_1 := kept hw4 (cellA k3_r2_1)
  have y4_r2 := World.block_lt_of_cell? _ _ k4_r2_0
  simp only [] at y4_r2
  have k4_r3_0 := kept hw4 (p := ⟨w3.heap.size, 0, none⟩) (v := .int .i64 ((hullV a b c d).1)) (by first | ((repeat' first | with_reducible assumption | with_reducible refine cellA ?_ | with_reducible refine cellD ?_); done) | (simp [go_sem]; done) | (simp [go_sem, *]; done))
  have k4_r3_1 := kept hw4 (p := ⟨w3.heap.size, 1, none⟩) (v := .int .i64 ((hullV a b c d).2.1)) (by first | ((repeat' first | with_reducible assumption | with_reducible refine cellA ?_ | with_reducible refine cellD ?_); done) | (simp [go_sem]; done) | (simp [go_sem, *]; done))
  have y4_r3 := World.block_lt_of_cell? _ _ k4_r3_0
  simp only [] at y4_r3
  clear k3_s_0 k3_s_1 y3_s k3_t_0 k3_t_1 y3_t k3_r1_0 k3_r1_1 y3_r1 k3_r2_0 k3_r2_1 y3_r2
  unfold res
  go_wp2_with fail
  refine (awake_any _).mono ?_
  rintro e w5 ⟨rfl, hw5⟩
  go_wp2
  go_ret
  exact ⟨rfl, by (repeat' first | exact Below.refl _ _ | with_reducible refine Below.drew ?_ | with_reducible refine Below.drewN ?_ _ | with_reducible refine Below.alloc' ?_ _ | with_reducible refine Below.setCell ?_ (by first | exact Nat.le_refl _ | (simp; done) | (simp; omega)) _ | with_reducible refine Below.after ?_ ‹_›)⟩

set_option maxRecDepth 100000 in
set_option maxHeartbeats 4000000 in
theorem spanWidens_walk (a b y n d : Int) (w : World) (_ha : (Lit.int .i64 a).wf = true) (_hb : (Lit.int .i64 b).wf = true) (_hy : (Lit.int .i64 y).wf = true) (_hn : (Lit.int .i64 n).wf = true) (_hd : (Lit.int .i64 d).wf = true) :
    Calls Try.prog 8 #[.agg #[.int .i64 a, .int .i64 b], .int .i64 y, .agg #[.int .i64 n, .int .i64 d]] w fun e w' => e = .returned (.bool true) ∧ Below w.heap.size w w' := by
  clear _ha _hb _hy _hn _hd
  go_enter Try.func8, Try.ntmps8
  go_wp2_with fail
  refine (widen_any a b y _).mono ?_
  rintro e w1 ⟨rfl, hw1⟩
  have k1_s_0 := kept hw1 (p := ⟨w.heap.size, 0, none⟩) (v := .int .i64 a) (by first | ((repeat' first | with_reducible assumption | with_reducible refine cellA ?_ | with_reducible refine cellD ?_); done) | (simp [go_sem]; done) | (simp [go_sem, *]; done))
  have k1_s_1 := kept hw1 (p := ⟨w.heap.size, 1, none⟩) (v := .int .i64 b) (by first | ((repeat' first | with_reducible assumption | with_reducible refine cellA ?_ | with_reducible refine cellD ?_); done) | (simp [go_sem]; done) | (simp [go_sem, *]; done))
  have y1_s := World.block_lt_of_cell? _ _ k1_s_0
  simp only [] at y1_s
  have k1_n_0 := kept hw1 (p := ⟨w.heap.size + 1, 0, none⟩) (v := .int .i64 n) (by first | ((repeat' first | with_reducible assumption | with_reducible refine cellA ?_ | with_reducible refine cellD ?_); done) | (simp [go_sem]; done) | (simp [go_sem, *]; done))
  have k1_n_1 := kept hw1 (p := ⟨w.heap.size + 1, 1, none⟩) (v := .int .i64 d) (by first | ((repeat' first | with_reducible assumption | with_reducible refine cellA ?_ | with_reducible refine cellD ?_); done) | (simp [go_sem]; done) | (simp [go_sem, *]; done))
  have y1_n := World.block_lt_of_cell? _ _ k1_n_0
  simp only [] at y1_n
  unfold res
  go_wp2_with fail
  refine (rWiden_any a b y _).mono ?_
  rintro e w2 ⟨rfl, hw2⟩
  have k2_s_0 := kept hw2 (cellA k1_s_0)
  have k2_s_1 := kept hw2 (cellA k1_s_1)
  have y2_s := World.block_lt_of_cell? _ _ k2_s_0
  simp only [] at y2_s
  have k2_n_0 := kept hw2 (cellA k1_n_0)
  have k2_n_1 := kept hw2 (cellA k1_n_1)
  have y2_n := World.block_lt_of_cell? _ _ k2_n_0
  simp only [] at y2_n
  have k2_r1_0 := kept hw2 (p := ⟨w1.heap.size, 0, none⟩) (v := .int .i64 ((widenV a b y).1)) (by first | ((repeat' first | with_reducible assumption | with_reducible refine cellA ?_ | with_reducible refine cellD ?_); done) | (simp [go_sem]; done) | (simp [go_sem, *]; done))
  have k2_r1_1 := kept hw2 (p := ⟨w1.heap.size, 1, none⟩) (v := .int .i64 ((widenV a b y).2.1)) (by first | ((repeat' first | with_reducible assumption | with_reducible refine cellA ?_ | with_reducible refine cellD ?_); done) | (simp [go_sem]; done) | (simp [go_sem, *]; done))
  have y2_r1 := World.block_lt_of_cell? _ _ k2_r1_0
  simp only [] at y2_r1
  clear k1_s_0 k1_s_1 y1_s k1_n_0 k1_n_1 y1_n
  unfold res
  go_wp2_with fail
  refine (part_any a b n d _).mono ?_
  rintro e w3 ⟨rfl, hw3⟩
  have k3_s_0 := kept hw3 (cellA k2_s_0)
  have k3_s_1 := kept hw3 (cellA k2_s_1)
  have y3_s := World.block_lt_of_cell? _ _ k3_s_0
  simp only [] at y3_s
  have k3_n_0 := kept hw3 (cellA k2_n_0)
  have k3_n_1 := kept hw3 (cellA k2_n_1)
  have y3_n := World.block_lt_of_cell? _ _ k3_n_0
  simp only [] at y3_n
  have k3_r1_0 := kept hw3 (cellA k2_r1_0)
  have k3_r1_1 := kept hw3 (cellA k2_r1_1)
  have y3_r1 := World.block_lt_of_cell? _ _ k3_r1_0
  simp only [] at y3_r1
  have k3_r2_0 := kept hw3 (p := ⟨w2.heap.size, 0, none⟩) (v := .int .i64 ((widenV a b y).1)) (by first | ((repeat' first | with_reducible assumption | with_reducible refine cellA ?_ | with_reducible refine cellD ?_); done) | (simp [go_sem]; done) | (simp [go_sem, *]; done))
  have k3_r2_1 := kept hw3 (p := ⟨w2.heap.size, 1, none⟩) (v := .int .i64 ((widenV a b y).2.1)) (by first | ((repeat' first | with_reducible assumption | with_reducible refine cellA ?_ | with_reducible refine cellD ?_); done) | (simp [go_sem]; done) | (simp [go_sem, *]; done))
  have y3_r2 := World.block_lt_of_cell? _ _ k3_r2_0
  simp only [] at y3_r2
  clear k2_s_0 k2_s_1 y2_s k2_n_0 k2_n_1 y2_n k2_r1_0 k2_r1_1 y2_r1
  unfold res
  go_wp2_with fail
  refine (rPart_any a b n d _).mono ?_
  rintro e w4 ⟨rfl, hw4⟩
  have k4_s_0 := kept hw4 (cellA k3_s_0)
  have k4_s_1 := kept hw4 (cellA k3_s_1)
  have y4_s := World.block_lt_of_cell? _ _ k4_s_0
  simp only [] at y4_s
  have k4_n_0 := kept hw4 (cellA k3_n_0)
  have k4_n_1 := kept hw4 (cellA k3_n_1)
  have y4_n := World.block_lt_of_cell? _ _ k4_n_0
  simp only [] at y4_n
  have k4_r1_0 := kept hw4 (cellA k3_r1_0)
  have k4_r1_1 := kept hw4 (cellA k3_r1_1)
  have y4_r1 := World.block_lt_of_cell? _ _ k4_r1_0
  simp only [] at y4_r1
  have k4_r2_0 := kept hw4 (cellA k3_r2_0)
  have k4_r2_1 := kept hw4 (cellA k3_r2_1)
  have y4_r2 := World.block_lt_of_cell? _ _ k4_r2_0
  simp only [] at y4_r2
  have k4_r3_0 := kept hw4 (p := ⟨w3.heap.size, 0, none⟩) (v := .int .i64 ((partV a b n d).1)) (by first | ((repeat' first | with_reducible assumption | with_reducible refine cellA ?_ | with_reducible refine cellD ?_); done) | (simp [go_sem]; done) | (simp [go_sem, *]; done))
  have k4_r3_1 := kept hw4 (p := ⟨w3.heap.size, 1, none⟩) (v := .int .i64 ((partV a b n d).2.1)) (by first | ((repeat' first | with_reducible assumption | with_reducible refine cellA ?_ | with_reducible refine cellD ?_); done) | (simp [go_sem]; done) | (simp [go_sem, *]; done))
  have y4_r3 := World.block_lt_of_cell? _ _ k4_r3_0
  simp only [] at y4_r3
  clear k3_s_0 k3_s_1 y3_s k3_n_0 k3_n_1 y3_n k3_r1_0 k3_r1_1 y3_r1 k3_r2_0 k3_r2_1 y3_r2
  unfold res
  go_wp2_with fail
  refine (awake_any _).mono ?_
  rintro e w5 ⟨rfl, hw5⟩
  go_wp2
  go_ret
  exact ⟨rfl, by (repeat' first | exact Below.refl _ _ | with_reducible refine Below.drew ?_ | with_reducible refine Below.drewN ?_ _ | with_reducible refine Below.alloc' ?_ _ | with_reducible refine Below.setCell ?_ (by first | exact Nat.le_refl _ | (simp; done) | (simp; omega)) _ | with_reducible refine Below.after ?_ ‹_›)⟩

end Go.Proofs.Ytnehmkdcifgpnaa
