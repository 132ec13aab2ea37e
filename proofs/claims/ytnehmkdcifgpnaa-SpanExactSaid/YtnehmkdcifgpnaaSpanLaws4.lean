/-
  The walk of SpanExact.
-/
import Derived.Test.YtnehmkdcifgpnaaSpanW
namespace Go.Proofs.Ytnehmkdcifgpnaa
open Go.RowKit

theorem hasB_mk {a b x : Int} (h : vB a b = true) (h1 : a ≤ x) (h2 : x ≤ b) : hasB a b x = true := by
  unfold hasB
  rw [h]
  simp
  omega
theorem hasB_out {a b x : Int} (h : hasB a b x = true) : vB a b = true ∧ a ≤ x ∧ x ≤ b := by
  unfold hasB at h
  simp at h
  exact ⟨h.1.1, h.1.2, h.2⟩

set_option maxRecDepth 100000 in
set_option maxHeartbeats 8000000 in
theorem exact_11 (a b c d z : Int) (w : World) {X Y e Z U f : Int} (e1 : addV a b c d = (X, Y, e)) (e2 : subV a b c d = (Z, U, f)) 
    (hA : (e == 0) = false) (hS : (f == 0) = false) :
    Calls Try.prog 10 #[.agg #[.int .i64 a, .int .i64 b], .agg #[.int .i64 c, .int .i64 d], .int .i64 z] w fun e w' => e = .returned (.bool true) ∧ Below w.heap.size w w' := by
  have E1 := Lib.hid e1
  have E2 := Lib.hid e2
  clear e1 e2
  go_enter Try.func10, Try.ntmps10
  go_wp2_with fail
  refine (add_is E1.out _).mono ?_
  rintro e w1 ⟨rfl, hw1⟩
  have k1_s_0 := kept hw1 (p := ⟨w.heap.size, 0, none⟩) (v := .int .i64 a) (by first | ((repeat' first | with_reducible assumption | with_reducible refine cellA ?_ | with_reducible refine cellD ?_); done) | (simp [go_sem]; done) | (simp [go_sem, *]; done))
  have k1_s_1 := kept hw1 (p := ⟨w.heap.size, 1, none⟩) (v := .int .i64 b) (by first | ((repeat' first | with_reducible assumption | with_reducible refine cellA ?_ | with_reducible refine cellD ?_); done) | (simp [go_sem]; done) | (simp [go_sem, *]; done))
  have y1_s := World.block_lt_of_cell? _ _ k1_s_0
  simp only [] at y1_s
  have k1_t_0 := kept hw1 (p := ⟨w.heap.size + 1, 0, none⟩) (v := .int .i64 c) (by first | ((repeat' first | with_reducible assumption | with_reducible refine cellA ?_ | with_reducible refine cellD ?_); done) | (simp [go_sem]; done) | (simp [go_sem, *]; done))
  have k1_t_1 := kept hw1 (p := ⟨w.heap.size + 1, 1, none⟩) (v := .int .i64 d) (by first | ((repeat' first | with_reducible assumption | with_reducible refine cellA ?_ | with_reducible refine cellD ?_); done) | (simp [go_sem]; done) | (simp [go_sem, *]; done))
  have y1_t := World.block_lt_of_cell? _ _ k1_t_0
  simp only [] at y1_t
  go_wp2_with fail
  refine (sub_is E2.out _).mono ?_
  rintro e w5 ⟨rfl, hw5⟩
  have k2_s_0 := kept hw5 (cellA k1_s_0)
  have k2_s_1 := kept hw5 (cellA k1_s_1)
  have y2_s := World.block_lt_of_cell? _ _ k2_s_0
  simp only [] at y2_s
  have k2_t_0 := kept hw5 (cellA k1_t_0)
  have k2_t_1 := kept hw5 (cellA k1_t_1)
  have y2_t := World.block_lt_of_cell? _ _ k2_t_0
  simp only [] at y2_t
  clear k1_s_0 k1_s_1 y1_s k1_t_0 k1_t_1 y1_t
  go_wp2_with fail
  refine (awake_any _).mono ?_
  rintro e w9 ⟨rfl, hw9⟩
  go_wp2
  go_ret
  exact ⟨rfl, by (repeat' first | exact Below.refl _ _ | with_reducible refine Below.drew ?_ | with_reducible refine Below.drewN ?_ _ | with_reducible refine Below.alloc' ?_ _ | with_reducible refine Below.setCell ?_ (by first | exact Nat.le_refl _ | (simp; done) | (simp; omega)) _ | with_reducible refine Below.after ?_ ‹_›)⟩

set_option maxRecDepth 100000 in
set_option maxHeartbeats 8000000 in
theorem exact_12 (a b c d z : Int) (w : World) {X Y e Z U f : Int} (e1 : addV a b c d = (X, Y, e)) (e2 : subV a b c d = (Z, U, f)) 
    (hA : (e == 0) = false) (hS : f = 0) (hS1 : hasB Z U z = false) :
    Calls Try.prog 10 #[.agg #[.int .i64 a, .int .i64 b], .agg #[.int .i64 c, .int .i64 d], .int .i64 z] w fun e w' => e = .returned (.bool true) ∧ Below w.heap.size w w' := by
  subst hS
  have HS := Lib.hid hS1
  clear hS1
  have E1 := Lib.hid e1
  have E2 := Lib.hid e2
  clear e1 e2
  go_enter Try.func10, Try.ntmps10
  go_wp2_with fail
  refine (add_is E1.out _).mono ?_
  rintro e w1 ⟨rfl, hw1⟩
  have k1_s_0 := kept hw1 (p := ⟨w.heap.size, 0, none⟩) (v := .int .i64 a) (by first | ((repeat' first | with_reducible assumption | with_reducible refine cellA ?_ | with_reducible refine cellD ?_); done) | (simp [go_sem]; done) | (simp [go_sem, *]; done))
  have k1_s_1 := kept hw1 (p := ⟨w.heap.size, 1, none⟩) (v := .int .i64 b) (by first | ((repeat' first | with_reducible assumption | with_reducible refine cellA ?_ | with_reducible refine cellD ?_); done) | (simp [go_sem]; done) | (simp [go_sem, *]; done))
  have y1_s := World.block_lt_of_cell? _ _ k1_s_0
  simp only [] at y1_s
  have k1_t_0 := kept hw1 (p := ⟨w.heap.size + 1, 0, none⟩) (v := .int .i64 c) (by first | ((repeat' first | with_reducible assumption | with_reducible refine cellA ?_ | with_reducible refine cellD ?_); done) | (simp [go_sem]; done) | (simp [go_sem, *]; done))
  have k1_t_1 := kept hw1 (p := ⟨w.heap.size + 1, 1, none⟩) (v := .int .i64 d) (by first | ((repeat' first | with_reducible assumption | with_reducible refine cellA ?_ | with_reducible refine cellD ?_); done) | (simp [go_sem]; done) | (simp [go_sem, *]; done))
  have y1_t := World.block_lt_of_cell? _ _ k1_t_0
  simp only [] at y1_t
  go_wp2_with fail
  refine (sub_is E2.out _).mono ?_
  rintro e w5 ⟨rfl, hw5⟩
  have k2_s_0 := kept hw5 (cellA k1_s_0)
  have k2_s_1 := kept hw5 (cellA k1_s_1)
  have y2_s := World.block_lt_of_cell? _ _ k2_s_0
  simp only [] at y2_s
  have k2_t_0 := kept hw5 (cellA k1_t_0)
  have k2_t_1 := kept hw5 (cellA k1_t_1)
  have y2_t := World.block_lt_of_cell? _ _ k2_t_0
  simp only [] at y2_t
  clear k1_s_0 k1_s_1 y1_s k1_t_0 k1_t_1 y1_t
  go_wp2_with fail
  refine (has_is HS.out _).mono ?_
  rintro e w6 ⟨rfl, hw6⟩
  have k3_s_0 := kept hw6 (cellA k2_s_0)
  have k3_s_1 := kept hw6 (cellA k2_s_1)
  have y3_s := World.block_lt_of_cell? _ _ k3_s_0
  simp only [] at y3_s
  have k3_t_0 := kept hw6 (cellA k2_t_0)
  have k3_t_1 := kept hw6 (cellA k2_t_1)
  have y3_t := World.block_lt_of_cell? _ _ k3_t_0
  simp only [] at y3_t
  have k3_q_0 := kept hw6 (p := ⟨w5.heap.size, 0, none⟩) (v := .int .i64 Z) (by first | ((repeat' first | with_reducible assumption | with_reducible refine cellA ?_ | with_reducible refine cellD ?_); done) | (simp [go_sem]; done) | (simp [go_sem, *]; done))
  have k3_q_1 := kept hw6 (p := ⟨w5.heap.size, 1, none⟩) (v := .int .i64 U) (by first | ((repeat' first | with_reducible assumption | with_reducible refine cellA ?_ | with_reducible refine cellD ?_); done) | (simp [go_sem]; done) | (simp [go_sem, *]; done))
  have y3_q := World.block_lt_of_cell? _ _ k3_q_0
  simp only [] at y3_q
  clear k2_s_0 k2_s_1 y2_s k2_t_0 k2_t_1 y2_t
  go_wp2_with fail
  refine (awake_any _).mono ?_
  rintro e w9 ⟨rfl, hw9⟩
  go_wp2
  go_ret
  exact ⟨rfl, by (repeat' first | exact Below.refl _ _ | with_reducible refine Below.drew ?_ | with_reducible refine Below.drewN ?_ _ | with_reducible refine Below.alloc' ?_ _ | with_reducible refine Below.setCell ?_ (by first | exact Nat.le_refl _ | (simp; done) | (simp; omega)) _ | with_reducible refine Below.after ?_ ‹_›)⟩

set_option maxRecDepth 100000 in
set_option maxHeartbeats 8000000 in
theorem exact_13 (a b c d z : Int) (w : World) {X Y e Z U f : Int} (e1 : addV a b c d = (X, Y, e)) (e2 : subV a b c d = (Z, U, f)) (v1 : vB a b = true) (v2 : vB c d = true)
    (hA : (e == 0) = false) (hS : f = 0) (hS1 : hasB Z U z = true) (gS1 : a - d ≤ z) (gS2 : z ≤ b - c) (mS : a < z + c) :
    Calls Try.prog 10 #[.agg #[.int .i64 a, .int .i64 b], .agg #[.int .i64 c, .int .i64 d], .int .i64 z] w fun e w' => e = .returned (.bool true) ∧ Below w.heap.size w w' := by
  have l1 := vB_true.1 v1
  have l2 := vB_true.1 v2
  have b1 : -70368744177664 ≤ a ∧ a ≤ 70368744177664 := by omega
  have b2 : -70368744177664 ≤ b ∧ b ≤ 70368744177664 := by omega
  have b3 : -70368744177664 ≤ c ∧ c ≤ 70368744177664 := by omega
  have b4 : -70368744177664 ≤ d ∧ d ≤ 70368744177664 := by omega
  have b5 : -140737488355328 ≤ z ∧ z ≤ 140737488355328 := by omega
  have l3 := Lib.hid l1
  have l4 := Lib.hid l2
  have V1 := Lib.hid v1
  have V2 := Lib.hid v2
  clear v1 v2 l1 l2
  subst hS
  have HS := Lib.hid hS1
  clear hS1
  have E1 := Lib.hid e1
  have E2 := Lib.hid e2
  clear e1 e2
  have GS := Lib.hid (And.intro gS1 gS2)
  clear gS1 gS2
  go_enter Try.func10, Try.ntmps10
  go_wp2_with fail
  refine (add_is E1.out _).mono ?_
  rintro e w1 ⟨rfl, hw1⟩
  have k1_s_0 := kept hw1 (p := ⟨w.heap.size, 0, none⟩) (v := .int .i64 a) (by first | ((repeat' first | with_reducible assumption | with_reducible refine cellA ?_ | with_reducible refine cellD ?_); done) | (simp [go_sem]; done) | (simp [go_sem, *]; done))
  have k1_s_1 := kept hw1 (p := ⟨w.heap.size, 1, none⟩) (v := .int .i64 b) (by first | ((repeat' first | with_reducible assumption | with_reducible refine cellA ?_ | with_reducible refine cellD ?_); done) | (simp [go_sem]; done) | (simp [go_sem, *]; done))
  have y1_s := World.block_lt_of_cell? _ _ k1_s_0
  simp only [] at y1_s
  have k1_t_0 := kept hw1 (p := ⟨w.heap.size + 1, 0, none⟩) (v := .int .i64 c) (by first | ((repeat' first | with_reducible assumption | with_reducible refine cellA ?_ | with_reducible refine cellD ?_); done) | (simp [go_sem]; done) | (simp [go_sem, *]; done))
  have k1_t_1 := kept hw1 (p := ⟨w.heap.size + 1, 1, none⟩) (v := .int .i64 d) (by first | ((repeat' first | with_reducible assumption | with_reducible refine cellA ?_ | with_reducible refine cellD ?_); done) | (simp [go_sem]; done) | (simp [go_sem, *]; done))
  have y1_t := World.block_lt_of_cell? _ _ k1_t_0
  simp only [] at y1_t
  go_wp2_with fail
  refine (sub_is E2.out _).mono ?_
  rintro e w5 ⟨rfl, hw5⟩
  have k2_s_0 := kept hw5 (cellA k1_s_0)
  have k2_s_1 := kept hw5 (cellA k1_s_1)
  have y2_s := World.block_lt_of_cell? _ _ k2_s_0
  simp only [] at y2_s
  have k2_t_0 := kept hw5 (cellA k1_t_0)
  have k2_t_1 := kept hw5 (cellA k1_t_1)
  have y2_t := World.block_lt_of_cell? _ _ k2_t_0
  simp only [] at y2_t
  clear k1_s_0 k1_s_1 y1_s k1_t_0 k1_t_1 y1_t
  go_wp2_with fail
  refine (has_is HS.out _).mono ?_
  rintro e w6 ⟨rfl, hw6⟩
  have k3_s_0 := kept hw6 (cellA k2_s_0)
  have k3_s_1 := kept hw6 (cellA k2_s_1)
  have y3_s := World.block_lt_of_cell? _ _ k3_s_0
  simp only [] at y3_s
  have k3_t_0 := kept hw6 (cellA k2_t_0)
  have k3_t_1 := kept hw6 (cellA k2_t_1)
  have y3_t := World.block_lt_of_cell? _ _ k3_t_0
  simp only [] at y3_t
  have k3_q_0 := kept hw6 (p := ⟨w5.heap.size, 0, none⟩) (v := .int .i64 Z) (by first | ((repeat' first | with_reducible assumption | with_reducible refine cellA ?_ | with_reducible refine cellD ?_); done) | (simp [go_sem]; done) | (simp [go_sem, *]; done))
  have k3_q_1 := kept hw6 (p := ⟨w5.heap.size, 1, none⟩) (v := .int .i64 U) (by first | ((repeat' first | with_reducible assumption | with_reducible refine cellA ?_ | with_reducible refine cellD ?_); done) | (simp [go_sem]; done) | (simp [go_sem, *]; done))
  have y3_q := World.block_lt_of_cell? _ _ k3_q_0
  simp only [] at y3_q
  clear k2_s_0 k2_s_1 y2_s k2_t_0 k2_t_1 y2_t
  go_wp2_with fail
  refine (has_is (r := true) (hasB_mk V1.out (by have := l3.out; have := l4.out; have := GS.out; omega) (by have := l3.out; have := l4.out; have := GS.out; omega)) _).mono ?_
  rintro e w7 ⟨rfl, hw7⟩
  have k4_s_0 := kept hw7 k3_s_0
  have k4_s_1 := kept hw7 k3_s_1
  have y4_s := World.block_lt_of_cell? _ _ k4_s_0
  simp only [] at y4_s
  have k4_t_0 := kept hw7 k3_t_0
  have k4_t_1 := kept hw7 k3_t_1
  have y4_t := World.block_lt_of_cell? _ _ k4_t_0
  simp only [] at y4_t
  clear k3_s_0 k3_s_1 y3_s k3_t_0 k3_t_1 y3_t k3_q_0 k3_q_1 y3_q
  go_wp2_with fail
  refine (has_is (r := true) (hasB_mk V2.out (by have := l3.out; have := l4.out; have := GS.out; omega) (by have := l3.out; have := l4.out; have := GS.out; omega)) _).mono ?_
  rintro e w8 ⟨rfl, hw8⟩
  have k5_s_0 := kept hw8 k4_s_0
  have k5_s_1 := kept hw8 k4_s_1
  have y5_s := World.block_lt_of_cell? _ _ k5_s_0
  simp only [] at y5_s
  have k5_t_0 := kept hw8 k4_t_0
  have k5_t_1 := kept hw8 k4_t_1
  have y5_t := World.block_lt_of_cell? _ _ k5_t_0
  simp only [] at y5_t
  clear k4_s_0 k4_s_1 y4_s k4_t_0 k4_t_1 y4_t
  go_wp2_with fail
  refine (awake_any _).mono ?_
  rintro e w9 ⟨rfl, hw9⟩
  go_wp2
  go_ret
  exact ⟨rfl, by (repeat' first | exact Below.refl _ _ | with_reducible refine Below.drew ?_ | with_reducible refine Below.drewN ?_ _ | with_reducible refine Below.alloc' ?_ _ | with_reducible refine Below.setCell ?_ (by first | exact Nat.le_refl _ | (simp; done) | (simp; omega)) _ | with_reducible refine Below.after ?_ ‹_›)⟩

set_option maxRecDepth 100000 in
set_option maxHeartbeats 8000000 in
theorem exact_14 (a b c d z : Int) (w : World) {X Y e Z U f : Int} (e1 : addV a b c d = (X, Y, e)) (e2 : subV a b c d = (Z, U, f)) (v1 : vB a b = true) (v2 : vB c d = true)
    (hA : (e == 0) = false) (hS : f = 0) (hS1 : hasB Z U z = true) (gS1 : a - d ≤ z) (gS2 : z ≤ b - c) (mS : z + c ≤ a) :
    Calls Try.prog 10 #[.agg #[.int .i64 a, .int .i64 b], .agg #[.int .i64 c, .int .i64 d], .int .i64 z] w fun e w' => e = .returned (.bool true) ∧ Below w.heap.size w w' := by
  have l1 := vB_true.1 v1
  have l2 := vB_true.1 v2
  have b1 : -70368744177664 ≤ a ∧ a ≤ 70368744177664 := by omega
  have b2 : -70368744177664 ≤ b ∧ b ≤ 70368744177664 := by omega
  have b3 : -70368744177664 ≤ c ∧ c ≤ 70368744177664 := by omega
  have b4 : -70368744177664 ≤ d ∧ d ≤ 70368744177664 := by omega
  have b5 : -140737488355328 ≤ z ∧ z ≤ 140737488355328 := by omega
  have l3 := Lib.hid l1
  have l4 := Lib.hid l2
  have V1 := Lib.hid v1
  have V2 := Lib.hid v2
  clear v1 v2 l1 l2
  subst hS
  have HS := Lib.hid hS1
  clear hS1
  have E1 := Lib.hid e1
  have E2 := Lib.hid e2
  clear e1 e2
  have GS := Lib.hid (And.intro gS1 gS2)
  clear gS1 gS2
  go_enter Try.func10, Try.ntmps10
  go_wp2_with fail
  refine (add_is E1.out _).mono ?_
  rintro e w1 ⟨rfl, hw1⟩
  have k1_s_0 := kept hw1 (p := ⟨w.heap.size, 0, none⟩) (v := .int .i64 a) (by first | ((repeat' first | with_reducible assumption | with_reducible refine cellA ?_ | with_reducible refine cellD ?_); done) | (simp [go_sem]; done) | (simp [go_sem, *]; done))
  have k1_s_1 := kept hw1 (p := ⟨w.heap.size, 1, none⟩) (v := .int .i64 b) (by first | ((repeat' first | with_reducible assumption | with_reducible refine cellA ?_ | with_reducible refine cellD ?_); done) | (simp [go_sem]; done) | (simp [go_sem, *]; done))
  have y1_s := World.block_lt_of_cell? _ _ k1_s_0
  simp only [] at y1_s
  have k1_t_0 := kept hw1 (p := ⟨w.heap.size + 1, 0, none⟩) (v := .int .i64 c) (by first | ((repeat' first | with_reducible assumption | with_reducible refine cellA ?_ | with_reducible refine cellD ?_); done) | (simp [go_sem]; done) | (simp [go_sem, *]; done))
  have k1_t_1 := kept hw1 (p := ⟨w.heap.size + 1, 1, none⟩) (v := .int .i64 d) (by first | ((repeat' first | with_reducible assumption | with_reducible refine cellA ?_ | with_reducible refine cellD ?_); done) | (simp [go_sem]; done) | (simp [go_sem, *]; done))
  have y1_t := World.block_lt_of_cell? _ _ k1_t_0
  simp only [] at y1_t
  go_wp2_with fail
  refine (sub_is E2.out _).mono ?_
  rintro e w5 ⟨rfl, hw5⟩
  have k2_s_0 := kept hw5 (cellA k1_s_0)
  have k2_s_1 := kept hw5 (cellA k1_s_1)
  have y2_s := World.block_lt_of_cell? _ _ k2_s_0
  simp only [] at y2_s
  have k2_t_0 := kept hw5 (cellA k1_t_0)
  have k2_t_1 := kept hw5 (cellA k1_t_1)
  have y2_t := World.block_lt_of_cell? _ _ k2_t_0
  simp only [] at y2_t
  clear k1_s_0 k1_s_1 y1_s k1_t_0 k1_t_1 y1_t
  go_wp2_with fail
  refine (has_is HS.out _).mono ?_
  rintro e w6 ⟨rfl, hw6⟩
  have k3_s_0 := kept hw6 (cellA k2_s_0)
  have k3_s_1 := kept hw6 (cellA k2_s_1)
  have y3_s := World.block_lt_of_cell? _ _ k3_s_0
  simp only [] at y3_s
  have k3_t_0 := kept hw6 (cellA k2_t_0)
  have k3_t_1 := kept hw6 (cellA k2_t_1)
  have y3_t := World.block_lt_of_cell? _ _ k3_t_0
  simp only [] at y3_t
  have k3_q_0 := kept hw6 (p := ⟨w5.heap.size, 0, none⟩) (v := .int .i64 Z) (by first | ((repeat' first | with_reducible assumption | with_reducible refine cellA ?_ | with_reducible refine cellD ?_); done) | (simp [go_sem]; done) | (simp [go_sem, *]; done))
  have k3_q_1 := kept hw6 (p := ⟨w5.heap.size, 1, none⟩) (v := .int .i64 U) (by first | ((repeat' first | with_reducible assumption | with_reducible refine cellA ?_ | with_reducible refine cellD ?_); done) | (simp [go_sem]; done) | (simp [go_sem, *]; done))
  have y3_q := World.block_lt_of_cell? _ _ k3_q_0
  simp only [] at y3_q
  clear k2_s_0 k2_s_1 y2_s k2_t_0 k2_t_1 y2_t
  go_wp2_with fail
  refine (has_is (r := true) (hasB_mk V1.out (by have := l3.out; have := l4.out; have := GS.out; omega) (by have := l3.out; have := l4.out; have := GS.out; omega)) _).mono ?_
  rintro e w7 ⟨rfl, hw7⟩
  have k4_s_0 := kept hw7 k3_s_0
  have k4_s_1 := kept hw7 k3_s_1
  have y4_s := World.block_lt_of_cell? _ _ k4_s_0
  simp only [] at y4_s
  have k4_t_0 := kept hw7 k3_t_0
  have k4_t_1 := kept hw7 k3_t_1
  have y4_t := World.block_lt_of_cell? _ _ k4_t_0
  simp only [] at y4_t
  clear k3_s_0 k3_s_1 y3_s k3_t_0 k3_t_1 y3_t k3_q_0 k3_q_1 y3_q
  go_wp2_with fail
  refine (has_is (r := true) (hasB_mk V2.out (by have := l3.out; have := l4.out; have := GS.out; omega) (by have := l3.out; have := l4.out; have := GS.out; omega)) _).mono ?_
  rintro e w8 ⟨rfl, hw8⟩
  have k5_s_0 := kept hw8 k4_s_0
  have k5_s_1 := kept hw8 k4_s_1
  have y5_s := World.block_lt_of_cell? _ _ k5_s_0
  simp only [] at y5_s
  have k5_t_0 := kept hw8 k4_t_0
  have k5_t_1 := kept hw8 k4_t_1
  have y5_t := World.block_lt_of_cell? _ _ k5_t_0
  simp only [] at y5_t
  clear k4_s_0 k4_s_1 y4_s k4_t_0 k4_t_1 y4_t
  go_wp2_with fail
  refine (awake_any _).mono ?_
  rintro e w9 ⟨rfl, hw9⟩
  go_wp2
  go_ret
  exact ⟨rfl, by (repeat' first | exact Below.refl _ _ | with_reducible refine Below.drew ?_ | with_reducible refine Below.drewN ?_ _ | with_reducible refine Below.alloc' ?_ _ | with_reducible refine Below.setCell ?_ (by first | exact Nat.le_refl _ | (simp; done) | (simp; omega)) _ | with_reducible refine Below.after ?_ ‹_›)⟩

set_option maxRecDepth 100000 in
set_option maxHeartbeats 8000000 in
theorem exact_21 (a b c d z : Int) (w : World) {X Y e Z U f : Int} (e1 : addV a b c d = (X, Y, e)) (e2 : subV a b c d = (Z, U, f)) 
    (hA : e = 0) (hA1 : hasB X Y z = false) (hS : (f == 0) = false) :
    Calls Try.prog 10 #[.agg #[.int .i64 a, .int .i64 b], .agg #[.int .i64 c, .int .i64 d], .int .i64 z] w fun e w' => e = .returned (.bool true) ∧ Below w.heap.size w w' := by
  subst hA
  have HA := Lib.hid hA1
  clear hA1
  have E1 := Lib.hid e1
  have E2 := Lib.hid e2
  clear e1 e2
  go_enter Try.func10, Try.ntmps10
  go_wp2_with fail
  refine (add_is E1.out _).mono ?_
  rintro e w1 ⟨rfl, hw1⟩
  have k1_s_0 := kept hw1 (p := ⟨w.heap.size, 0, none⟩) (v := .int .i64 a) (by first | ((repeat' first | with_reducible assumption | with_reducible refine cellA ?_ | with_reducible refine cellD ?_); done) | (simp [go_sem]; done) | (simp [go_sem, *]; done))
  have k1_s_1 := kept hw1 (p := ⟨w.heap.size, 1, none⟩) (v := .int .i64 b) (by first | ((repeat' first | with_reducible assumption | with_reducible refine cellA ?_ | with_reducible refine cellD ?_); done) | (simp [go_sem]; done) | (simp [go_sem, *]; done))
  have y1_s := World.block_lt_of_cell? _ _ k1_s_0
  simp only [] at y1_s
  have k1_t_0 := kept hw1 (p := ⟨w.heap.size + 1, 0, none⟩) (v := .int .i64 c) (by first | ((repeat' first | with_reducible assumption | with_reducible refine cellA ?_ | with_reducible refine cellD ?_); done) | (simp [go_sem]; done) | (simp [go_sem, *]; done))
  have k1_t_1 := kept hw1 (p := ⟨w.heap.size + 1, 1, none⟩) (v := .int .i64 d) (by first | ((repeat' first | with_reducible assumption | with_reducible refine cellA ?_ | with_reducible refine cellD ?_); done) | (simp [go_sem]; done) | (simp [go_sem, *]; done))
  have y1_t := World.block_lt_of_cell? _ _ k1_t_0
  simp only [] at y1_t
  go_wp2_with fail
  refine (has_is HA.out _).mono ?_
  rintro e w2 ⟨rfl, hw2⟩
  have k2_s_0 := kept hw2 (cellA k1_s_0)
  have k2_s_1 := kept hw2 (cellA k1_s_1)
  have y2_s := World.block_lt_of_cell? _ _ k2_s_0
  simp only [] at y2_s
  have k2_t_0 := kept hw2 (cellA k1_t_0)
  have k2_t_1 := kept hw2 (cellA k1_t_1)
  have y2_t := World.block_lt_of_cell? _ _ k2_t_0
  simp only [] at y2_t
  have k2_r_0 := kept hw2 (p := ⟨w1.heap.size, 0, none⟩) (v := .int .i64 X) (by first | ((repeat' first | with_reducible assumption | with_reducible refine cellA ?_ | with_reducible refine cellD ?_); done) | (simp [go_sem]; done) | (simp [go_sem, *]; done))
  have k2_r_1 := kept hw2 (p := ⟨w1.heap.size, 1, none⟩) (v := .int .i64 Y) (by first | ((repeat' first | with_reducible assumption | with_reducible refine cellA ?_ | with_reducible refine cellD ?_); done) | (simp [go_sem]; done) | (simp [go_sem, *]; done))
  have y2_r := World.block_lt_of_cell? _ _ k2_r_0
  simp only [] at y2_r
  clear k1_s_0 k1_s_1 y1_s k1_t_0 k1_t_1 y1_t
  go_wp2_with fail
  refine (sub_is E2.out _).mono ?_
  rintro e w5 ⟨rfl, hw5⟩
  have k3_s_0 := kept hw5 k2_s_0
  have k3_s_1 := kept hw5 k2_s_1
  have y3_s := World.block_lt_of_cell? _ _ k3_s_0
  simp only [] at y3_s
  have k3_t_0 := kept hw5 k2_t_0
  have k3_t_1 := kept hw5 k2_t_1
  have y3_t := World.block_lt_of_cell? _ _ k3_t_0
  simp only [] at y3_t
  clear k2_s_0 k2_s_1 y2_s k2_t_0 k2_t_1 y2_t k2_r_0 k2_r_1 y2_r
  go_wp2_with fail
  refine (awake_any _).mono ?_
  rintro e w9 ⟨rfl, hw9⟩
  go_wp2
  go_ret
  exact ⟨rfl, by (repeat' first | exact Below.refl _ _ | with_reducible refine Below.drew ?_ | with_reducible refine Below.drewN ?_ _ | with_reducible refine Below.alloc' ?_ _ | with_reducible refine Below.setCell ?_ (by first | exact Nat.le_refl _ | (simp; done) | (simp; omega)) _ | with_reducible refine Below.after ?_ ‹_›)⟩

set_option maxRecDepth 100000 in
set_option maxHeartbeats 8000000 in
theorem exact_22 (a b c d z : Int) (w : World) {X Y e Z U f : Int} (e1 : addV a b c d = (X, Y, e)) (e2 : subV a b c d = (Z, U, f)) 
    (hA : e = 0) (hA1 : hasB X Y z = false) (hS : f = 0) (hS1 : hasB Z U z = false) :
    Calls Try.prog 10 #[.agg #[.int .i64 a, .int .i64 b], .agg #[.int .i64 c, .int .i64 d], .int .i64 z] w fun e w' => e = .returned (.bool true) ∧ Below w.heap.size w w' := by
  subst hA
  have HA := Lib.hid hA1
  clear hA1
  subst hS
  have HS := Lib.hid hS1
  clear hS1
  have E1 := Lib.hid e1
  have E2 := Lib.hid e2
  clear e1 e2
  go_enter Try.func10, Try.ntmps10
  go_wp2_with fail
  refine (add_is E1.out _).mono ?_
  rintro e w1 ⟨rfl, hw1⟩
  have k1_s_0 := kept hw1 (p := ⟨w.heap.size, 0, none⟩) (v := .int .i64 a) (by first | ((repeat' first | with_reducible assumption | with_reducible refine cellA ?_ | with_reducible refine cellD ?_); done) | (simp [go_sem]; done) | (simp [go_sem, *]; done))
  have k1_s_1 := kept hw1 (p := ⟨w.heap.size, 1, none⟩) (v := .int .i64 b) (by first | ((repeat' first | with_reducible assumption | with_reducible refine cellA ?_ | with_reducible refine cellD ?_); done) | (simp [go_sem]; done) | (simp [go_sem, *]; done))
  have y1_s := World.block_lt_of_cell? _ _ k1_s_0
  simp only [] at y1_s
  have k1_t_0 := kept hw1 (p := ⟨w.heap.size + 1, 0, none⟩) (v := .int .i64 c) (by first | ((repeat' first | with_reducible assumption | with_reducible refine cellA ?_ | with_reducible refine cellD ?_); done) | (simp [go_sem]; done) | (simp [go_sem, *]; done))
  have k1_t_1 := kept hw1 (p := ⟨w.heap.size + 1, 1, none⟩) (v := .int .i64 d) (by first | ((repeat' first | with_reducible assumption | with_reducible refine cellA ?_ | with_reducible refine cellD ?_); done) | (simp [go_sem]; done) | (simp [go_sem, *]; done))
  have y1_t := World.block_lt_of_cell? _ _ k1_t_0
  simp only [] at y1_t
  go_wp2_with fail
  refine (has_is HA.out _).mono ?_
  rintro e w2 ⟨rfl, hw2⟩
  have k2_s_0 := kept hw2 (cellA k1_s_0)
  have k2_s_1 := kept hw2 (cellA k1_s_1)
  have y2_s := World.block_lt_of_cell? _ _ k2_s_0
  simp only [] at y2_s
  have k2_t_0 := kept hw2 (cellA k1_t_0)
  have k2_t_1 := kept hw2 (cellA k1_t_1)
  have y2_t := World.block_lt_of_cell? _ _ k2_t_0
  simp only [] at y2_t
  have k2_r_0 := kept hw2 (p := ⟨w1.heap.size, 0, none⟩) (v := .int .i64 X) (by first | ((repeat' first | with_reducible assumption | with_reducible refine cellA ?_ | with_reducible refine cellD ?_); done) | (simp [go_sem]; done) | (simp [go_sem, *]; done))
  have k2_r_1 := kept hw2 (p := ⟨w1.heap.size, 1, none⟩) (v := .int .i64 Y) (by first | ((repeat' first | with_reducible assumption | with_reducible refine cellA ?_ | with_reducible refine cellD ?_); done) | (simp [go_sem]; done) | (simp [go_sem, *]; done))
  have y2_r := World.block_lt_of_cell? _ _ k2_r_0
  simp only [] at y2_r
  clear k1_s_0 k1_s_1 y1_s k1_t_0 k1_t_1 y1_t
  go_wp2_with fail
  refine (sub_is E2.out _).mono ?_
  rintro e w5 ⟨rfl, hw5⟩
  have k3_s_0 := kept hw5 k2_s_0
  have k3_s_1 := kept hw5 k2_s_1
  have y3_s := World.block_lt_of_cell? _ _ k3_s_0
  simp only [] at y3_s
  have k3_t_0 := kept hw5 k2_t_0
  have k3_t_1 := kept hw5 k2_t_1
  have y3_t := World.block_lt_of_cell? _ _ k3_t_0
  simp only [] at y3_t
  clear k2_s_0 k2_s_1 y2_s k2_t_0 k2_t_1 y2_t k2_r_0 k2_r_1 y2_r
  go_wp2_with fail
  refine (has_is HS.out _).mono ?_
  rintro e w6 ⟨rfl, hw6⟩
  have k4_s_0 := kept hw6 (cellA k3_s_0)
  have k4_s_1 := kept hw6 (cellA k3_s_1)
  have y4_s := World.block_lt_of_cell? _ _ k4_s_0
  simp only [] at y4_s
  have k4_t_0 := kept hw6 (cellA k3_t_0)
  have k4_t_1 := kept hw6 (cellA k3_t_1)
  have y4_t := World.block_lt_of_cell? _ _ k4_t_0
  simp only [] at y4_t
  have k4_q_0 := kept hw6 (p := ⟨w5.heap.size, 0, none⟩) (v := .int .i64 Z) (by first | ((repeat' first | with_reducible assumption | with_reducible refine cellA ?_ | with_reducible refine cellD ?_); done) | (simp [go_sem]; done) | (simp [go_sem, *]; done))
  have k4_q_1 := kept hw6 (p := ⟨w5.heap.size, 1, none⟩) (v := .int .i64 U) (by first | ((repeat' first | with_reducible assumption | with_reducible refine cellA ?_ | with_reducible refine cellD ?_); done) | (simp [go_sem]; done) | (simp [go_sem, *]; done))
  have y4_q := World.block_lt_of_cell? _ _ k4_q_0
  simp only [] at y4_q
  clear k3_s_0 k3_s_1 y3_s k3_t_0 k3_t_1 y3_t
  go_wp2_with fail
  refine (awake_any _).mono ?_
  rintro e w9 ⟨rfl, hw9⟩
  go_wp2
  go_ret
  exact ⟨rfl, by (repeat' first | exact Below.refl _ _ | with_reducible refine Below.drew ?_ | with_reducible refine Below.drewN ?_ _ | with_reducible refine Below.alloc' ?_ _ | with_reducible refine Below.setCell ?_ (by first | exact Nat.le_refl _ | (simp; done) | (simp; omega)) _ | with_reducible refine Below.after ?_ ‹_›)⟩

set_option maxRecDepth 100000 in
set_option maxHeartbeats 8000000 in
theorem exact_23 (a b c d z : Int) (w : World) {X Y e Z U f : Int} (e1 : addV a b c d = (X, Y, e)) (e2 : subV a b c d = (Z, U, f)) (v1 : vB a b = true) (v2 : vB c d = true)
    (hA : e = 0) (hA1 : hasB X Y z = false) (hS : f = 0) (hS1 : hasB Z U z = true) (gS1 : a - d ≤ z) (gS2 : z ≤ b - c) (mS : a < z + c) :
    Calls Try.prog 10 #[.agg #[.int .i64 a, .int .i64 b], .agg #[.int .i64 c, .int .i64 d], .int .i64 z] w fun e w' => e = .returned (.bool true) ∧ Below w.heap.size w w' := by
  have l1 := vB_true.1 v1
  have l2 := vB_true.1 v2
  have b1 : -70368744177664 ≤ a ∧ a ≤ 70368744177664 := by omega
  have b2 : -70368744177664 ≤ b ∧ b ≤ 70368744177664 := by omega
  have b3 : -70368744177664 ≤ c ∧ c ≤ 70368744177664 := by omega
  have b4 : -70368744177664 ≤ d ∧ d ≤ 70368744177664 := by omega
  have b5 : -140737488355328 ≤ z ∧ z ≤ 140737488355328 := by omega
  have l3 := Lib.hid l1
  have l4 := Lib.hid l2
  have V1 := Lib.hid v1
  have V2 := Lib.hid v2
  clear v1 v2 l1 l2
  subst hA
  have HA := Lib.hid hA1
  clear hA1
  subst hS
  have HS := Lib.hid hS1
  clear hS1
  have E1 := Lib.hid e1
  have E2 := Lib.hid e2
  clear e1 e2
  have GS := Lib.hid (And.intro gS1 gS2)
  clear gS1 gS2
  go_enter Try.func10, Try.ntmps10
  go_wp2_with fail
  refine (add_is E1.out _).mono ?_
  rintro e w1 ⟨rfl, hw1⟩
  have k1_s_0 := kept hw1 (p := ⟨w.heap.size, 0, none⟩) (v := .int .i64 a) (by first | ((repeat' first | with_reducible assumption | with_reducible refine cellA ?_ | with_reducible refine cellD ?_); done) | (simp [go_sem]; done) | (simp [go_sem, *]; done))
  have k1_s_1 := kept hw1 (p := ⟨w.heap.size, 1, none⟩) (v := .int .i64 b) (by first | ((repeat' first | with_reducible assumption | with_reducible refine cellA ?_ | with_reducible refine cellD ?_); done) | (simp [go_sem]; done) | (simp [go_sem, *]; done))
  have y1_s := World.block_lt_of_cell? _ _ k1_s_0
  simp only [] at y1_s
  have k1_t_0 := kept hw1 (p := ⟨w.heap.size + 1, 0, none⟩) (v := .int .i64 c) (by first | ((repeat' first | with_reducible assumption | with_reducible refine cellA ?_ | with_reducible refine cellD ?_); done) | (simp [go_sem]; done) | (simp [go_sem, *]; done))
  have k1_t_1 := kept hw1 (p := ⟨w.heap.size + 1, 1, none⟩) (v := .int .i64 d) (by first | ((repeat' first | with_reducible assumption | with_reducible refine cellA ?_ | with_reducible refine cellD ?_); done) | (simp [go_sem]; done) | (simp [go_sem, *]; done))
  have y1_t := World.block_lt_of_cell? _ _ k1_t_0
  simp only [] at y1_t
  go_wp2_with fail
  refine (has_is HA.out _).mono ?_
  rintro e w2 ⟨rfl, hw2⟩
  have k2_s_0 := kept hw2 (cellA k1_s_0)
  have k2_s_1 := kept hw2 (cellA k1_s_1)
  have y2_s := World.block_lt_of_cell? _ _ k2_s_0
  simp only [] at y2_s
  have k2_t_0 := kept hw2 (cellA k1_t_0)
  have k2_t_1 := kept hw2 (cellA k1_t_1)
  have y2_t := World.block_lt_of_cell? _ _ k2_t_0
  simp only [] at y2_t
  have k2_r_0 := kept hw2 (p := ⟨w1.heap.size, 0, none⟩) (v := .int .i64 X) (by first | ((repeat' first | with_reducible assumption | with_reducible refine cellA ?_ | with_reducible refine cellD ?_); done) | (simp [go_sem]; done) | (simp [go_sem, *]; done))
  have k2_r_1 := kept hw2 (p := ⟨w1.heap.size, 1, none⟩) (v := .int .i64 Y) (by first | ((repeat' first | with_reducible assumption | with_reducible refine cellA ?_ | with_reducible refine cellD ?_); done) | (simp [go_sem]; done) | (simp [go_sem, *]; done))
  have y2_r := World.block_lt_of_cell? _ _ k2_r_0
  simp only [] at y2_r
  clear k1_s_0 k1_s_1 y1_s k1_t_0 k1_t_1 y1_t
  go_wp2_with fail
  refine (sub_is E2.out _).mono ?_
  rintro e w5 ⟨rfl, hw5⟩
  have k3_s_0 := kept hw5 k2_s_0
  have k3_s_1 := kept hw5 k2_s_1
  have y3_s := World.block_lt_of_cell? _ _ k3_s_0
  simp only [] at y3_s
  have k3_t_0 := kept hw5 k2_t_0
  have k3_t_1 := kept hw5 k2_t_1
  have y3_t := World.block_lt_of_cell? _ _ k3_t_0
  simp only [] at y3_t
  clear k2_s_0 k2_s_1 y2_s k2_t_0 k2_t_1 y2_t k2_r_0 k2_r_1 y2_r
  go_wp2_with fail
  refine (has_is HS.out _).mono ?_
  rintro e w6 ⟨rfl, hw6⟩
  have k4_s_0 := kept hw6 (cellA k3_s_0)
  have k4_s_1 := kept hw6 (cellA k3_s_1)
  have y4_s := World.block_lt_of_cell? _ _ k4_s_0
  simp only [] at y4_s
  have k4_t_0 := kept hw6 (cellA k3_t_0)
  have k4_t_1 := kept hw6 (cellA k3_t_1)
  have y4_t := World.block_lt_of_cell? _ _ k4_t_0
  simp only [] at y4_t
  have k4_q_0 := kept hw6 (p := ⟨w5.heap.size, 0, none⟩) (v := .int .i64 Z) (by first | ((repeat' first | with_reducible assumption | with_reducible refine cellA ?_ | with_reducible refine cellD ?_); done) | (simp [go_sem]; done) | (simp [go_sem, *]; done))
  have k4_q_1 := kept hw6 (p := ⟨w5.heap.size, 1, none⟩) (v := .int .i64 U) (by first | ((repeat' first | with_reducible assumption | with_reducible refine cellA ?_ | with_reducible refine cellD ?_); done) | (simp [go_sem]; done) | (simp [go_sem, *]; done))
  have y4_q := World.block_lt_of_cell? _ _ k4_q_0
  simp only [] at y4_q
  clear k3_s_0 k3_s_1 y3_s k3_t_0 k3_t_1 y3_t
  go_wp2_with fail
  refine (has_is (r := true) (hasB_mk V1.out (by have := l3.out; have := l4.out; have := GS.out; omega) (by have := l3.out; have := l4.out; have := GS.out; omega)) _).mono ?_
  rintro e w7 ⟨rfl, hw7⟩
  have k5_s_0 := kept hw7 k4_s_0
  have k5_s_1 := kept hw7 k4_s_1
  have y5_s := World.block_lt_of_cell? _ _ k5_s_0
  simp only [] at y5_s
  have k5_t_0 := kept hw7 k4_t_0
  have k5_t_1 := kept hw7 k4_t_1
  have y5_t := World.block_lt_of_cell? _ _ k5_t_0
  simp only [] at y5_t
  clear k4_s_0 k4_s_1 y4_s k4_t_0 k4_t_1 y4_t k4_q_0 k4_q_1 y4_q
  go_wp2_with fail
  refine (has_is (r := true) (hasB_mk V2.out (by have := l3.out; have := l4.out; have := GS.out; omega) (by have := l3.out; have := l4.out; have := GS.out; omega)) _).mono ?_
  rintro e w8 ⟨rfl, hw8⟩
  have k6_s_0 := kept hw8 k5_s_0
  have k6_s_1 := kept hw8 k5_s_1
  have y6_s := World.block_lt_of_cell? _ _ k6_s_0
  simp only [] at y6_s
  have k6_t_0 := kept hw8 k5_t_0
  have k6_t_1 := kept hw8 k5_t_1
  have y6_t := World.block_lt_of_cell? _ _ k6_t_0
  simp only [] at y6_t
  clear k5_s_0 k5_s_1 y5_s k5_t_0 k5_t_1 y5_t
  go_wp2_with fail
  refine (awake_any _).mono ?_
  rintro e w9 ⟨rfl, hw9⟩
  go_wp2
  go_ret
  exact ⟨rfl, by (repeat' first | exact Below.refl _ _ | with_reducible refine Below.drew ?_ | with_reducible refine Below.drewN ?_ _ | with_reducible refine Below.alloc' ?_ _ | with_reducible refine Below.setCell ?_ (by first | exact Nat.le_refl _ | (simp; done) | (simp; omega)) _ | with_reducible refine Below.after ?_ ‹_›)⟩

set_option maxRecDepth 100000 in
set_option maxHeartbeats 8000000 in
theorem exact_24 (a b c d z : Int) (w : World) {X Y e Z U f : Int} (e1 : addV a b c d = (X, Y, e)) (e2 : subV a b c d = (Z, U, f)) (v1 : vB a b = true) (v2 : vB c d = true)
    (hA : e = 0) (hA1 : hasB X Y z = false) (hS : f = 0) (hS1 : hasB Z U z = true) (gS1 : a - d ≤ z) (gS2 : z ≤ b - c) (mS : z + c ≤ a) :
    Calls Try.prog 10 #[.agg #[.int .i64 a, .int .i64 b], .agg #[.int .i64 c, .int .i64 d], .int .i64 z] w fun e w' => e = .returned (.bool true) ∧ Below w.heap.size w w' := by
  have l1 := vB_true.1 v1
  have l2 := vB_true.1 v2
  have b1 : -70368744177664 ≤ a ∧ a ≤ 70368744177664 := by omega
  have b2 : -70368744177664 ≤ b ∧ b ≤ 70368744177664 := by omega
  have b3 : -70368744177664 ≤ c ∧ c ≤ 70368744177664 := by omega
  have b4 : -70368744177664 ≤ d ∧ d ≤ 70368744177664 := by omega
  have b5 : -140737488355328 ≤ z ∧ z ≤ 140737488355328 := by omega
  have l3 := Lib.hid l1
  have l4 := Lib.hid l2
  have V1 := Lib.hid v1
  have V2 := Lib.hid v2
  clear v1 v2 l1 l2
  subst hA
  have HA := Lib.hid hA1
  clear hA1
  subst hS
  have HS := Lib.hid hS1
  clear hS1
  have E1 := Lib.hid e1
  have E2 := Lib.hid e2
  clear e1 e2
  have GS := Lib.hid (And.intro gS1 gS2)
  clear gS1 gS2
  go_enter Try.func10, Try.ntmps10
  go_wp2_with fail
  refine (add_is E1.out _).mono ?_
  rintro e w1 ⟨rfl, hw1⟩
  have k1_s_0 := kept hw1 (p := ⟨w.heap.size, 0, none⟩) (v := .int .i64 a) (by first | ((repeat' first | with_reducible assumption | with_reducible refine cellA ?_ | with_reducible refine cellD ?_); done) | (simp [go_sem]; done) | (simp [go_sem, *]; done))
  have k1_s_1 := kept hw1 (p := ⟨w.heap.size, 1, none⟩) (v := .int .i64 b) (by first | ((repeat' first | with_reducible assumption | with_reducible refine cellA ?_ | with_reducible refine cellD ?_); done) | (simp [go_sem]; done) | (simp [go_sem, *]; done))
  have y1_s := World.block_lt_of_cell? _ _ k1_s_0
  simp only [] at y1_s
  have k1_t_0 := kept hw1 (p := ⟨w.heap.size + 1, 0, none⟩) (v := .int .i64 c) (by first | ((repeat' first | with_reducible assumption | with_reducible refine cellA ?_ | with_reducible refine cellD ?_); done) | (simp [go_sem]; done) | (simp [go_sem, *]; done))
  have k1_t_1 := kept hw1 (p := ⟨w.heap.size + 1, 1, none⟩) (v := .int .i64 d) (by first | ((repeat' first | with_reducible assumption | with_reducible refine cellA ?_ | with_reducible refine cellD ?_); done) | (simp [go_sem]; done) | (simp [go_sem, *]; done))
  have y1_t := World.block_lt_of_cell? _ _ k1_t_0
  simp only [] at y1_t
  go_wp2_with fail
  refine (has_is HA.out _).mono ?_
  rintro e w2 ⟨rfl, hw2⟩
  have k2_s_0 := kept hw2 (cellA k1_s_0)
  have k2_s_1 := kept hw2 (cellA k1_s_1)
  have y2_s := World.block_lt_of_cell? _ _ k2_s_0
  simp only [] at y2_s
  have k2_t_0 := kept hw2 (cellA k1_t_0)
  have k2_t_1 := kept hw2 (cellA k1_t_1)
  have y2_t := World.block_lt_of_cell? _ _ k2_t_0
  simp only [] at y2_t
  have k2_r_0 := kept hw2 (p := ⟨w1.heap.size, 0, none⟩) (v := .int .i64 X) (by first | ((repeat' first | with_reducible assumption | with_reducible refine cellA ?_ | with_reducible refine cellD ?_); done) | (simp [go_sem]; done) | (simp [go_sem, *]; done))
  have k2_r_1 := kept hw2 (p := ⟨w1.heap.size, 1, none⟩) (v := .int .i64 Y) (by first | ((repeat' first | with_reducible assumption | with_reducible refine cellA ?_ | with_reducible refine cellD ?_); done) | (simp [go_sem]; done) | (simp [go_sem, *]; done))
  have y2_r := World.block_lt_of_cell? _ _ k2_r_0
  simp only [] at y2_r
  clear k1_s_0 k1_s_1 y1_s k1_t_0 k1_t_1 y1_t
  go_wp2_with fail
  refine (sub_is E2.out _).mono ?_
  rintro e w5 ⟨rfl, hw5⟩
  have k3_s_0 := kept hw5 k2_s_0
  have k3_s_1 := kept hw5 k2_s_1
  have y3_s := World.block_lt_of_cell? _ _ k3_s_0
  simp only [] at y3_s
  have k3_t_0 := kept hw5 k2_t_0
  have k3_t_1 := kept hw5 k2_t_1
  have y3_t := World.block_lt_of_cell? _ _ k3_t_0
  simp only [] at y3_t
  clear k2_s_0 k2_s_1 y2_s k2_t_0 k2_t_1 y2_t k2_r_0 k2_r_1 y2_r
  go_wp2_with fail
  refine (has_is HS.out _).mono ?_
  rintro e w6 ⟨rfl, hw6⟩
  have k4_s_0 := kept hw6 (cellA k3_s_0)
  have k4_s_1 := kept hw6 (cellA k3_s_1)
  have y4_s := World.block_lt_of_cell? _ _ k4_s_0
  simp only [] at y4_s
  have k4_t_0 := kept hw6 (cellA k3_t_0)
  have k4_t_1 := kept hw6 (cellA k3_t_1)
  have y4_t := World.block_lt_of_cell? _ _ k4_t_0
  simp only [] at y4_t
  have k4_q_0 := kept hw6 (p := ⟨w5.heap.size, 0, none⟩) (v := .int .i64 Z) (by first | ((repeat' first | with_reducible assumption | with_reducible refine cellA ?_ | with_reducible refine cellD ?_); done) | (simp [go_sem]; done) | (simp [go_sem, *]; done))
  have k4_q_1 := kept hw6 (p := ⟨w5.heap.size, 1, none⟩) (v := .int .i64 U) (by first | ((repeat' first | with_reducible assumption | with_reducible refine cellA ?_ | with_reducible refine cellD ?_); done) | (simp [go_sem]; done) | (simp [go_sem, *]; done))
  have y4_q := World.block_lt_of_cell? _ _ k4_q_0
  simp only [] at y4_q
  clear k3_s_0 k3_s_1 y3_s k3_t_0 k3_t_1 y3_t
  go_wp2_with fail
  refine (has_is (r := true) (hasB_mk V1.out (by have := l3.out; have := l4.out; have := GS.out; omega) (by have := l3.out; have := l4.out; have := GS.out; omega)) _).mono ?_
  rintro e w7 ⟨rfl, hw7⟩
  have k5_s_0 := kept hw7 k4_s_0
  have k5_s_1 := kept hw7 k4_s_1
  have y5_s := World.block_lt_of_cell? _ _ k5_s_0
  simp only [] at y5_s
  have k5_t_0 := kept hw7 k4_t_0
  have k5_t_1 := kept hw7 k4_t_1
  have y5_t := World.block_lt_of_cell? _ _ k5_t_0
  simp only [] at y5_t
  clear k4_s_0 k4_s_1 y4_s k4_t_0 k4_t_1 y4_t k4_q_0 k4_q_1 y4_q
  go_wp2_with fail
  refine (has_is (r := true) (hasB_mk V2.out (by have := l3.out; have := l4.out; have := GS.out; omega) (by have := l3.out; have := l4.out; have := GS.out; omega)) _).mono ?_
  rintro e w8 ⟨rfl, hw8⟩
  have k6_s_0 := kept hw8 k5_s_0
  have k6_s_1 := kept hw8 k5_s_1
  have y6_s := World.block_lt_of_cell? _ _ k6_s_0
  simp only [] at y6_s
  have k6_t_0 := kept hw8 k5_t_0
  have k6_t_1 := kept hw8 k5_t_1
  have y6_t := World.block_lt_of_cell? _ _ k6_t_0
  simp only [] at y6_t
  clear k5_s_0 k5_s_1 y5_s k5_t_0 k5_t_1 y5_t
  go_wp2_with fail
  refine (awake_any _).mono ?_
  rintro e w9 ⟨rfl, hw9⟩
  go_wp2
  go_ret
  exact ⟨rfl, by (repeat' first | exact Below.refl _ _ | with_reducible refine Below.drew ?_ | with_reducible refine Below.drewN ?_ _ | with_reducible refine Below.alloc' ?_ _ | with_reducible refine Below.setCell ?_ (by first | exact Nat.le_refl _ | (simp; done) | (simp; omega)) _ | with_reducible refine Below.after ?_ ‹_›)⟩

set_option maxRecDepth 100000 in
set_option maxHeartbeats 8000000 in
theorem exact_31 (a b c d z : Int) (w : World) {X Y e Z U f : Int} (e1 : addV a b c d = (X, Y, e)) (e2 : subV a b c d = (Z, U, f)) (v1 : vB a b = true) (v2 : vB c d = true)
    (hA : e = 0) (hA1 : hasB X Y z = true) (gA1 : a + c ≤ z) (gA2 : z ≤ b + d) (mA : a < z - d) (hS : (f == 0) = false) :
    Calls Try.prog 10 #[.agg #[.int .i64 a, .int .i64 b], .agg #[.int .i64 c, .int .i64 d], .int .i64 z] w fun e w' => e = .returned (.bool true) ∧ Below w.heap.size w w' := by
  have l1 := vB_true.1 v1
  have l2 := vB_true.1 v2
  have b1 : -70368744177664 ≤ a ∧ a ≤ 70368744177664 := by omega
  have b2 : -70368744177664 ≤ b ∧ b ≤ 70368744177664 := by omega
  have b3 : -70368744177664 ≤ c ∧ c ≤ 70368744177664 := by omega
  have b4 : -70368744177664 ≤ d ∧ d ≤ 70368744177664 := by omega
  have b5 : -140737488355328 ≤ z ∧ z ≤ 140737488355328 := by omega
  have l3 := Lib.hid l1
  have l4 := Lib.hid l2
  have V1 := Lib.hid v1
  have V2 := Lib.hid v2
  clear v1 v2 l1 l2
  subst hA
  have HA := Lib.hid hA1
  clear hA1
  have E1 := Lib.hid e1
  have E2 := Lib.hid e2
  clear e1 e2
  have GA := Lib.hid (And.intro gA1 gA2)
  clear gA1 gA2
  go_enter Try.func10, Try.ntmps10
  go_wp2_with fail
  refine (add_is E1.out _).mono ?_
  rintro e w1 ⟨rfl, hw1⟩
  have k1_s_0 := kept hw1 (p := ⟨w.heap.size, 0, none⟩) (v := .int .i64 a) (by first | ((repeat' first | with_reducible assumption | with_reducible refine cellA ?_ | with_reducible refine cellD ?_); done) | (simp [go_sem]; done) | (simp [go_sem, *]; done))
  have k1_s_1 := kept hw1 (p := ⟨w.heap.size, 1, none⟩) (v := .int .i64 b) (by first | ((repeat' first | with_reducible assumption | with_reducible refine cellA ?_ | with_reducible refine cellD ?_); done) | (simp [go_sem]; done) | (simp [go_sem, *]; done))
  have y1_s := World.block_lt_of_cell? _ _ k1_s_0
  simp only [] at y1_s
  have k1_t_0 := kept hw1 (p := ⟨w.heap.size + 1, 0, none⟩) (v := .int .i64 c) (by first | ((repeat' first | with_reducible assumption | with_reducible refine cellA ?_ | with_reducible refine cellD ?_); done) | (simp [go_sem]; done) | (simp [go_sem, *]; done))
  have k1_t_1 := kept hw1 (p := ⟨w.heap.size + 1, 1, none⟩) (v := .int .i64 d) (by first | ((repeat' first | with_reducible assumption | with_reducible refine cellA ?_ | with_reducible refine cellD ?_); done) | (simp [go_sem]; done) | (simp [go_sem, *]; done))
  have y1_t := World.block_lt_of_cell? _ _ k1_t_0
  simp only [] at y1_t
  go_wp2_with fail
  refine (has_is HA.out _).mono ?_
  rintro e w2 ⟨rfl, hw2⟩
  have k2_s_0 := kept hw2 (cellA k1_s_0)
  have k2_s_1 := kept hw2 (cellA k1_s_1)
  have y2_s := World.block_lt_of_cell? _ _ k2_s_0
  simp only [] at y2_s
  have k2_t_0 := kept hw2 (cellA k1_t_0)
  have k2_t_1 := kept hw2 (cellA k1_t_1)
  have y2_t := World.block_lt_of_cell? _ _ k2_t_0
  simp only [] at y2_t
  have k2_r_0 := kept hw2 (p := ⟨w1.heap.size, 0, none⟩) (v := .int .i64 X) (by first | ((repeat' first | with_reducible assumption | with_reducible refine cellA ?_ | with_reducible refine cellD ?_); done) | (simp [go_sem]; done) | (simp [go_sem, *]; done))
  have k2_r_1 := kept hw2 (p := ⟨w1.heap.size, 1, none⟩) (v := .int .i64 Y) (by first | ((repeat' first | with_reducible assumption | with_reducible refine cellA ?_ | with_reducible refine cellD ?_); done) | (simp [go_sem]; done) | (simp [go_sem, *]; done))
  have y2_r := World.block_lt_of_cell? _ _ k2_r_0
  simp only [] at y2_r
  clear k1_s_0 k1_s_1 y1_s k1_t_0 k1_t_1 y1_t
  go_wp2_with fail
  refine (has_is (r := true) (hasB_mk V1.out (by have := l3.out; have := l4.out; have := GA.out; omega) (by have := l3.out; have := l4.out; have := GA.out; omega)) _).mono ?_
  rintro e w3 ⟨rfl, hw3⟩
  have k3_s_0 := kept hw3 k2_s_0
  have k3_s_1 := kept hw3 k2_s_1
  have y3_s := World.block_lt_of_cell? _ _ k3_s_0
  simp only [] at y3_s
  have k3_t_0 := kept hw3 k2_t_0
  have k3_t_1 := kept hw3 k2_t_1
  have y3_t := World.block_lt_of_cell? _ _ k3_t_0
  simp only [] at y3_t
  clear k2_s_0 k2_s_1 y2_s k2_t_0 k2_t_1 y2_t k2_r_0 k2_r_1 y2_r
  go_wp2_with fail
  refine (has_is (r := true) (hasB_mk V2.out (by have := l3.out; have := l4.out; have := GA.out; omega) (by have := l3.out; have := l4.out; have := GA.out; omega)) _).mono ?_
  rintro e w4 ⟨rfl, hw4⟩
  have k4_s_0 := kept hw4 k3_s_0
  have k4_s_1 := kept hw4 k3_s_1
  have y4_s := World.block_lt_of_cell? _ _ k4_s_0
  simp only [] at y4_s
  have k4_t_0 := kept hw4 k3_t_0
  have k4_t_1 := kept hw4 k3_t_1
  have y4_t := World.block_lt_of_cell? _ _ k4_t_0
  simp only [] at y4_t
  clear k3_s_0 k3_s_1 y3_s k3_t_0 k3_t_1 y3_t
  go_wp2_with fail
  refine (sub_is E2.out _).mono ?_
  rintro e w5 ⟨rfl, hw5⟩
  have k5_s_0 := kept hw5 k4_s_0
  have k5_s_1 := kept hw5 k4_s_1
  have y5_s := World.block_lt_of_cell? _ _ k5_s_0
  simp only [] at y5_s
  have k5_t_0 := kept hw5 k4_t_0
  have k5_t_1 := kept hw5 k4_t_1
  have y5_t := World.block_lt_of_cell? _ _ k5_t_0
  simp only [] at y5_t
  clear k4_s_0 k4_s_1 y4_s k4_t_0 k4_t_1 y4_t
  go_wp2_with fail
  refine (awake_any _).mono ?_
  rintro e w9 ⟨rfl, hw9⟩
  go_wp2
  go_ret
  exact ⟨rfl, by (repeat' first | exact Below.refl _ _ | with_reducible refine Below.drew ?_ | with_reducible refine Below.drewN ?_ _ | with_reducible refine Below.alloc' ?_ _ | with_reducible refine Below.setCell ?_ (by first | exact Nat.le_refl _ | (simp; done) | (simp; omega)) _ | with_reducible refine Below.after ?_ ‹_›)⟩

set_option maxRecDepth 100000 in
set_option maxHeartbeats 8000000 in
theorem exact_32 (a b c d z : Int) (w : World) {X Y e Z U f : Int} (e1 : addV a b c d = (X, Y, e)) (e2 : subV a b c d = (Z, U, f)) (v1 : vB a b = true) (v2 : vB c d = true)
    (hA : e = 0) (hA1 : hasB X Y z = true) (gA1 : a + c ≤ z) (gA2 : z ≤ b + d) (mA : a < z - d) (hS : f = 0) (hS1 : hasB Z U z = false) :
    Calls Try.prog 10 #[.agg #[.int .i64 a, .int .i64 b], .agg #[.int .i64 c, .int .i64 d], .int .i64 z] w fun e w' => e = .returned (.bool true) ∧ Below w.heap.size w w' := by
  have l1 := vB_true.1 v1
  have l2 := vB_true.1 v2
  have b1 : -70368744177664 ≤ a ∧ a ≤ 70368744177664 := by omega
  have b2 : -70368744177664 ≤ b ∧ b ≤ 70368744177664 := by omega
  have b3 : -70368744177664 ≤ c ∧ c ≤ 70368744177664 := by omega
  have b4 : -70368744177664 ≤ d ∧ d ≤ 70368744177664 := by omega
  have b5 : -140737488355328 ≤ z ∧ z ≤ 140737488355328 := by omega
  have l3 := Lib.hid l1
  have l4 := Lib.hid l2
  have V1 := Lib.hid v1
  have V2 := Lib.hid v2
  clear v1 v2 l1 l2
  subst hA
  have HA := Lib.hid hA1
  clear hA1
  subst hS
  have HS := Lib.hid hS1
  clear hS1
  have E1 := Lib.hid e1
  have E2 := Lib.hid e2
  clear e1 e2
  have GA := Lib.hid (And.intro gA1 gA2)
  clear gA1 gA2
  go_enter Try.func10, Try.ntmps10
  go_wp2_with fail
  refine (add_is E1.out _).mono ?_
  rintro e w1 ⟨rfl, hw1⟩
  have k1_s_0 := kept hw1 (p := ⟨w.heap.size, 0, none⟩) (v := .int .i64 a) (by first | ((repeat' first | with_reducible assumption | with_reducible refine cellA ?_ | with_reducible refine cellD ?_); done) | (simp [go_sem]; done) | (simp [go_sem, *]; done))
  have k1_s_1 := kept hw1 (p := ⟨w.heap.size, 1, none⟩) (v := .int .i64 b) (by first | ((repeat' first | with_reducible assumption | with_reducible refine cellA ?_ | with_reducible refine cellD ?_); done) | (simp [go_sem]; done) | (simp [go_sem, *]; done))
  have y1_s := World.block_lt_of_cell? _ _ k1_s_0
  simp only [] at y1_s
  have k1_t_0 := kept hw1 (p := ⟨w.heap.size + 1, 0, none⟩) (v := .int .i64 c) (by first | ((repeat' first | with_reducible assumption | with_reducible refine cellA ?_ | with_reducible refine cellD ?_); done) | (simp [go_sem]; done) | (simp [go_sem, *]; done))
  have k1_t_1 := kept hw1 (p := ⟨w.heap.size + 1, 1, none⟩) (v := .int .i64 d) (by first | ((repeat' first | with_reducible assumption | with_reducible refine cellA ?_ | with_reducible refine cellD ?_); done) | (simp [go_sem]; done) | (simp [go_sem, *]; done))
  have y1_t := World.block_lt_of_cell? _ _ k1_t_0
  simp only [] at y1_t
  go_wp2_with fail
  refine (has_is HA.out _).mono ?_
  rintro e w2 ⟨rfl, hw2⟩
  have k2_s_0 := kept hw2 (cellA k1_s_0)
  have k2_s_1 := kept hw2 (cellA k1_s_1)
  have y2_s := World.block_lt_of_cell? _ _ k2_s_0
  simp only [] at y2_s
  have k2_t_0 := kept hw2 (cellA k1_t_0)
  have k2_t_1 := kept hw2 (cellA k1_t_1)
  have y2_t := World.block_lt_of_cell? _ _ k2_t_0
  simp only [] at y2_t
  have k2_r_0 := kept hw2 (p := ⟨w1.heap.size, 0, none⟩) (v := .int .i64 X) (by first | ((repeat' first | with_reducible assumption | with_reducible refine cellA ?_ | with_reducible refine cellD ?_); done) | (simp [go_sem]; done) | (simp [go_sem, *]; done))
  have k2_r_1 := kept hw2 (p := ⟨w1.heap.size, 1, none⟩) (v := .int .i64 Y) (by first | ((repeat' first | with_reducible assumption | with_reducible refine cellA ?_ | with_reducible refine cellD ?_); done) | (simp [go_sem]; done) | (simp [go_sem, *]; done))
  have y2_r := World.block_lt_of_cell? _ _ k2_r_0
  simp only [] at y2_r
  clear k1_s_0 k1_s_1 y1_s k1_t_0 k1_t_1 y1_t
  go_wp2_with fail
  refine (has_is (r := true) (hasB_mk V1.out (by have := l3.out; have := l4.out; have := GA.out; omega) (by have := l3.out; have := l4.out; have := GA.out; omega)) _).mono ?_
  rintro e w3 ⟨rfl, hw3⟩
  have k3_s_0 := kept hw3 k2_s_0
  have k3_s_1 := kept hw3 k2_s_1
  have y3_s := World.block_lt_of_cell? _ _ k3_s_0
  simp only [] at y3_s
  have k3_t_0 := kept hw3 k2_t_0
  have k3_t_1 := kept hw3 k2_t_1
  have y3_t := World.block_lt_of_cell? _ _ k3_t_0
  simp only [] at y3_t
  clear k2_s_0 k2_s_1 y2_s k2_t_0 k2_t_1 y2_t k2_r_0 k2_r_1 y2_r
  go_wp2_with fail
  refine (has_is (r := true) (hasB_mk V2.out (by have := l3.out; have := l4.out; have := GA.out; omega) (by have := l3.out; have := l4.out; have := GA.out; omega)) _).mono ?_
  rintro e w4 ⟨rfl, hw4⟩
  have k4_s_0 := kept hw4 k3_s_0
  have k4_s_1 := kept hw4 k3_s_1
  have y4_s := World.block_lt_of_cell? _ _ k4_s_0
  simp only [] at y4_s
  have k4_t_0 := kept hw4 k3_t_0
  have k4_t_1 := kept hw4 k3_t_1
  have y4_t := World.block_lt_of_cell? _ _ k4_t_0
  simp only [] at y4_t
  clear k3_s_0 k3_s_1 y3_s k3_t_0 k3_t_1 y3_t
  go_wp2_with fail
  refine (sub_is E2.out _).mono ?_
  rintro e w5 ⟨rfl, hw5⟩
  have k5_s_0 := kept hw5 k4_s_0
  have k5_s_1 := kept hw5 k4_s_1
  have y5_s := World.block_lt_of_cell? _ _ k5_s_0
  simp only [] at y5_s
  have k5_t_0 := kept hw5 k4_t_0
  have k5_t_1 := kept hw5 k4_t_1
  have y5_t := World.block_lt_of_cell? _ _ k5_t_0
  simp only [] at y5_t
  clear k4_s_0 k4_s_1 y4_s k4_t_0 k4_t_1 y4_t
  go_wp2_with fail
  refine (has_is HS.out _).mono ?_
  rintro e w6 ⟨rfl, hw6⟩
  have k6_s_0 := kept hw6 (cellA k5_s_0)
  have k6_s_1 := kept hw6 (cellA k5_s_1)
  have y6_s := World.block_lt_of_cell? _ _ k6_s_0
  simp only [] at y6_s
  have k6_t_0 := kept hw6 (cellA k5_t_0)
  have k6_t_1 := kept hw6 (cellA k5_t_1)
  have y6_t := World.block_lt_of_cell? _ _ k6_t_0
  simp only [] at y6_t
  have k6_q_0 := kept hw6 (p := ⟨w5.heap.size, 0, none⟩) (v := .int .i64 Z) (by first | ((repeat' first | with_reducible assumption | with_reducible refine cellA ?_ | with_reducible refine cellD ?_); done) | (simp [go_sem]; done) | (simp [go_sem, *]; done))
  have k6_q_1 := kept hw6 (p := ⟨w5.heap.size, 1, none⟩) (v := .int .i64 U) (by first | ((repeat' first | with_reducible assumption | with_reducible refine cellA ?_ | with_reducible refine cellD ?_); done) | (simp [go_sem]; done) | (simp [go_sem, *]; done))
  have y6_q := World.block_lt_of_cell? _ _ k6_q_0
  simp only [] at y6_q
  clear k5_s_0 k5_s_1 y5_s k5_t_0 k5_t_1 y5_t
  go_wp2_with fail
  refine (awake_any _).mono ?_
  rintro e w9 ⟨rfl, hw9⟩
  go_wp2
  go_ret
  exact ⟨rfl, by (repeat' first | exact Below.refl _ _ | with_reducible refine Below.drew ?_ | with_reducible refine Below.drewN ?_ _ | with_reducible refine Below.alloc' ?_ _ | with_reducible refine Below.setCell ?_ (by first | exact Nat.le_refl _ | (simp; done) | (simp; omega)) _ | with_reducible refine Below.after ?_ ‹_›)⟩

set_option maxRecDepth 100000 in
set_option maxHeartbeats 8000000 in
theorem exact_33 (a b c d z : Int) (w : World) {X Y e Z U f : Int} (e1 : addV a b c d = (X, Y, e)) (e2 : subV a b c d = (Z, U, f)) (v1 : vB a b = true) (v2 : vB c d = true)
    (hA : e = 0) (hA1 : hasB X Y z = true) (gA1 : a + c ≤ z) (gA2 : z ≤ b + d) (mA : a < z - d) (hS : f = 0) (hS1 : hasB Z U z = true) (gS1 : a - d ≤ z) (gS2 : z ≤ b - c) (mS : a < z + c) :
    Calls Try.prog 10 #[.agg #[.int .i64 a, .int .i64 b], .agg #[.int .i64 c, .int .i64 d], .int .i64 z] w fun e w' => e = .returned (.bool true) ∧ Below w.heap.size w w' := by
  have l1 := vB_true.1 v1
  have l2 := vB_true.1 v2
  have b1 : -70368744177664 ≤ a ∧ a ≤ 70368744177664 := by omega
  have b2 : -70368744177664 ≤ b ∧ b ≤ 70368744177664 := by omega
  have b3 : -70368744177664 ≤ c ∧ c ≤ 70368744177664 := by omega
  have b4 : -70368744177664 ≤ d ∧ d ≤ 70368744177664 := by omega
  have b5 : -140737488355328 ≤ z ∧ z ≤ 140737488355328 := by omega
  have l3 := Lib.hid l1
  have l4 := Lib.hid l2
  have V1 := Lib.hid v1
  have V2 := Lib.hid v2
  clear v1 v2 l1 l2
  subst hA
  have HA := Lib.hid hA1
  clear hA1
  subst hS
  have HS := Lib.hid hS1
  clear hS1
  have E1 := Lib.hid e1
  have E2 := Lib.hid e2
  clear e1 e2
  have GA := Lib.hid (And.intro gA1 gA2)
  clear gA1 gA2
  have GS := Lib.hid (And.intro gS1 gS2)
  clear gS1 gS2
  go_enter Try.func10, Try.ntmps10
  go_wp2_with fail
  refine (add_is E1.out _).mono ?_
  rintro e w1 ⟨rfl, hw1⟩
  have k1_s_0 := kept hw1 (p := ⟨w.heap.size, 0, none⟩) (v := .int .i64 a) (by first | ((repeat' first | with_reducible assumption | with_reducible refine cellA ?_ | with_reducible refine cellD ?_); done) | (simp [go_sem]; done) | (simp [go_sem, *]; done))
  have k1_s_1 := kept hw1 (p := ⟨w.heap.size, 1, none⟩) (v := .int .i64 b) (by first | ((repeat' first | with_reducible assumption | with_reducible refine cellA ?_ | with_reducible refine cellD ?_); done) | (simp [go_sem]; done) | (simp [go_sem, *]; done))
  have y1_s := World.block_lt_of_cell? _ _ k1_s_0
  simp only [] at y1_s
  have k1_t_0 := kept hw1 (p := ⟨w.heap.size + 1, 0, none⟩) (v := .int .i64 c) (by first | ((repeat' first | with_reducible assumption | with_reducible refine cellA ?_ | with_reducible refine cellD ?_); done) | (simp [go_sem]; done) | (simp [go_sem, *]; done))
  have k1_t_1 := kept hw1 (p := ⟨w.heap.size + 1, 1, none⟩) (v := .int .i64 d) (by first | ((repeat' first | with_reducible assumption | with_reducible refine cellA ?_ | with_reducible refine cellD ?_); done) | (simp [go_sem]; done) | (simp [go_sem, *]; done))
  have y1_t := World.block_lt_of_cell? _ _ k1_t_0
  simp only [] at y1_t
  go_wp2_with fail
  refine (has_is HA.out _).mono ?_
  rintro e w2 ⟨rfl, hw2⟩
  have k2_s_0 := kept hw2 (cellA k1_s_0)
  have k2_s_1 := kept hw2 (cellA k1_s_1)
  have y2_s := World.block_lt_of_cell? _ _ k2_s_0
  simp only [] at y2_s
  have k2_t_0 := kept hw2 (cellA k1_t_0)
  have k2_t_1 := kept hw2 (cellA k1_t_1)
  have y2_t := World.block_lt_of_cell? _ _ k2_t_0
  simp only [] at y2_t
  have k2_r_0 := kept hw2 (p := ⟨w1.heap.size, 0, none⟩) (v := .int .i64 X) (by first | ((repeat' first | with_reducible assumption | with_reducible refine cellA ?_ | with_reducible refine cellD ?_); done) | (simp [go_sem]; done) | (simp [go_sem, *]; done))
  have k2_r_1 := kept hw2 (p := ⟨w1.heap.size, 1, none⟩) (v := .int .i64 Y) (by first | ((repeat' first | with_reducible assumption | with_reducible refine cellA ?_ | with_reducible refine cellD ?_); done) | (simp [go_sem]; done) | (simp [go_sem, *]; done))
  have y2_r := World.block_lt_of_cell? _ _ k2_r_0
  simp only [] at y2_r
  clear k1_s_0 k1_s_1 y1_s k1_t_0 k1_t_1 y1_t
  go_wp2_with fail
  refine (has_is (r := true) (hasB_mk V1.out (by have := l3.out; have := l4.out; have := GA.out; omega) (by have := l3.out; have := l4.out; have := GA.out; omega)) _).mono ?_
  rintro e w3 ⟨rfl, hw3⟩
  have k3_s_0 := kept hw3 k2_s_0
  have k3_s_1 := kept hw3 k2_s_1
  have y3_s := World.block_lt_of_cell? _ _ k3_s_0
  simp only [] at y3_s
  have k3_t_0 := kept hw3 k2_t_0
  have k3_t_1 := kept hw3 k2_t_1
  have y3_t := World.block_lt_of_cell? _ _ k3_t_0
  simp only [] at y3_t
  clear k2_s_0 k2_s_1 y2_s k2_t_0 k2_t_1 y2_t k2_r_0 k2_r_1 y2_r
  go_wp2_with fail
  refine (has_is (r := true) (hasB_mk V2.out (by have := l3.out; have := l4.out; have := GA.out; omega) (by have := l3.out; have := l4.out; have := GA.out; omega)) _).mono ?_
  rintro e w4 ⟨rfl, hw4⟩
  have k4_s_0 := kept hw4 k3_s_0
  have k4_s_1 := kept hw4 k3_s_1
  have y4_s := World.block_lt_of_cell? _ _ k4_s_0
  simp only [] at y4_s
  have k4_t_0 := kept hw4 k3_t_0
  have k4_t_1 := kept hw4 k3_t_1
  have y4_t := World.block_lt_of_cell? _ _ k4_t_0
  simp only [] at y4_t
  clear k3_s_0 k3_s_1 y3_s k3_t_0 k3_t_1 y3_t
  go_wp2_with fail
  refine (sub_is E2.out _).mono ?_
  rintro e w5 ⟨rfl, hw5⟩
  have k5_s_0 := kept hw5 k4_s_0
  have k5_s_1 := kept hw5 k4_s_1
  have y5_s := World.block_lt_of_cell? _ _ k5_s_0
  simp only [] at y5_s
  have k5_t_0 := kept hw5 k4_t_0
  have k5_t_1 := kept hw5 k4_t_1
  have y5_t := World.block_lt_of_cell? _ _ k5_t_0
  simp only [] at y5_t
  clear k4_s_0 k4_s_1 y4_s k4_t_0 k4_t_1 y4_t
  go_wp2_with fail
  refine (has_is HS.out _).mono ?_
  rintro e w6 ⟨rfl, hw6⟩
  have k6_s_0 := kept hw6 (cellA k5_s_0)
  have k6_s_1 := kept hw6 (cellA k5_s_1)
  have y6_s := World.block_lt_of_cell? _ _ k6_s_0
  simp only [] at y6_s
  have k6_t_0 := kept hw6 (cellA k5_t_0)
  have k6_t_1 := kept hw6 (cellA k5_t_1)
  have y6_t := World.block_lt_of_cell? _ _ k6_t_0
  simp only [] at y6_t
  have k6_q_0 := kept hw6 (p := ⟨w5.heap.size, 0, none⟩) (v := .int .i64 Z) (by first | ((repeat' first | with_reducible assumption | with_reducible refine cellA ?_ | with_reducible refine cellD ?_); done) | (simp [go_sem]; done) | (simp [go_sem, *]; done))
  have k6_q_1 := kept hw6 (p := ⟨w5.heap.size, 1, none⟩) (v := .int .i64 U) (by first | ((repeat' first | with_reducible assumption | with_reducible refine cellA ?_ | with_reducible refine cellD ?_); done) | (simp [go_sem]; done) | (simp [go_sem, *]; done))
  have y6_q := World.block_lt_of_cell? _ _ k6_q_0
  simp only [] at y6_q
  clear k5_s_0 k5_s_1 y5_s k5_t_0 k5_t_1 y5_t
  go_wp2_with fail
  refine (has_is (r := true) (hasB_mk V1.out (by have := l3.out; have := l4.out; have := GS.out; omega) (by have := l3.out; have := l4.out; have := GS.out; omega)) _).mono ?_
  rintro e w7 ⟨rfl, hw7⟩
  have k7_s_0 := kept hw7 k6_s_0
  have k7_s_1 := kept hw7 k6_s_1
  have y7_s := World.block_lt_of_cell? _ _ k7_s_0
  simp only [] at y7_s
  have k7_t_0 := kept hw7 k6_t_0
  have k7_t_1 := kept hw7 k6_t_1
  have y7_t := World.block_lt_of_cell? _ _ k7_t_0
  simp only [] at y7_t
  clear k6_s_0 k6_s_1 y6_s k6_t_0 k6_t_1 y6_t k6_q_0 k6_q_1 y6_q
  go_wp2_with fail
  refine (has_is (r := true) (hasB_mk V2.out (by have := l3.out; have := l4.out; have := GS.out; omega) (by have := l3.out; have := l4.out; have := GS.out; omega)) _).mono ?_
  rintro e w8 ⟨rfl, hw8⟩
  have k8_s_0 := kept hw8 k7_s_0
  have k8_s_1 := kept hw8 k7_s_1
  have y8_s := World.block_lt_of_cell? _ _ k8_s_0
  simp only [] at y8_s
  have k8_t_0 := kept hw8 k7_t_0
  have k8_t_1 := kept hw8 k7_t_1
  have y8_t := World.block_lt_of_cell? _ _ k8_t_0
  simp only [] at y8_t
  clear k7_s_0 k7_s_1 y7_s k7_t_0 k7_t_1 y7_t
  go_wp2_with fail
  refine (awake_any _).mono ?_
  rintro e w9 ⟨rfl, hw9⟩
  go_wp2
  go_ret
  exact ⟨rfl, by (repeat' first | exact Below.refl _ _ | with_reducible refine Below.drew ?_ | with_reducible refine Below.drewN ?_ _ | with_reducible refine Below.alloc' ?_ _ | with_reducible refine Below.setCell ?_ (by first | exact Nat.le_refl _ | (simp; done) | (simp; omega)) _ | with_reducible refine Below.after ?_ ‹_›)⟩

set_option maxRecDepth 100000 in
set_option maxHeartbeats 8000000 in
theorem exact_34 (a b c d z : Int) (w : World) {X Y e Z U f : Int} (e1 : addV a b c d = (X, Y, e)) (e2 : subV a b c d = (Z, U, f)) (v1 : vB a b = true) (v2 : vB c d = true)
    (hA : e = 0) (hA1 : hasB X Y z = true) (gA1 : a + c ≤ z) (gA2 : z ≤ b + d) (mA : a < z - d) (hS : f = 0) (hS1 : hasB Z U z = true) (gS1 : a - d ≤ z) (gS2 : z ≤ b - c) (mS : z + c ≤ a) :
    Calls Try.prog 10 #[.agg #[.int .i64 a, .int .i64 b], .agg #[.int .i64 c, .int .i64 d], .int .i64 z] w fun e w' => e = .returned (.bool true) ∧ Below w.heap.size w w' := by
  have l1 := vB_true.1 v1
  have l2 := vB_true.1 v2
  have b1 : -70368744177664 ≤ a ∧ a ≤ 70368744177664 := by omega
  have b2 : -70368744177664 ≤ b ∧ b ≤ 70368744177664 := by omega
  have b3 : -70368744177664 ≤ c ∧ c ≤ 70368744177664 := by omega
  have b4 : -70368744177664 ≤ d ∧ d ≤ 70368744177664 := by omega
  have b5 : -140737488355328 ≤ z ∧ z ≤ 140737488355328 := by omega
  have l3 := Lib.hid l1
  have l4 := Lib.hid l2
  have V1 := Lib.hid v1
  have V2 := Lib.hid v2
  clear v1 v2 l1 l2
  subst hA
  have HA := Lib.hid hA1
  clear hA1
  subst hS
  have HS := Lib.hid hS1
  clear hS1
  have E1 := Lib.hid e1
  have E2 := Lib.hid e2
  clear e1 e2
  have GA := Lib.hid (And.intro gA1 gA2)
  clear gA1 gA2
  have GS := Lib.hid (And.intro gS1 gS2)
  clear gS1 gS2
  go_enter Try.func10, Try.ntmps10
  go_wp2_with fail
  refine (add_is E1.out _).mono ?_
  rintro e w1 ⟨rfl, hw1⟩
  have k1_s_0 := kept hw1 (p := ⟨w.heap.size, 0, none⟩) (v := .int .i64 a) (by first | ((repeat' first | with_reducible assumption | with_reducible refine cellA ?_ | with_reducible refine cellD ?_); done) | (simp [go_sem]; done) | (simp [go_sem, *]; done))
  have k1_s_1 := kept hw1 (p := ⟨w.heap.size, 1, none⟩) (v := .int .i64 b) (by first | ((repeat' first | with_reducible assumption | with_reducible refine cellA ?_ | with_reducible refine cellD ?_); done) | (simp [go_sem]; done) | (simp [go_sem, *]; done))
  have y1_s := World.block_lt_of_cell? _ _ k1_s_0
  simp only [] at y1_s
  have k1_t_0 := kept hw1 (p := ⟨w.heap.size + 1, 0, none⟩) (v := .int .i64 c) (by first | ((repeat' first | with_reducible assumption | with_reducible refine cellA ?_ | with_reducible refine cellD ?_); done) | (simp [go_sem]; done) | (simp [go_sem, *]; done))
  have k1_t_1 := kept hw1 (p := ⟨w.heap.size + 1, 1, none⟩) (v := .int .i64 d) (by first | ((repeat' first | with_reducible assumption | with_reducible refine cellA ?_ | with_reducible refine cellD ?_); done) | (simp [go_sem]; done) | (simp [go_sem, *]; done))
  have y1_t := World.block_lt_of_cell? _ _ k1_t_0
  simp only [] at y1_t
  go_wp2_with fail
  refine (has_is HA.out _).mono ?_
  rintro e w2 ⟨rfl, hw2⟩
  have k2_s_0 := kept hw2 (cellA k1_s_0)
  have k2_s_1 := kept hw2 (cellA k1_s_1)
  have y2_s := World.block_lt_of_cell? _ _ k2_s_0
  simp only [] at y2_s
  have k2_t_0 := kept hw2 (cellA k1_t_0)
  have k2_t_1 := kept hw2 (cellA k1_t_1)
  have y2_t := World.block_lt_of_cell? _ _ k2_t_0
  simp only [] at y2_t
  have k2_r_0 := kept hw2 (p := ⟨w1.heap.size, 0, none⟩) (v := .int .i64 X) (by first | ((repeat' first | with_reducible assumption | with_reducible refine cellA ?_ | with_reducible refine cellD ?_); done) | (simp [go_sem]; done) | (simp [go_sem, *]; done))
  have k2_r_1 := kept hw2 (p := ⟨w1.heap.size, 1, none⟩) (v := .int .i64 Y) (by first | ((repeat' first | with_reducible assumption | with_reducible refine cellA ?_ | with_reducible refine cellD ?_); done) | (simp [go_sem]; done) | (simp [go_sem, *]; done))
  have y2_r := World.block_lt_of_cell? _ _ k2_r_0
  simp only [] at y2_r
  clear k1_s_0 k1_s_1 y1_s k1_t_0 k1_t_1 y1_t
  go_wp2_with fail
  refine (has_is (r := true) (hasB_mk V1.out (by have := l3.out; have := l4.out; have := GA.out; omega) (by have := l3.out; have := l4.out; have := GA.out; omega)) _).mono ?_
  rintro e w3 ⟨rfl, hw3⟩
  have k3_s_0 := kept hw3 k2_s_0
  have k3_s_1 := kept hw3 k2_s_1
  have y3_s := World.block_lt_of_cell? _ _ k3_s_0
  simp only [] at y3_s
  have k3_t_0 := kept hw3 k2_t_0
  have k3_t_1 := kept hw3 k2_t_1
  have y3_t := World.block_lt_of_cell? _ _ k3_t_0
  simp only [] at y3_t
  clear k2_s_0 k2_s_1 y2_s k2_t_0 k2_t_1 y2_t k2_r_0 k2_r_1 y2_r
  go_wp2_with fail
  refine (has_is (r := true) (hasB_mk V2.out (by have := l3.out; have := l4.out; have := GA.out; omega) (by have := l3.out; have := l4.out; have := GA.out; omega)) _).mono ?_
  rintro e w4 ⟨rfl, hw4⟩
  have k4_s_0 := kept hw4 k3_s_0
  have k4_s_1 := kept hw4 k3_s_1
  have y4_s := World.block_lt_of_cell? _ _ k4_s_0
  simp only [] at y4_s
  have k4_t_0 := kept hw4 k3_t_0
  have k4_t_1 := kept hw4 k3_t_1
  have y4_t := World.block_lt_of_cell? _ _ k4_t_0
  simp only [] at y4_t
  clear k3_s_0 k3_s_1 y3_s k3_t_0 k3_t_1 y3_t
  go_wp2_with fail
  refine (sub_is E2.out _).mono ?_
  rintro e w5 ⟨rfl, hw5⟩
  have k5_s_0 := kept hw5 k4_s_0
  have k5_s_1 := kept hw5 k4_s_1
  have y5_s := World.block_lt_of_cell? _ _ k5_s_0
  simp only [] at y5_s
  have k5_t_0 := kept hw5 k4_t_0
  have k5_t_1 := kept hw5 k4_t_1
  have y5_t := World.block_lt_of_cell? _ _ k5_t_0
  simp only [] at y5_t
  clear k4_s_0 k4_s_1 y4_s k4_t_0 k4_t_1 y4_t
  go_wp2_with fail
  refine (has_is HS.out _).mono ?_
  rintro e w6 ⟨rfl, hw6⟩
  have k6_s_0 := kept hw6 (cellA k5_s_0)
  have k6_s_1 := kept hw6 (cellA k5_s_1)
  have y6_s := World.block_lt_of_cell? _ _ k6_s_0
  simp only [] at y6_s
  have k6_t_0 := kept hw6 (cellA k5_t_0)
  have k6_t_1 := kept hw6 (cellA k5_t_1)
  have y6_t := World.block_lt_of_cell? _ _ k6_t_0
  simp only [] at y6_t
  have k6_q_0 := kept hw6 (p := ⟨w5.heap.size, 0, none⟩) (v := .int .i64 Z) (by first | ((repeat' first | with_reducible assumption | with_reducible refine cellA ?_ | with_reducible refine cellD ?_); done) | (simp [go_sem]; done) | (simp [go_sem, *]; done))
  have k6_q_1 := kept hw6 (p := ⟨w5.heap.size, 1, none⟩) (v := .int .i64 U) (by first | ((repeat' first | with_reducible assumption | with_reducible refine cellA ?_ | with_reducible refine cellD ?_); done) | (simp [go_sem]; done) | (simp [go_sem, *]; done))
  have y6_q := World.block_lt_of_cell? _ _ k6_q_0
  simp only [] at y6_q
  clear k5_s_0 k5_s_1 y5_s k5_t_0 k5_t_1 y5_t
  go_wp2_with fail
  refine (has_is (r := true) (hasB_mk V1.out (by have := l3.out; have := l4.out; have := GS.out; omega) (by have := l3.out; have := l4.out; have := GS.out; omega)) _).mono ?_
  rintro e w7 ⟨rfl, hw7⟩
  have k7_s_0 := kept hw7 k6_s_0
  have k7_s_1 := kept hw7 k6_s_1
  have y7_s := World.block_lt_of_cell? _ _ k7_s_0
  simp only [] at y7_s
  have k7_t_0 := kept hw7 k6_t_0
  have k7_t_1 := kept hw7 k6_t_1
  have y7_t := World.block_lt_of_cell? _ _ k7_t_0
  simp only [] at y7_t
  clear k6_s_0 k6_s_1 y6_s k6_t_0 k6_t_1 y6_t k6_q_0 k6_q_1 y6_q
  go_wp2_with fail
  refine (has_is (r := true) (hasB_mk V2.out (by have := l3.out; have := l4.out; have := GS.out; omega) (by have := l3.out; have := l4.out; have := GS.out; omega)) _).mono ?_
  rintro e w8 ⟨rfl, hw8⟩
  have k8_s_0 := kept hw8 k7_s_0
  have k8_s_1 := kept hw8 k7_s_1
  have y8_s := World.block_lt_of_cell? _ _ k8_s_0
  simp only [] at y8_s
  have k8_t_0 := kept hw8 k7_t_0
  have k8_t_1 := kept hw8 k7_t_1
  have y8_t := World.block_lt_of_cell? _ _ k8_t_0
  simp only [] at y8_t
  clear k7_s_0 k7_s_1 y7_s k7_t_0 k7_t_1 y7_t
  go_wp2_with fail
  refine (awake_any _).mono ?_
  rintro e w9 ⟨rfl, hw9⟩
  go_wp2
  go_ret
  exact ⟨rfl, by (repeat' first | exact Below.refl _ _ | with_reducible refine Below.drew ?_ | with_reducible refine Below.drewN ?_ _ | with_reducible refine Below.alloc' ?_ _ | with_reducible refine Below.setCell ?_ (by first | exact Nat.le_refl _ | (simp; done) | (simp; omega)) _ | with_reducible refine Below.after ?_ ‹_›)⟩

set_option maxRecDepth 100000 in
set_option maxHeartbeats 8000000 in
theorem exact_41 (a b c d z : Int) (w : World) {X Y e Z U f : Int} (e1 : addV a b c d = (X, Y, e)) (e2 : subV a b c d = (Z, U, f)) (v1 : vB a b = true) (v2 : vB c d = true)
    (hA : e = 0) (hA1 : hasB X Y z = true) (gA1 : a + c ≤ z) (gA2 : z ≤ b + d) (mA : z - d ≤ a) (hS : (f == 0) = false) :
    Calls Try.prog 10 #[.agg #[.int .i64 a, .int .i64 b], .agg #[.int .i64 c, .int .i64 d], .int .i64 z] w fun e w' => e = .returned (.bool true) ∧ Below w.heap.size w w' := by
  have l1 := vB_true.1 v1
  have l2 := vB_true.1 v2
  have b1 : -70368744177664 ≤ a ∧ a ≤ 70368744177664 := by omega
  have b2 : -70368744177664 ≤ b ∧ b ≤ 70368744177664 := by omega
  have b3 : -70368744177664 ≤ c ∧ c ≤ 70368744177664 := by omega
  have b4 : -70368744177664 ≤ d ∧ d ≤ 70368744177664 := by omega
  have b5 : -140737488355328 ≤ z ∧ z ≤ 140737488355328 := by omega
  have l3 := Lib.hid l1
  have l4 := Lib.hid l2
  have V1 := Lib.hid v1
  have V2 := Lib.hid v2
  clear v1 v2 l1 l2
  subst hA
  have HA := Lib.hid hA1
  clear hA1
  have E1 := Lib.hid e1
  have E2 := Lib.hid e2
  clear e1 e2
  have GA := Lib.hid (And.intro gA1 gA2)
  clear gA1 gA2
  go_enter Try.func10, Try.ntmps10
  go_wp2_with fail
  refine (add_is E1.out _).mono ?_
  rintro e w1 ⟨rfl, hw1⟩
  have k1_s_0 := kept hw1 (p := ⟨w.heap.size, 0, none⟩) (v := .int .i64 a) (by first | ((repeat' first | with_reducible assumption | with_reducible refine cellA ?_ | with_reducible refine cellD ?_); done) | (simp [go_sem]; done) | (simp [go_sem, *]; done))
  have k1_s_1 := kept hw1 (p := ⟨w.heap.size, 1, none⟩) (v := .int .i64 b) (by first | ((repeat' first | with_reducible assumption | with_reducible refine cellA ?_ | with_reducible refine cellD ?_); done) | (simp [go_sem]; done) | (simp [go_sem, *]; done))
  have y1_s := World.block_lt_of_cell? _ _ k1_s_0
  simp only [] at y1_s
  have k1_t_0 := kept hw1 (p := ⟨w.heap.size + 1, 0, none⟩) (v := .int .i64 c) (by first | ((repeat' first | with_reducible assumption | with_reducible refine cellA ?_ | with_reducible refine cellD ?_); done) | (simp [go_sem]; done) | (simp [go_sem, *]; done))
  have k1_t_1 := kept hw1 (p := ⟨w.heap.size + 1, 1, none⟩) (v := .int .i64 d) (by first | ((repeat' first | with_reducible assumption | with_reducible refine cellA ?_ | with_reducible refine cellD ?_); done) | (simp [go_sem]; done) | (simp [go_sem, *]; done))
  have y1_t := World.block_lt_of_cell? _ _ k1_t_0
  simp only [] at y1_t
  go_wp2_with fail
  refine (has_is HA.out _).mono ?_
  rintro e w2 ⟨rfl, hw2⟩
  have k2_s_0 := kept hw2 (cellA k1_s_0)
  have k2_s_1 := kept hw2 (cellA k1_s_1)
  have y2_s := World.block_lt_of_cell? _ _ k2_s_0
  simp only [] at y2_s
  have k2_t_0 := kept hw2 (cellA k1_t_0)
  have k2_t_1 := kept hw2 (cellA k1_t_1)
  have y2_t := World.block_lt_of_cell? _ _ k2_t_0
  simp only [] at y2_t
  have k2_r_0 := kept hw2 (p := ⟨w1.heap.size, 0, none⟩) (v := .int .i64 X) (by first | ((repeat' first | with_reducible assumption | with_reducible refine cellA ?_ | with_reducible refine cellD ?_); done) | (simp [go_sem]; done) | (simp [go_sem, *]; done))
  have k2_r_1 := kept hw2 (p := ⟨w1.heap.size, 1, none⟩) (v := .int .i64 Y) (by first | ((repeat' first | with_reducible assumption | with_reducible refine cellA ?_ | with_reducible refine cellD ?_); done) | (simp [go_sem]; done) | (simp [go_sem, *]; done))
  have y2_r := World.block_lt_of_cell? _ _ k2_r_0
  simp only [] at y2_r
  clear k1_s_0 k1_s_1 y1_s k1_t_0 k1_t_1 y1_t
  go_wp2_with fail
  refine (has_is (r := true) (hasB_mk V1.out (by have := l3.out; have := l4.out; have := GA.out; omega) (by have := l3.out; have := l4.out; have := GA.out; omega)) _).mono ?_
  rintro e w3 ⟨rfl, hw3⟩
  have k3_s_0 := kept hw3 k2_s_0
  have k3_s_1 := kept hw3 k2_s_1
  have y3_s := World.block_lt_of_cell? _ _ k3_s_0
  simp only [] at y3_s
  have k3_t_0 := kept hw3 k2_t_0
  have k3_t_1 := kept hw3 k2_t_1
  have y3_t := World.block_lt_of_cell? _ _ k3_t_0
  simp only [] at y3_t
  clear k2_s_0 k2_s_1 y2_s k2_t_0 k2_t_1 y2_t k2_r_0 k2_r_1 y2_r
  go_wp2_with fail
  refine (has_is (r := true) (hasB_mk V2.out (by have := l3.out; have := l4.out; have := GA.out; omega) (by have := l3.out; have := l4.out; have := GA.out; omega)) _).mono ?_
  rintro e w4 ⟨rfl, hw4⟩
  have k4_s_0 := kept hw4 k3_s_0
  have k4_s_1 := kept hw4 k3_s_1
  have y4_s := World.block_lt_of_cell? _ _ k4_s_0
  simp only [] at y4_s
  have k4_t_0 := kept hw4 k3_t_0
  have k4_t_1 := kept hw4 k3_t_1
  have y4_t := World.block_lt_of_cell? _ _ k4_t_0
  simp only [] at y4_t
  clear k3_s_0 k3_s_1 y3_s k3_t_0 k3_t_1 y3_t
  go_wp2_with fail
  refine (sub_is E2.out _).mono ?_
  rintro e w5 ⟨rfl, hw5⟩
  have k5_s_0 := kept hw5 k4_s_0
  have k5_s_1 := kept hw5 k4_s_1
  have y5_s := World.block_lt_of_cell? _ _ k5_s_0
  simp only [] at y5_s
  have k5_t_0 := kept hw5 k4_t_0
  have k5_t_1 := kept hw5 k4_t_1
  have y5_t := World.block_lt_of_cell? _ _ k5_t_0
  simp only [] at y5_t
  clear k4_s_0 k4_s_1 y4_s k4_t_0 k4_t_1 y4_t
  go_wp2_with fail
  refine (awake_any _).mono ?_
  rintro e w9 ⟨rfl, hw9⟩
  go_wp2
  go_ret
  exact ⟨rfl, by (repeat' first | exact Below.refl _ _ | with_reducible refine Below.drew ?_ | with_reducible refine Below.drewN ?_ _ | with_reducible refine Below.alloc' ?_ _ | with_reducible refine Below.setCell ?_ (by first | exact Nat.le_refl _ | (simp; done) | (simp; omega)) _ | with_reducible refine Below.after ?_ ‹_›)⟩

set_option maxRecDepth 100000 in
set_option maxHeartbeats 8000000 in
theorem exact_42 (a b c d z : Int) (w : World) {X Y e Z U f : Int} (e1 : addV a b c d = (X, Y, e)) (e2 : subV a b c d = (Z, U, f)) (v1 : vB a b = true) (v2 : vB c d = true)
    (hA : e = 0) (hA1 : hasB X Y z = true) (gA1 : a + c ≤ z) (gA2 : z ≤ b + d) (mA : z - d ≤ a) (hS : f = 0) (hS1 : hasB Z U z = false) :
    Calls Try.prog 10 #[.agg #[.int .i64 a, .int .i64 b], .agg #[.int .i64 c, .int .i64 d], .int .i64 z] w fun e w' => e = .returned (.bool true) ∧ Below w.heap.size w w' := by
  have l1 := vB_true.1 v1
  have l2 := vB_true.1 v2
  have b1 : -70368744177664 ≤ a ∧ a ≤ 70368744177664 := by omega
  have b2 : -70368744177664 ≤ b ∧ b ≤ 70368744177664 := by omega
  have b3 : -70368744177664 ≤ c ∧ c ≤ 70368744177664 := by omega
  have b4 : -70368744177664 ≤ d ∧ d ≤ 70368744177664 := by omega
  have b5 : -140737488355328 ≤ z ∧ z ≤ 140737488355328 := by omega
  have l3 := Lib.hid l1
  have l4 := Lib.hid l2
  have V1 := Lib.hid v1
  have V2 := Lib.hid v2
  clear v1 v2 l1 l2
  subst hA
  have HA := Lib.hid hA1
  clear hA1
  subst hS
  have HS := Lib.hid hS1
  clear hS1
  have E1 := Lib.hid e1
  have E2 := Lib.hid e2
  clear e1 e2
  have GA := Lib.hid (And.intro gA1 gA2)
  clear gA1 gA2
  go_enter Try.func10, Try.ntmps10
  go_wp2_with fail
  refine (add_is E1.out _).mono ?_
  rintro e w1 ⟨rfl, hw1⟩
  have k1_s_0 := kept hw1 (p := ⟨w.heap.size, 0, none⟩) (v := .int .i64 a) (by first | ((repeat' first | with_reducible assumption | with_reducible refine cellA ?_ | with_reducible refine cellD ?_); done) | (simp [go_sem]; done) | (simp [go_sem, *]; done))
  have k1_s_1 := kept hw1 (p := ⟨w.heap.size, 1, none⟩) (v := .int .i64 b) (by first | ((repeat' first | with_reducible assumption | with_reducible refine cellA ?_ | with_reducible refine cellD ?_); done) | (simp [go_sem]; done) | (simp [go_sem, *]; done))
  have y1_s := World.block_lt_of_cell? _ _ k1_s_0
  simp only [] at y1_s
  have k1_t_0 := kept hw1 (p := ⟨w.heap.size + 1, 0, none⟩) (v := .int .i64 c) (by first | ((repeat' first | with_reducible assumption | with_reducible refine cellA ?_ | with_reducible refine cellD ?_); done) | (simp [go_sem]; done) | (simp [go_sem, *]; done))
  have k1_t_1 := kept hw1 (p := ⟨w.heap.size + 1, 1, none⟩) (v := .int .i64 d) (by first | ((repeat' first | with_reducible assumption | with_reducible refine cellA ?_ | with_reducible refine cellD ?_); done) | (simp [go_sem]; done) | (simp [go_sem, *]; done))
  have y1_t := World.block_lt_of_cell? _ _ k1_t_0
  simp only [] at y1_t
  go_wp2_with fail
  refine (has_is HA.out _).mono ?_
  rintro e w2 ⟨rfl, hw2⟩
  have k2_s_0 := kept hw2 (cellA k1_s_0)
  have k2_s_1 := kept hw2 (cellA k1_s_1)
  have y2_s := World.block_lt_of_cell? _ _ k2_s_0
  simp only [] at y2_s
  have k2_t_0 := kept hw2 (cellA k1_t_0)
  have k2_t_1 := kept hw2 (cellA k1_t_1)
  have y2_t := World.block_lt_of_cell? _ _ k2_t_0
  simp only [] at y2_t
  have k2_r_0 := kept hw2 (p := ⟨w1.heap.size, 0, none⟩) (v := .int .i64 X) (by first | ((repeat' first | with_reducible assumption | with_reducible refine cellA ?_ | with_reducible refine cellD ?_); done) | (simp [go_sem]; done) | (simp [go_sem, *]; done))
  have k2_r_1 := kept hw2 (p := ⟨w1.heap.size, 1, none⟩) (v := .int .i64 Y) (by first | ((repeat' first | with_reducible assumption | with_reducible refine cellA ?_ | with_reducible refine cellD ?_); done) | (simp [go_sem]; done) | (simp [go_sem, *]; done))
  have y2_r := World.block_lt_of_cell? _ _ k2_r_0
  simp only [] at y2_r
  clear k1_s_0 k1_s_1 y1_s k1_t_0 k1_t_1 y1_t
  go_wp2_with fail
  refine (has_is (r := true) (hasB_mk V1.out (by have := l3.out; have := l4.out; have := GA.out; omega) (by have := l3.out; have := l4.out; have := GA.out; omega)) _).mono ?_
  rintro e w3 ⟨rfl, hw3⟩
  have k3_s_0 := kept hw3 k2_s_0
  have k3_s_1 := kept hw3 k2_s_1
  have y3_s := World.block_lt_of_cell? _ _ k3_s_0
  simp only [] at y3_s
  have k3_t_0 := kept hw3 k2_t_0
  have k3_t_1 := kept hw3 k2_t_1
  have y3_t := World.block_lt_of_cell? _ _ k3_t_0
  simp only [] at y3_t
  clear k2_s_0 k2_s_1 y2_s k2_t_0 k2_t_1 y2_t k2_r_0 k2_r_1 y2_r
  go_wp2_with fail
  refine (has_is (r := true) (hasB_mk V2.out (by have := l3.out; have := l4.out; have := GA.out; omega) (by have := l3.out; have := l4.out; have := GA.out; omega)) _).mono ?_
  rintro e w4 ⟨rfl, hw4⟩
  have k4_s_0 := kept hw4 k3_s_0
  have k4_s_1 := kept hw4 k3_s_1
  have y4_s := World.block_lt_of_cell? _ _ k4_s_0
  simp only [] at y4_s
  have k4_t_0 := kept hw4 k3_t_0
  have k4_t_1 := kept hw4 k3_t_1
  have y4_t := World.block_lt_of_cell? _ _ k4_t_0
  simp only [] at y4_t
  clear k3_s_0 k3_s_1 y3_s k3_t_0 k3_t_1 y3_t
  go_wp2_with fail
  refine (sub_is E2.out _).mono ?_
  rintro e w5 ⟨rfl, hw5⟩
  have k5_s_0 := kept hw5 k4_s_0
  have k5_s_1 := kept hw5 k4_s_1
  have y5_s := World.block_lt_of_cell? _ _ k5_s_0
  simp only [] at y5_s
  have k5_t_0 := kept hw5 k4_t_0
  have k5_t_1 := kept hw5 k4_t_1
  have y5_t := World.block_lt_of_cell? _ _ k5_t_0
  simp only [] at y5_t
  clear k4_s_0 k4_s_1 y4_s k4_t_0 k4_t_1 y4_t
  go_wp2_with fail
  refine (has_is HS.out _).mono ?_
  rintro e w6 ⟨rfl, hw6⟩
  have k6_s_0 := kept hw6 (cellA k5_s_0)
  have k6_s_1 := kept hw6 (cellA k5_s_1)
  have y6_s := World.block_lt_of_cell? _ _ k6_s_0
  simp only [] at y6_s
  have k6_t_0 := kept hw6 (cellA k5_t_0)
  have k6_t_1 := kept hw6 (cellA k5_t_1)
  have y6_t := World.block_lt_of_cell? _ _ k6_t_0
  simp only [] at y6_t
  have k6_q_0 := kept hw6 (p := ⟨w5.heap.size, 0, none⟩) (v := .int .i64 Z) (by first | ((repeat' first | with_reducible assumption | with_reducible refine cellA ?_ | with_reducible refine cellD ?_); done) | (simp [go_sem]; done) | (simp [go_sem, *]; done))
  have k6_q_1 := kept hw6 (p := ⟨w5.heap.size, 1, none⟩) (v := .int .i64 U) (by first | ((repeat' first | with_reducible assumption | with_reducible refine cellA ?_ | with_reducible refine cellD ?_); done) | (simp [go_sem]; done) | (simp [go_sem, *]; done))
  have y6_q := World.block_lt_of_cell? _ _ k6_q_0
  simp only [] at y6_q
  clear k5_s_0 k5_s_1 y5_s k5_t_0 k5_t_1 y5_t
  go_wp2_with fail
  refine (awake_any _).mono ?_
  rintro e w9 ⟨rfl, hw9⟩
  go_wp2
  go_ret
  exact ⟨rfl, by (repeat' first | exact Below.refl _ _ | with_reducible refine Below.drew ?_ | with_reducible refine Below.drewN ?_ _ | with_reducible refine Below.alloc' ?_ _ | with_reducible refine Below.setCell ?_ (by first | exact Nat.le_refl _ | (simp; done) | (simp; omega)) _ | with_reducible refine Below.after ?_ ‹_›)⟩

set_option maxRecDepth 100000 in
set_option maxHeartbeats 8000000 in
theorem exact_43 (a b c d z : Int) (w : World) {X Y e Z U f : Int} (e1 : addV a b c d = (X, Y, e)) (e2 : subV a b c d = (Z, U, f)) (v1 : vB a b = true) (v2 : vB c d = true)
    (hA : e = 0) (hA1 : hasB X Y z = true) (gA1 : a + c ≤ z) (gA2 : z ≤ b + d) (mA : z - d ≤ a) (hS : f = 0) (hS1 : hasB Z U z = true) (gS1 : a - d ≤ z) (gS2 : z ≤ b - c) (mS : a < z + c) :
    Calls Try.prog 10 #[.agg #[.int .i64 a, .int .i64 b], .agg #[.int .i64 c, .int .i64 d], .int .i64 z] w fun e w' => e = .returned (.bool true) ∧ Below w.heap.size w w' := by
  have l1 := vB_true.1 v1
  have l2 := vB_true.1 v2
  have b1 : -70368744177664 ≤ a ∧ a ≤ 70368744177664 := by omega
  have b2 : -70368744177664 ≤ b ∧ b ≤ 70368744177664 := by omega
  have b3 : -70368744177664 ≤ c ∧ c ≤ 70368744177664 := by omega
  have b4 : -70368744177664 ≤ d ∧ d ≤ 70368744177664 := by omega
  have b5 : -140737488355328 ≤ z ∧ z ≤ 140737488355328 := by omega
  have l3 := Lib.hid l1
  have l4 := Lib.hid l2
  have V1 := Lib.hid v1
  have V2 := Lib.hid v2
  clear v1 v2 l1 l2
  subst hA
  have HA := Lib.hid hA1
  clear hA1
  subst hS
  have HS := Lib.hid hS1
  clear hS1
  have E1 := Lib.hid e1
  have E2 := Lib.hid e2
  clear e1 e2
  have GA := Lib.hid (And.intro gA1 gA2)
  clear gA1 gA2
  have GS := Lib.hid (And.intro gS1 gS2)
  clear gS1 gS2
  go_enter Try.func10, Try.ntmps10
  go_wp2_with fail
  refine (add_is E1.out _).mono ?_
  rintro e w1 ⟨rfl, hw1⟩
  have k1_s_0 := kept hw1 (p := ⟨w.heap.size, 0, none⟩) (v := .int .i64 a) (by first | ((repeat' first | with_reducible assumption | with_reducible refine cellA ?_ | with_reducible refine cellD ?_); done) | (simp [go_sem]; done) | (simp [go_sem, *]; done))
  have k1_s_1 := kept hw1 (p := ⟨w.heap.size, 1, none⟩) (v := .int .i64 b) (by first | ((repeat' first | with_reducible assumption | with_reducible refine cellA ?_ | with_reducible refine cellD ?_); done) | (simp [go_sem]; done) | (simp [go_sem, *]; done))
  have y1_s := World.block_lt_of_cell? _ _ k1_s_0
  simp only [] at y1_s
  have k1_t_0 := kept hw1 (p := ⟨w.heap.size + 1, 0, none⟩) (v := .int .i64 c) (by first | ((repeat' first | with_reducible assumption | with_reducible refine cellA ?_ | with_reducible refine cellD ?_); done) | (simp [go_sem]; done) | (simp [go_sem, *]; done))
  have k1_t_1 := kept hw1 (p := ⟨w.heap.size + 1, 1, none⟩) (v := .int .i64 d) (by first | ((repeat' first | with_reducible assumption | with_reducible refine cellA ?_ | with_reducible refine cellD ?_); done) | (simp [go_sem]; done) | (simp [go_sem, *]; done))
  have y1_t := World.block_lt_of_cell? _ _ k1_t_0
  simp only [] at y1_t
  go_wp2_with fail
  refine (has_is HA.out _).mono ?_
  rintro e w2 ⟨rfl, hw2⟩
  have k2_s_0 := kept hw2 (cellA k1_s_0)
  have k2_s_1 := kept hw2 (cellA k1_s_1)
  have y2_s := World.block_lt_of_cell? _ _ k2_s_0
  simp only [] at y2_s
  have k2_t_0 := kept hw2 (cellA k1_t_0)
  have k2_t_1 := kept hw2 (cellA k1_t_1)
  have y2_t := World.block_lt_of_cell? _ _ k2_t_0
  simp only [] at y2_t
  have k2_r_0 := kept hw2 (p := ⟨w1.heap.size, 0, none⟩) (v := .int .i64 X) (by first | ((repeat' first | with_reducible assumption | with_reducible refine cellA ?_ | with_reducible refine cellD ?_); done) | (simp [go_sem]; done) | (simp [go_sem, *]; done))
  have k2_r_1 := kept hw2 (p := ⟨w1.heap.size, 1, none⟩) (v := .int .i64 Y) (by first | ((repeat' first | with_reducible assumption | with_reducible refine cellA ?_ | with_reducible refine cellD ?_); done) | (simp [go_sem]; done) | (simp [go_sem, *]; done))
  have y2_r := World.block_lt_of_cell? _ _ k2_r_0
  simp only [] at y2_r
  clear k1_s_0 k1_s_1 y1_s k1_t_0 k1_t_1 y1_t
  go_wp2_with fail
  refine (has_is (r := true) (hasB_mk V1.out (by have := l3.out; have := l4.out; have := GA.out; omega) (by have := l3.out; have := l4.out; have := GA.out; omega)) _).mono ?_
  rintro e w3 ⟨rfl, hw3⟩
  have k3_s_0 := kept hw3 k2_s_0
  have k3_s_1 := kept hw3 k2_s_1
  have y3_s := World.block_lt_of_cell? _ _ k3_s_0
  simp only [] at y3_s
  have k3_t_0 := kept hw3 k2_t_0
  have k3_t_1 := kept hw3 k2_t_1
  have y3_t := World.block_lt_of_cell? _ _ k3_t_0
  simp only [] at y3_t
  clear k2_s_0 k2_s_1 y2_s k2_t_0 k2_t_1 y2_t k2_r_0 k2_r_1 y2_r
  go_wp2_with fail
  refine (has_is (r := true) (hasB_mk V2.out (by have := l3.out; have := l4.out; have := GA.out; omega) (by have := l3.out; have := l4.out; have := GA.out; omega)) _).mono ?_
  rintro e w4 ⟨rfl, hw4⟩
  have k4_s_0 := kept hw4 k3_s_0
  have k4_s_1 := kept hw4 k3_s_1
  have y4_s := World.block_lt_of_cell? _ _ k4_s_0
  simp only [] at y4_s
  have k4_t_0 := kept hw4 k3_t_0
  have k4_t_1 := kept hw4 k3_t_1
  have y4_t := World.block_lt_of_cell? _ _ k4_t_0
  simp only [] at y4_t
  clear k3_s_0 k3_s_1 y3_s k3_t_0 k3_t_1 y3_t
  go_wp2_with fail
  refine (sub_is E2.out _).mono ?_
  rintro e w5 ⟨rfl, hw5⟩
  have k5_s_0 := kept hw5 k4_s_0
  have k5_s_1 := kept hw5 k4_s_1
  have y5_s := World.block_lt_of_cell? _ _ k5_s_0
  simp only [] at y5_s
  have k5_t_0 := kept hw5 k4_t_0
  have k5_t_1 := kept hw5 k4_t_1
  have y5_t := World.block_lt_of_cell? _ _ k5_t_0
  simp only [] at y5_t
  clear k4_s_0 k4_s_1 y4_s k4_t_0 k4_t_1 y4_t
  go_wp2_with fail
  refine (has_is HS.out _).mono ?_
  rintro e w6 ⟨rfl, hw6⟩
  have k6_s_0 := kept hw6 (cellA k5_s_0)
  have k6_s_1 := kept hw6 (cellA k5_s_1)
  have y6_s := World.block_lt_of_cell? _ _ k6_s_0
  simp only [] at y6_s
  have k6_t_0 := kept hw6 (cellA k5_t_0)
  have k6_t_1 := kept hw6 (cellA k5_t_1)
  have y6_t := World.block_lt_of_cell? _ _ k6_t_0
  simp only [] at y6_t
  have k6_q_0 := kept hw6 (p := ⟨w5.heap.size, 0, none⟩) (v := .int .i64 Z) (by first | ((repeat' first | with_reducible assumption | with_reducible refine cellA ?_ | with_reducible refine cellD ?_); done) | (simp [go_sem]; done) | (simp [go_sem, *]; done))
  have k6_q_1 := kept hw6 (p := ⟨w5.heap.size, 1, none⟩) (v := .int .i64 U) (by first | ((repeat' first | with_reducible assumption | with_reducible refine cellA ?_ | with_reducible refine cellD ?_); done) | (simp [go_sem]; done) | (simp [go_sem, *]; done))
  have y6_q := World.block_lt_of_cell? _ _ k6_q_0
  simp only [] at y6_q
  clear k5_s_0 k5_s_1 y5_s k5_t_0 k5_t_1 y5_t
  go_wp2_with fail
  refine (has_is (r := true) (hasB_mk V1.out (by have := l3.out; have := l4.out; have := GS.out; omega) (by have := l3.out; have := l4.out; have := GS.out; omega)) _).mono ?_
  rintro e w7 ⟨rfl, hw7⟩
  have k7_s_0 := kept hw7 k6_s_0
  have k7_s_1 := kept hw7 k6_s_1
  have y7_s := World.block_lt_of_cell? _ _ k7_s_0
  simp only [] at y7_s
  have k7_t_0 := kept hw7 k6_t_0
  have k7_t_1 := kept hw7 k6_t_1
  have y7_t := World.block_lt_of_cell? _ _ k7_t_0
  simp only [] at y7_t
  clear k6_s_0 k6_s_1 y6_s k6_t_0 k6_t_1 y6_t k6_q_0 k6_q_1 y6_q
  go_wp2_with fail
  refine (has_is (r := true) (hasB_mk V2.out (by have := l3.out; have := l4.out; have := GS.out; omega) (by have := l3.out; have := l4.out; have := GS.out; omega)) _).mono ?_
  rintro e w8 ⟨rfl, hw8⟩
  have k8_s_0 := kept hw8 k7_s_0
  have k8_s_1 := kept hw8 k7_s_1
  have y8_s := World.block_lt_of_cell? _ _ k8_s_0
  simp only [] at y8_s
  have k8_t_0 := kept hw8 k7_t_0
  have k8_t_1 := kept hw8 k7_t_1
  have y8_t := World.block_lt_of_cell? _ _ k8_t_0
  simp only [] at y8_t
  clear k7_s_0 k7_s_1 y7_s k7_t_0 k7_t_1 y7_t
  go_wp2_with fail
  refine (awake_any _).mono ?_
  rintro e w9 ⟨rfl, hw9⟩
  go_wp2
  go_ret
  exact ⟨rfl, by (repeat' first | exact Below.refl _ _ | with_reducible refine Below.drew ?_ | with_reducible refine Below.drewN ?_ _ | with_reducible refine Below.alloc' ?_ _ | with_reducible refine Below.setCell ?_ (by first | exact Nat.le_refl _ | (simp; done) | (simp; omega)) _ | with_reducible refine Below.after ?_ ‹_›)⟩

set_option maxRecDepth 100000 in
set_option maxHeartbeats 8000000 in
theorem exact_44 (a b c d z : Int) (w : World) {X Y e Z U f : Int} (e1 : addV a b c d = (X, Y, e)) (e2 : subV a b c d = (Z, U, f)) (v1 : vB a b = true) (v2 : vB c d = true)
    (hA : e = 0) (hA1 : hasB X Y z = true) (gA1 : a + c ≤ z) (gA2 : z ≤ b + d) (mA : z - d ≤ a) (hS : f = 0) (hS1 : hasB Z U z = true) (gS1 : a - d ≤ z) (gS2 : z ≤ b - c) (mS : z + c ≤ a) :
    Calls Try.prog 10 #[.agg #[.int .i64 a, .int .i64 b], .agg #[.int .i64 c, .int .i64 d], .int .i64 z] w fun e w' => e = .returned (.bool true) ∧ Below w.heap.size w w' := by
  have l1 := vB_true.1 v1
  have l2 := vB_true.1 v2
  have b1 : -70368744177664 ≤ a ∧ a ≤ 70368744177664 := by omega
  have b2 : -70368744177664 ≤ b ∧ b ≤ 70368744177664 := by omega
  have b3 : -70368744177664 ≤ c ∧ c ≤ 70368744177664 := by omega
  have b4 : -70368744177664 ≤ d ∧ d ≤ 70368744177664 := by omega
  have b5 : -140737488355328 ≤ z ∧ z ≤ 140737488355328 := by omega
  have l3 := Lib.hid l1
  have l4 := Lib.hid l2
  have V1 := Lib.hid v1
  have V2 := Lib.hid v2
  clear v1 v2 l1 l2
  subst hA
  have HA := Lib.hid hA1
  clear hA1
  subst hS
  have HS := Lib.hid hS1
  clear hS1
  have E1 := Lib.hid e1
  have E2 := Lib.hid e2
  clear e1 e2
  have GA := Lib.hid (And.intro gA1 gA2)
  clear gA1 gA2
  have GS := Lib.hid (And.intro gS1 gS2)
  clear gS1 gS2
  go_enter Try.func10, Try.ntmps10
  go_wp2_with fail
  refine (add_is E1.out _).mono ?_
  rintro e w1 ⟨rfl, hw1⟩
  have k1_s_0 := kept hw1 (p := ⟨w.heap.size, 0, none⟩) (v := .int .i64 a) (by first | ((repeat' first | with_reducible assumption | with_reducible refine cellA ?_ | with_reducible refine cellD ?_); done) | (simp [go_sem]; done) | (simp [go_sem, *]; done))
  have k1_s_1 := kept hw1 (p := ⟨w.heap.size, 1, none⟩) (v := .int .i64 b) (by first | ((repeat' first | with_reducible assumption | with_reducible refine cellA ?_ | with_reducible refine cellD ?_); done) | (simp [go_sem]; done) | (simp [go_sem, *]; done))
  have y1_s := World.block_lt_of_cell? _ _ k1_s_0
  simp only [] at y1_s
  have k1_t_0 := kept hw1 (p := ⟨w.heap.size + 1, 0, none⟩) (v := .int .i64 c) (by first | ((repeat' first | with_reducible assumption | with_reducible refine cellA ?_ | with_reducible refine cellD ?_); done) | (simp [go_sem]; done) | (simp [go_sem, *]; done))
  have k1_t_1 := kept hw1 (p := ⟨w.heap.size + 1, 1, none⟩) (v := .int .i64 d) (by first | ((repeat' first | with_reducible assumption | with_reducible refine cellA ?_ | with_reducible refine cellD ?_); done) | (simp [go_sem]; done) | (simp [go_sem, *]; done))
  have y1_t := World.block_lt_of_cell? _ _ k1_t_0
  simp only [] at y1_t
  go_wp2_with fail
  refine (has_is HA.out _).mono ?_
  rintro e w2 ⟨rfl, hw2⟩
  have k2_s_0 := kept hw2 (cellA k1_s_0)
  have k2_s_1 := kept hw2 (cellA k1_s_1)
  have y2_s := World.block_lt_of_cell? _ _ k2_s_0
  simp only [] at y2_s
  have k2_t_0 := kept hw2 (cellA k1_t_0)
  have k2_t_1 := kept hw2 (cellA k1_t_1)
  have y2_t := World.block_lt_of_cell? _ _ k2_t_0
  simp only [] at y2_t
  have k2_r_0 := kept hw2 (p := ⟨w1.heap.size, 0, none⟩) (v := .int .i64 X) (by first | ((repeat' first | with_reducible assumption | with_reducible refine cellA ?_ | with_reducible refine cellD ?_); done) | (simp [go_sem]; done) | (simp [go_sem, *]; done))
  have k2_r_1 := kept hw2 (p := ⟨w1.heap.size, 1, none⟩) (v := .int .i64 Y) (by first | ((repeat' first | with_reducible assumption | with_reducible refine cellA ?_ | with_reducible refine cellD ?_); done) | (simp [go_sem]; done) | (simp [go_sem, *]; done))
  have y2_r := World.block_lt_of_cell? _ _ k2_r_0
  simp only [] at y2_r
  clear k1_s_0 k1_s_1 y1_s k1_t_0 k1_t_1 y1_t
  go_wp2_with fail
  refine (has_is (r := true) (hasB_mk V1.out (by have := l3.out; have := l4.out; have := GA.out; omega) (by have := l3.out; have := l4.out; have := GA.out; omega)) _).mono ?_
  rintro e w3 ⟨rfl, hw3⟩
  have k3_s_0 := kept hw3 k2_s_0
  have k3_s_1 := kept hw3 k2_s_1
  have y3_s := World.block_lt_of_cell? _ _ k3_s_0
  simp only [] at y3_s
  have k3_t_0 := kept hw3 k2_t_0
  have k3_t_1 := kept hw3 k2_t_1
  have y3_t := World.block_lt_of_cell? _ _ k3_t_0
  simp only [] at y3_t
  clear k2_s_0 k2_s_1 y2_s k2_t_0 k2_t_1 y2_t k2_r_0 k2_r_1 y2_r
  go_wp2_with fail
  refine (has_is (r := true) (hasB_mk V2.out (by have := l3.out; have := l4.out; have := GA.out; omega) (by have := l3.out; have := l4.out; have := GA.out; omega)) _).mono ?_
  rintro e w4 ⟨rfl, hw4⟩
  have k4_s_0 := kept hw4 k3_s_0
  have k4_s_1 := kept hw4 k3_s_1
  have y4_s := World.block_lt_of_cell? _ _ k4_s_0
  simp only [] at y4_s
  have k4_t_0 := kept hw4 k3_t_0
  have k4_t_1 := kept hw4 k3_t_1
  have y4_t := World.block_lt_of_cell? _ _ k4_t_0
  simp only [] at y4_t
  clear k3_s_0 k3_s_1 y3_s k3_t_0 k3_t_1 y3_t
  go_wp2_with fail
  refine (sub_is E2.out _).mono ?_
  rintro e w5 ⟨rfl, hw5⟩
  have k5_s_0 := kept hw5 k4_s_0
  have k5_s_1 := kept hw5 k4_s_1
  have y5_s := World.block_lt_of_cell? _ _ k5_s_0
  simp only [] at y5_s
  have k5_t_0 := kept hw5 k4_t_0
  have k5_t_1 := kept hw5 k4_t_1
  have y5_t := World.block_lt_of_cell? _ _ k5_t_0
  simp only [] at y5_t
  clear k4_s_0 k4_s_1 y4_s k4_t_0 k4_t_1 y4_t
  go_wp2_with fail
  refine (has_is HS.out _).mono ?_
  rintro e w6 ⟨rfl, hw6⟩
  have k6_s_0 := kept hw6 (cellA k5_s_0)
  have k6_s_1 := kept hw6 (cellA k5_s_1)
  have y6_s := World.block_lt_of_cell? _ _ k6_s_0
  simp only [] at y6_s
  have k6_t_0 := kept hw6 (cellA k5_t_0)
  have k6_t_1 := kept hw6 (cellA k5_t_1)
  have y6_t := World.block_lt_of_cell? _ _ k6_t_0
  simp only [] at y6_t
  have k6_q_0 := kept hw6 (p := ⟨w5.heap.size, 0, none⟩) (v := .int .i64 Z) (by first | ((repeat' first | with_reducible assumption | with_reducible refine cellA ?_ | with_reducible refine cellD ?_); done) | (simp [go_sem]; done) | (simp [go_sem, *]; done))
  have k6_q_1 := kept hw6 (p := ⟨w5.heap.size, 1, none⟩) (v := .int .i64 U) (by first | ((repeat' first | with_reducible assumption | with_reducible refine cellA ?_ | with_reducible refine cellD ?_); done) | (simp [go_sem]; done) | (simp [go_sem, *]; done))
  have y6_q := World.block_lt_of_cell? _ _ k6_q_0
  simp only [] at y6_q
  clear k5_s_0 k5_s_1 y5_s k5_t_0 k5_t_1 y5_t
  go_wp2_with fail
  refine (has_is (r := true) (hasB_mk V1.out (by have := l3.out; have := l4.out; have := GS.out; omega) (by have := l3.out; have := l4.out; have := GS.out; omega)) _).mono ?_
  rintro e w7 ⟨rfl, hw7⟩
  have k7_s_0 := kept hw7 k6_s_0
  have k7_s_1 := kept hw7 k6_s_1
  have y7_s := World.block_lt_of_cell? _ _ k7_s_0
  simp only [] at y7_s
  have k7_t_0 := kept hw7 k6_t_0
  have k7_t_1 := kept hw7 k6_t_1
  have y7_t := World.block_lt_of_cell? _ _ k7_t_0
  simp only [] at y7_t
  clear k6_s_0 k6_s_1 y6_s k6_t_0 k6_t_1 y6_t k6_q_0 k6_q_1 y6_q
  go_wp2_with fail
  refine (has_is (r := true) (hasB_mk V2.out (by have := l3.out; have := l4.out; have := GS.out; omega) (by have := l3.out; have := l4.out; have := GS.out; omega)) _).mono ?_
  rintro e w8 ⟨rfl, hw8⟩
  have k8_s_0 := kept hw8 k7_s_0
  have k8_s_1 := kept hw8 k7_s_1
  have y8_s := World.block_lt_of_cell? _ _ k8_s_0
  simp only [] at y8_s
  have k8_t_0 := kept hw8 k7_t_0
  have k8_t_1 := kept hw8 k7_t_1
  have y8_t := World.block_lt_of_cell? _ _ k8_t_0
  simp only [] at y8_t
  clear k7_s_0 k7_s_1 y7_s k7_t_0 k7_t_1 y7_t
  go_wp2_with fail
  refine (awake_any _).mono ?_
  rintro e w9 ⟨rfl, hw9⟩
  go_wp2
  go_ret
  exact ⟨rfl, by (repeat' first | exact Below.refl _ _ | with_reducible refine Below.drew ?_ | with_reducible refine Below.drewN ?_ _ | with_reducible refine Below.alloc' ?_ _ | with_reducible refine Below.setCell ?_ (by first | exact Nat.le_refl _ | (simp; done) | (simp; omega)) _ | with_reducible refine Below.after ?_ ‹_›)⟩

theorem add_parts {a b c d X Y e z : Int} (h : addV a b c d = (X, Y, e)) :
    (e == 0) = false ∨ (e = 0 ∧ hasB X Y z = false) ∨ (e = 0 ∧ hasB X Y z = true ∧ vB a b = true ∧ vB c d = true ∧ a + c ≤ z ∧ z ≤ b + d) := by
  cases hv : (vB a b && vB c d)
  · simp [addV, hv] at h
    left
    simp [← h.2.2]
  · have hv' : vB a b = true ∧ vB c d = true := by simpa using hv
    have e1 : addV a b c d = chkV (a + c) (b + d) := by simp [addV, hv]
    rw [e1] at h
    cases hc : vB (a + c) (b + d)
    · simp [chkV, hc] at h
      left
      simp [← h.2.2]
    · simp [chkV, hc] at h
      obtain ⟨rfl, rfl, rfl⟩ := h
      cases hh : hasB (a + c) (b + d) z
      · exact Or.inr (Or.inl ⟨rfl, rfl⟩)
      · exact Or.inr (Or.inr ⟨rfl, rfl, hv'.1, hv'.2, (hasB_out hh).2⟩)
theorem sub_parts {a b c d X Y e z : Int} (h : subV a b c d = (X, Y, e)) :
    (e == 0) = false ∨ (e = 0 ∧ hasB X Y z = false) ∨ (e = 0 ∧ hasB X Y z = true ∧ vB a b = true ∧ vB c d = true ∧ a - d ≤ z ∧ z ≤ b - c) := by
  cases hv : (vB a b && vB c d)
  · simp [subV, hv] at h
    left
    simp [← h.2.2]
  · have hv' : vB a b = true ∧ vB c d = true := by simpa using hv
    have e1 : subV a b c d = chkV (a - d) (b - c) := by simp [subV, hv]
    rw [e1] at h
    cases hc : vB (a - d) (b - c)
    · simp [chkV, hc] at h
      left
      simp [← h.2.2]
    · simp [chkV, hc] at h
      obtain ⟨rfl, rfl, rfl⟩ := h
      cases hh : hasB (a - d) (b - c) z
      · exact Or.inr (Or.inl ⟨rfl, rfl⟩)
      · exact Or.inr (Or.inr ⟨rfl, rfl, hv'.1, hv'.2, (hasB_out hh).2⟩)

theorem spanExact_walk (a b c d z : Int) (w : World) (_h0 : (Lit.int .i64 a).wf = true) (_h1 : (Lit.int .i64 b).wf = true) (_h2 : (Lit.int .i64 c).wf = true) (_h3 : (Lit.int .i64 d).wf = true) (_h4 : (Lit.int .i64 z).wf = true) :
    Calls Try.prog 10 #[.agg #[.int .i64 a, .int .i64 b], .agg #[.int .i64 c, .int .i64 d], .int .i64 z] w fun e w' => e = .returned (.bool true) ∧ Below w.heap.size w w' := by
  obtain ⟨⟨X, Y, e⟩, e1⟩ : ∃ r, addV a b c d = r := ⟨_, rfl⟩
  obtain ⟨⟨Z, U, f⟩, e2⟩ : ∃ r, subV a b c d = r := ⟨_, rfl⟩
  rcases add_parts (z := z) e1 with hA | ⟨hA, hA1⟩ | ⟨hA, hA1, v1, v2, gA1, gA2⟩
  · rcases sub_parts (z := z) e2 with hS | ⟨hS, hS1⟩ | ⟨hS, hS1, v1, v2, gS1, gS2⟩
    · exact exact_11 a b c d z w e1 e2 hA hS
    · exact exact_12 a b c d z w e1 e2 hA hS hS1
    · rcases Int.lt_or_le a (z + c) with mS | mS
      · exact exact_13 a b c d z w e1 e2 v1 v2 hA hS hS1 gS1 gS2 mS
      · exact exact_14 a b c d z w e1 e2 v1 v2 hA hS hS1 gS1 gS2 mS
  · rcases sub_parts (z := z) e2 with hS | ⟨hS, hS1⟩ | ⟨hS, hS1, v1, v2, gS1, gS2⟩
    · exact exact_21 a b c d z w e1 e2 hA hA1 hS
    · exact exact_22 a b c d z w e1 e2 hA hA1 hS hS1
    · rcases Int.lt_or_le a (z + c) with mS | mS
      · exact exact_23 a b c d z w e1 e2 v1 v2 hA hA1 hS hS1 gS1 gS2 mS
      · exact exact_24 a b c d z w e1 e2 v1 v2 hA hA1 hS hS1 gS1 gS2 mS
  · rcases Int.lt_or_le a (z - d) with mA | mA
    · rcases sub_parts (z := z) e2 with hS | ⟨hS, hS1⟩ | ⟨hS, hS1, _, _, gS1, gS2⟩
      · exact exact_31 a b c d z w e1 e2 v1 v2 hA hA1 gA1 gA2 mA hS
      · exact exact_32 a b c d z w e1 e2 v1 v2 hA hA1 gA1 gA2 mA hS hS1
      · rcases Int.lt_or_le a (z + c) with mS | mS
        · exact exact_33 a b c d z w e1 e2 v1 v2 hA hA1 gA1 gA2 mA hS hS1 gS1 gS2 mS
        · exact exact_34 a b c d z w e1 e2 v1 v2 hA hA1 gA1 gA2 mA hS hS1 gS1 gS2 mS
    · rcases sub_parts (z := z) e2 with hS | ⟨hS, hS1⟩ | ⟨hS, hS1, _, _, gS1, gS2⟩
      · exact exact_41 a b c d z w e1 e2 v1 v2 hA hA1 gA1 gA2 mA hS
      · exact exact_42 a b c d z w e1 e2 v1 v2 hA hA1 gA1 gA2 mA hS hS1
      · rcases Int.lt_or_le a (z + c) with mS | mS
        · exact exact_43 a b c d z w e1 e2 v1 v2 hA hA1 gA1 gA2 mA hS hS1 gS1 gS2 mS
        · exact exact_44 a b c d z w e1 e2 v1 v2 hA hA1 gA1 gA2 mA hS hS1 gS1 gS2 mS
end Go.Proofs.Ytnehmkdcifgpnaa
