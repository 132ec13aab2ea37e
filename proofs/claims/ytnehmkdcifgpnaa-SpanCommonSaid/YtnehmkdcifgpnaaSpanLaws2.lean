/-
  The walk of SpanCommon.
-/
import Derived.Test.YtnehmkdcifgpnaaSpanW
import Derived.Test.YtnehmkdcifgpnaaOpen
namespace Go.Proofs.Ytnehmkdcifgpnaa
open Go.RowKit

theorem kept8 {w w' : World} {p0 p1 p2 p3 p4 p5 p6 p7 : Addr} {v0 v1 v2 v3 v4 v5 v6 v7 : Value} (hb : Below w.heap.size w w')
    (h : w.cell? p0 = some v0 ∧ w.cell? p1 = some v1 ∧ w.cell? p2 = some v2 ∧ w.cell? p3 = some v3 ∧ w.cell? p4 = some v4 ∧ w.cell? p5 = some v5 ∧ w.cell? p6 = some v6 ∧ w.cell? p7 = some v7) :
    w'.cell? p0 = some v0 ∧ w'.cell? p1 = some v1 ∧ w'.cell? p2 = some v2 ∧ w'.cell? p3 = some v3 ∧ w'.cell? p4 = some v4 ∧ w'.cell? p5 = some v5 ∧ w'.cell? p6 = some v6 ∧ w'.cell? p7 = some v7 :=
  ⟨kept hb h.1, kept hb h.2.1, kept hb h.2.2.1, kept hb h.2.2.2.1, kept hb h.2.2.2.2.1, kept hb h.2.2.2.2.2.1, kept hb h.2.2.2.2.2.2.1, kept hb h.2.2.2.2.2.2.2⟩

theorem has_meet (a b c d x : Int) (h1 : vB a b = true) (h2 : vB c d = true) (hm : ¬ min b d < max a c) : hasB (max a c) (min b d) x = (hasB a b x && hasB c d x) := by
  have l1 := vB_true.1 h1
  have l2 := vB_true.1 h2
  have l3 : vB (max a c) (min b d) = true := vB_true.2 (by omega)
  unfold hasB
  rw [h1, h2, l3, Bool.eq_iff_iff]
  simp
  omega
theorem has_hull (a b c d x : Int) (h1 : vB a b = true) (h2 : vB c d = true) (h : (hasB a b x || hasB c d x) = true) : hasB (min a c) (max b d) x = true := by
  have l1 := vB_true.1 h1
  have l2 := vB_true.1 h2
  have l3 : vB (min a c) (max b d) = true := vB_true.2 (by omega)
  unfold hasB at *
  rw [h1, h2] at h
  rw [l3]
  simp at *
  omega
theorem has_none (a b c d x : Int) (hm : min b d < max a c) : (hasB a b x && hasB c d x) = false := by
  cases h : (hasB a b x && hasB c d x)
  · rfl
  · unfold hasB at h
    simp at h
    omega

set_option maxRecDepth 100000 in
set_option maxHeartbeats 8000000 in
theorem spanCommon_no1 (a b c d x : Int) (w : World) (h1 : vB a b = false) :
    Calls Try.prog 11 #[.agg #[.int .i64 a, .int .i64 b], .agg #[.int .i64 c, .int .i64 d], .int .i64 x] w fun e w' => e = .returned (.bool true) ∧ Below w.heap.size w w' := by
  have e1 : meetV a b c d = (0, 0, 1) := by simp [meetV, *]
  have e2 : hullV a b c d = (0, 0, 1) := by simp [hullV, *]
  have E1 := Lib.hid e1
  have E2 := Lib.hid e2
  clear e1 e2
  have H1 := Lib.hid h1
  clear h1
  go_enter Try.func11, Try.ntmps11
  go_wp2_with fail
  refine (meet_is E1.out _).mono ?_
  rintro e w1 ⟨rfl, hw1⟩
  have k1_s_0 := kept hw1 (p := ⟨w.heap.size, 0, none⟩) (v := .int .i64 a) (by first | ((repeat' first | with_reducible assumption | with_reducible refine cellA ?_ | with_reducible refine cellD ?_); done) | (simp [go_sem]; done) | (simp [go_sem, *]; done))
  have k1_s_1 := kept hw1 (p := ⟨w.heap.size, 1, none⟩) (v := .int .i64 b) (by first | ((repeat' first | with_reducible assumption | with_reducible refine cellA ?_ | with_reducible refine cellD ?_); done) | (simp [go_sem]; done) | (simp [go_sem, *]; done))
  have y1_s := World.block_lt_of_cell? _ _ k1_s_0
  simp only [] at y1_s
  have k1_t_0 := kept hw1 (p := ⟨w.heap.size + 1, 0, none⟩) (v := .int .i64 c) (by first | ((repeat' first | with_reducible assumption | with_reducible refine cellA ?_ | with_reducible refine cellD ?_); done) | (simp [go_sem]; done) | (simp [go_sem, *]; done))
  have k1_t_1 := kept hw1 (p := ⟨w.heap.size + 1, 1, none⟩) (v := .int .i64 d) (by first | ((repeat' first | with_reducible assumption | with_reducible refine cellA ?_ | with_reducible refine cellD ?_); done) | (simp [go_sem]; done) | (simp [go_sem, *]; done))
  have y1_t := World.block_lt_of_cell? _ _ k1_t_0
  simp only [] at y1_t
  go_wp2_with fail
  refine (hull_is E2.out _).mono ?_
  rintro e w2 ⟨rfl, hw2⟩
  have k2_s_0 := kept hw2 (p := ⟨w.heap.size, 0, none⟩) (v := .int .i64 a) (by first | ((repeat' first | with_reducible assumption | with_reducible refine cellA ?_ | with_reducible refine cellD ?_); done) | (simp [go_sem]; done) | (simp [go_sem, *]; done))
  have k2_s_1 := kept hw2 (p := ⟨w.heap.size, 1, none⟩) (v := .int .i64 b) (by first | ((repeat' first | with_reducible assumption | with_reducible refine cellA ?_ | with_reducible refine cellD ?_); done) | (simp [go_sem]; done) | (simp [go_sem, *]; done))
  have y2_s := World.block_lt_of_cell? _ _ k2_s_0
  simp only [] at y2_s
  have k2_t_0 := kept hw2 (p := ⟨w.heap.size + 1, 0, none⟩) (v := .int .i64 c) (by first | ((repeat' first | with_reducible assumption | with_reducible refine cellA ?_ | with_reducible refine cellD ?_); done) | (simp [go_sem]; done) | (simp [go_sem, *]; done))
  have k2_t_1 := kept hw2 (p := ⟨w.heap.size + 1, 1, none⟩) (v := .int .i64 d) (by first | ((repeat' first | with_reducible assumption | with_reducible refine cellA ?_ | with_reducible refine cellD ?_); done) | (simp [go_sem]; done) | (simp [go_sem, *]; done))
  have y2_t := World.block_lt_of_cell? _ _ k2_t_0
  simp only [] at y2_t
  have k2_m_0 := kept hw2 (p := ⟨w1.heap.size, 0, none⟩) (v := .int .i64 0) (by first | ((repeat' first | with_reducible assumption | with_reducible refine cellA ?_ | with_reducible refine cellD ?_); done) | (simp [go_sem]; done) | (simp [go_sem, *]; done))
  have k2_m_1 := kept hw2 (p := ⟨w1.heap.size, 1, none⟩) (v := .int .i64 0) (by first | ((repeat' first | with_reducible assumption | with_reducible refine cellA ?_ | with_reducible refine cellD ?_); done) | (simp [go_sem]; done) | (simp [go_sem, *]; done))
  have y2_m := World.block_lt_of_cell? _ _ k2_m_0
  simp only [] at y2_m
  clear k1_s_0 k1_s_1 y1_s k1_t_0 k1_t_1 y1_t
  go_wp2_with fail
  refine (valid_no _ _ _ H1.out).mono ?_
  rintro e w3 ⟨rfl, hw3⟩
  have k3_s_0 := kept hw3 (p := ⟨w.heap.size, 0, none⟩) (v := .int .i64 a) (by first | ((repeat' first | with_reducible assumption | with_reducible refine cellA ?_ | with_reducible refine cellD ?_); done) | (simp [go_sem]; done) | (simp [go_sem, *]; done))
  have k3_s_1 := kept hw3 (p := ⟨w.heap.size, 1, none⟩) (v := .int .i64 b) (by first | ((repeat' first | with_reducible assumption | with_reducible refine cellA ?_ | with_reducible refine cellD ?_); done) | (simp [go_sem]; done) | (simp [go_sem, *]; done))
  have y3_s := World.block_lt_of_cell? _ _ k3_s_0
  simp only [] at y3_s
  have k3_t_0 := kept hw3 (p := ⟨w.heap.size + 1, 0, none⟩) (v := .int .i64 c) (by first | ((repeat' first | with_reducible assumption | with_reducible refine cellA ?_ | with_reducible refine cellD ?_); done) | (simp [go_sem]; done) | (simp [go_sem, *]; done))
  have k3_t_1 := kept hw3 (p := ⟨w.heap.size + 1, 1, none⟩) (v := .int .i64 d) (by first | ((repeat' first | with_reducible assumption | with_reducible refine cellA ?_ | with_reducible refine cellD ?_); done) | (simp [go_sem]; done) | (simp [go_sem, *]; done))
  have y3_t := World.block_lt_of_cell? _ _ k3_t_0
  simp only [] at y3_t
  have k3_m_0 := kept hw3 (p := ⟨w1.heap.size, 0, none⟩) (v := .int .i64 0) (by first | ((repeat' first | with_reducible assumption | with_reducible refine cellA ?_ | with_reducible refine cellD ?_); done) | (simp [go_sem]; done) | (simp [go_sem, *]; done))
  have k3_m_1 := kept hw3 (p := ⟨w1.heap.size, 1, none⟩) (v := .int .i64 0) (by first | ((repeat' first | with_reducible assumption | with_reducible refine cellA ?_ | with_reducible refine cellD ?_); done) | (simp [go_sem]; done) | (simp [go_sem, *]; done))
  have y3_m := World.block_lt_of_cell? _ _ k3_m_0
  simp only [] at y3_m
  have k3_h_0 := kept hw3 (p := ⟨w2.heap.size, 0, none⟩) (v := .int .i64 0) (by first | ((repeat' first | with_reducible assumption | with_reducible refine cellA ?_ | with_reducible refine cellD ?_); done) | (simp [go_sem]; done) | (simp [go_sem, *]; done))
  have k3_h_1 := kept hw3 (p := ⟨w2.heap.size, 1, none⟩) (v := .int .i64 0) (by first | ((repeat' first | with_reducible assumption | with_reducible refine cellA ?_ | with_reducible refine cellD ?_); done) | (simp [go_sem]; done) | (simp [go_sem, *]; done))
  have y3_h := World.block_lt_of_cell? _ _ k3_h_0
  simp only [] at y3_h
  clear k2_s_0 k2_s_1 y2_s k2_t_0 k2_t_1 y2_t k2_m_0 k2_m_1 y2_m
  go_wp2_with fail
  refine (awake_any _).mono ?_
  rintro e w5 ⟨rfl, hw5⟩
  go_wp2
  go_ret
  exact ⟨rfl, by (repeat' first | exact Below.refl _ _ | with_reducible refine Below.drew ?_ | with_reducible refine Below.drewN ?_ _ | with_reducible refine Below.alloc' ?_ _ | with_reducible refine Below.setCell ?_ (by first | exact Nat.le_refl _ | (simp; done) | (simp; omega)) _ | with_reducible refine Below.after ?_ ‹_›)⟩

set_option maxRecDepth 100000 in
set_option maxHeartbeats 8000000 in
theorem spanCommon_no2 (a b c d x : Int) (w : World) (h1 : vB a b = true) (h2 : vB c d = false) :
    Calls Try.prog 11 #[.agg #[.int .i64 a, .int .i64 b], .agg #[.int .i64 c, .int .i64 d], .int .i64 x] w fun e w' => e = .returned (.bool true) ∧ Below w.heap.size w w' := by
  have e1 : meetV a b c d = (0, 0, 1) := by simp [meetV, *]
  have e2 : hullV a b c d = (0, 0, 1) := by simp [hullV, *]
  have E1 := Lib.hid e1
  have E2 := Lib.hid e2
  clear e1 e2
  have H1 := Lib.hid h1
  clear h1
  have H2 := Lib.hid h2
  clear h2
  go_enter Try.func11, Try.ntmps11
  go_wp2_with fail
  refine (meet_is E1.out _).mono ?_
  rintro e w1 ⟨rfl, hw1⟩
  have k1_s_0 := kept hw1 (p := ⟨w.heap.size, 0, none⟩) (v := .int .i64 a) (by first | ((repeat' first | with_reducible assumption | with_reducible refine cellA ?_ | with_reducible refine cellD ?_); done) | (simp [go_sem]; done) | (simp [go_sem, *]; done))
  have k1_s_1 := kept hw1 (p := ⟨w.heap.size, 1, none⟩) (v := .int .i64 b) (by first | ((repeat' first | with_reducible assumption | with_reducible refine cellA ?_ | with_reducible refine cellD ?_); done) | (simp [go_sem]; done) | (simp [go_sem, *]; done))
  have y1_s := World.block_lt_of_cell? _ _ k1_s_0
  simp only [] at y1_s
  have k1_t_0 := kept hw1 (p := ⟨w.heap.size + 1, 0, none⟩) (v := .int .i64 c) (by first | ((repeat' first | with_reducible assumption | with_reducible refine cellA ?_ | with_reducible refine cellD ?_); done) | (simp [go_sem]; done) | (simp [go_sem, *]; done))
  have k1_t_1 := kept hw1 (p := ⟨w.heap.size + 1, 1, none⟩) (v := .int .i64 d) (by first | ((repeat' first | with_reducible assumption | with_reducible refine cellA ?_ | with_reducible refine cellD ?_); done) | (simp [go_sem]; done) | (simp [go_sem, *]; done))
  have y1_t := World.block_lt_of_cell? _ _ k1_t_0
  simp only [] at y1_t
  go_wp2_with fail
  refine (hull_is E2.out _).mono ?_
  rintro e w2 ⟨rfl, hw2⟩
  have k2_s_0 := kept hw2 (p := ⟨w.heap.size, 0, none⟩) (v := .int .i64 a) (by first | ((repeat' first | with_reducible assumption | with_reducible refine cellA ?_ | with_reducible refine cellD ?_); done) | (simp [go_sem]; done) | (simp [go_sem, *]; done))
  have k2_s_1 := kept hw2 (p := ⟨w.heap.size, 1, none⟩) (v := .int .i64 b) (by first | ((repeat' first | with_reducible assumption | with_reducible refine cellA ?_ | with_reducible refine cellD ?_); done) | (simp [go_sem]; done) | (simp [go_sem, *]; done))
  have y2_s := World.block_lt_of_cell? _ _ k2_s_0
  simp only [] at y2_s
  have k2_t_0 := kept hw2 (p := ⟨w.heap.size + 1, 0, none⟩) (v := .int .i64 c) (by first | ((repeat' first | with_reducible assumption | with_reducible refine cellA ?_ | with_reducible refine cellD ?_); done) | (simp [go_sem]; done) | (simp [go_sem, *]; done))
  have k2_t_1 := kept hw2 (p := ⟨w.heap.size + 1, 1, none⟩) (v := .int .i64 d) (by first | ((repeat' first | with_reducible assumption | with_reducible refine cellA ?_ | with_reducible refine cellD ?_); done) | (simp [go_sem]; done) | (simp [go_sem, *]; done))
  have y2_t := World.block_lt_of_cell? _ _ k2_t_0
  simp only [] at y2_t
  have k2_m_0 := kept hw2 (p := ⟨w1.heap.size, 0, none⟩) (v := .int .i64 0) (by first | ((repeat' first | with_reducible assumption | with_reducible refine cellA ?_ | with_reducible refine cellD ?_); done) | (simp [go_sem]; done) | (simp [go_sem, *]; done))
  have k2_m_1 := kept hw2 (p := ⟨w1.heap.size, 1, none⟩) (v := .int .i64 0) (by first | ((repeat' first | with_reducible assumption | with_reducible refine cellA ?_ | with_reducible refine cellD ?_); done) | (simp [go_sem]; done) | (simp [go_sem, *]; done))
  have y2_m := World.block_lt_of_cell? _ _ k2_m_0
  simp only [] at y2_m
  clear k1_s_0 k1_s_1 y1_s k1_t_0 k1_t_1 y1_t
  go_wp2_with fail
  refine (valid_yes _ _ _ H1.out).mono ?_
  rintro e w3 ⟨rfl, hw3⟩
  have k3_s_0 := kept hw3 (p := ⟨w.heap.size, 0, none⟩) (v := .int .i64 a) (by first | ((repeat' first | with_reducible assumption | with_reducible refine cellA ?_ | with_reducible refine cellD ?_); done) | (simp [go_sem]; done) | (simp [go_sem, *]; done))
  have k3_s_1 := kept hw3 (p := ⟨w.heap.size, 1, none⟩) (v := .int .i64 b) (by first | ((repeat' first | with_reducible assumption | with_reducible refine cellA ?_ | with_reducible refine cellD ?_); done) | (simp [go_sem]; done) | (simp [go_sem, *]; done))
  have y3_s := World.block_lt_of_cell? _ _ k3_s_0
  simp only [] at y3_s
  have k3_t_0 := kept hw3 (p := ⟨w.heap.size + 1, 0, none⟩) (v := .int .i64 c) (by first | ((repeat' first | with_reducible assumption | with_reducible refine cellA ?_ | with_reducible refine cellD ?_); done) | (simp [go_sem]; done) | (simp [go_sem, *]; done))
  have k3_t_1 := kept hw3 (p := ⟨w.heap.size + 1, 1, none⟩) (v := .int .i64 d) (by first | ((repeat' first | with_reducible assumption | with_reducible refine cellA ?_ | with_reducible refine cellD ?_); done) | (simp [go_sem]; done) | (simp [go_sem, *]; done))
  have y3_t := World.block_lt_of_cell? _ _ k3_t_0
  simp only [] at y3_t
  have k3_m_0 := kept hw3 (p := ⟨w1.heap.size, 0, none⟩) (v := .int .i64 0) (by first | ((repeat' first | with_reducible assumption | with_reducible refine cellA ?_ | with_reducible refine cellD ?_); done) | (simp [go_sem]; done) | (simp [go_sem, *]; done))
  have k3_m_1 := kept hw3 (p := ⟨w1.heap.size, 1, none⟩) (v := .int .i64 0) (by first | ((repeat' first | with_reducible assumption | with_reducible refine cellA ?_ | with_reducible refine cellD ?_); done) | (simp [go_sem]; done) | (simp [go_sem, *]; done))
  have y3_m := World.block_lt_of_cell? _ _ k3_m_0
  simp only [] at y3_m
  have k3_h_0 := kept hw3 (p := ⟨w2.heap.size, 0, none⟩) (v := .int .i64 0) (by first | ((repeat' first | with_reducible assumption | with_reducible refine cellA ?_ | with_reducible refine cellD ?_); done) | (simp [go_sem]; done) | (simp [go_sem, *]; done))
  have k3_h_1 := kept hw3 (p := ⟨w2.heap.size, 1, none⟩) (v := .int .i64 0) (by first | ((repeat' first | with_reducible assumption | with_reducible refine cellA ?_ | with_reducible refine cellD ?_); done) | (simp [go_sem]; done) | (simp [go_sem, *]; done))
  have y3_h := World.block_lt_of_cell? _ _ k3_h_0
  simp only [] at y3_h
  clear k2_s_0 k2_s_1 y2_s k2_t_0 k2_t_1 y2_t k2_m_0 k2_m_1 y2_m
  go_wp2_with fail
  refine (valid_no _ _ _ H2.out).mono ?_
  rintro e w4 ⟨rfl, hw4⟩
  have k4_s_0 := kept hw4 (p := ⟨w.heap.size, 0, none⟩) (v := .int .i64 a) (by first | ((repeat' first | with_reducible assumption | with_reducible refine cellA ?_ | with_reducible refine cellD ?_); done) | (simp [go_sem]; done) | (simp [go_sem, *]; done))
  have k4_s_1 := kept hw4 (p := ⟨w.heap.size, 1, none⟩) (v := .int .i64 b) (by first | ((repeat' first | with_reducible assumption | with_reducible refine cellA ?_ | with_reducible refine cellD ?_); done) | (simp [go_sem]; done) | (simp [go_sem, *]; done))
  have y4_s := World.block_lt_of_cell? _ _ k4_s_0
  simp only [] at y4_s
  have k4_t_0 := kept hw4 (p := ⟨w.heap.size + 1, 0, none⟩) (v := .int .i64 c) (by first | ((repeat' first | with_reducible assumption | with_reducible refine cellA ?_ | with_reducible refine cellD ?_); done) | (simp [go_sem]; done) | (simp [go_sem, *]; done))
  have k4_t_1 := kept hw4 (p := ⟨w.heap.size + 1, 1, none⟩) (v := .int .i64 d) (by first | ((repeat' first | with_reducible assumption | with_reducible refine cellA ?_ | with_reducible refine cellD ?_); done) | (simp [go_sem]; done) | (simp [go_sem, *]; done))
  have y4_t := World.block_lt_of_cell? _ _ k4_t_0
  simp only [] at y4_t
  have k4_m_0 := kept hw4 (p := ⟨w1.heap.size, 0, none⟩) (v := .int .i64 0) (by first | ((repeat' first | with_reducible assumption | with_reducible refine cellA ?_ | with_reducible refine cellD ?_); done) | (simp [go_sem]; done) | (simp [go_sem, *]; done))
  have k4_m_1 := kept hw4 (p := ⟨w1.heap.size, 1, none⟩) (v := .int .i64 0) (by first | ((repeat' first | with_reducible assumption | with_reducible refine cellA ?_ | with_reducible refine cellD ?_); done) | (simp [go_sem]; done) | (simp [go_sem, *]; done))
  have y4_m := World.block_lt_of_cell? _ _ k4_m_0
  simp only [] at y4_m
  have k4_h_0 := kept hw4 (p := ⟨w2.heap.size, 0, none⟩) (v := .int .i64 0) (by first | ((repeat' first | with_reducible assumption | with_reducible refine cellA ?_ | with_reducible refine cellD ?_); done) | (simp [go_sem]; done) | (simp [go_sem, *]; done))
  have k4_h_1 := kept hw4 (p := ⟨w2.heap.size, 1, none⟩) (v := .int .i64 0) (by first | ((repeat' first | with_reducible assumption | with_reducible refine cellA ?_ | with_reducible refine cellD ?_); done) | (simp [go_sem]; done) | (simp [go_sem, *]; done))
  have y4_h := World.block_lt_of_cell? _ _ k4_h_0
  simp only [] at y4_h
  clear k3_s_0 k3_s_1 y3_s k3_t_0 k3_t_1 y3_t k3_m_0 k3_m_1 y3_m k3_h_0 k3_h_1 y3_h
  go_wp2_with fail
  refine (awake_any _).mono ?_
  rintro e w5 ⟨rfl, hw5⟩
  go_wp2
  go_ret
  exact ⟨rfl, by (repeat' first | exact Below.refl _ _ | with_reducible refine Below.drew ?_ | with_reducible refine Below.drewN ?_ _ | with_reducible refine Below.alloc' ?_ _ | with_reducible refine Below.setCell ?_ (by first | exact Nat.le_refl _ | (simp; done) | (simp; omega)) _ | with_reducible refine Below.after ?_ ‹_›)⟩

set_option maxRecDepth 100000 in
set_option maxHeartbeats 8000000 in
theorem spanCommon_yes (a b c d x : Int) (w : World) {X Y Z U e : Int} {p q : Bool} (h1 : vB a b = true) (h2 : vB c d = true) (e1 : meetV a b c d = (X, Y, e)) (e2 : hullV a b c d = (Z, U, 0))
    (hp : hasB a b x = p) (hq : hasB c d x = q) (hm : (e = 0 ∧ hasB X Y x = (p && q)) ∨ (e = 10 ∧ (p && q) = false)) (hh : (p || q) = true → hasB Z U x = true)
    (hz : (Z == a) = true ∨ ((Z == a) = false ∧ (Z == c) = true)) (hu : (U == b) = true ∨ ((U == b) = false ∧ (U == d) = true)) :
    Calls Try.prog 11 #[.agg #[.int .i64 a, .int .i64 b], .agg #[.int .i64 c, .int .i64 d], .int .i64 x] w fun e w' => e = .returned (.bool true) ∧ Below w.heap.size w w' := by
  have H1 := Lib.hid h1
  have H2 := Lib.hid h2
  clear h1 h2
  rcases hm with ⟨rfl, hm⟩ | ⟨rfl, hm⟩ <;> rcases hz with hz | ⟨hz, hz'⟩ <;> rcases hu with hu | ⟨hu, hu'⟩ <;> cases p <;> cases q <;> simp only [Bool.and_self, Bool.and_true, Bool.and_false, Bool.or_self, Bool.or_true, Bool.or_false, reduceCtorEq, false_implies, forall_const] at hm hh
  all_goals
    have E1 := Lib.hid e1
    have E2 := Lib.hid e2
    clear e1 e2
    go_enter Try.func11, Try.ntmps11
    go_wp2_with fail
    refine (meet_is E1.out _).mono ?_
    rintro e w1 ⟨rfl, hw1⟩
    have k1_s_0 := kept hw1 (p := ⟨w.heap.size, 0, none⟩) (v := .int .i64 a) (by first | ((repeat' first | with_reducible assumption | with_reducible refine cellA ?_ | with_reducible refine cellD ?_); done) | (simp [go_sem]; done) | (simp [go_sem, *]; done))
    have k1_s_1 := kept hw1 (p := ⟨w.heap.size, 1, none⟩) (v := .int .i64 b) (by first | ((repeat' first | with_reducible assumption | with_reducible refine cellA ?_ | with_reducible refine cellD ?_); done) | (simp [go_sem]; done) | (simp [go_sem, *]; done))
    have y1_s := World.block_lt_of_cell? _ _ k1_s_0
    simp only [] at y1_s
    have k1_t_0 := kept hw1 (p := ⟨w.heap.size + 1, 0, none⟩) (v := .int .i64 c) (by first | ((repeat' first | with_reducible assumption | with_reducible refine cellA ?_ | with_reducible refine cellD ?_); done) | (simp [go_sem]; done) | (simp [go_sem, *]; done))
    have k1_t_1 := kept hw1 (p := ⟨w.heap.size + 1, 1, none⟩) (v := .int .i64 d) (by first | ((repeat' first | with_reducible assumption | with_reducible refine cellA ?_ | with_reducible refine cellD ?_); done) | (simp [go_sem]; done) | (simp [go_sem, *]; done))
    have y1_t := World.block_lt_of_cell? _ _ k1_t_0
    simp only [] at y1_t
    go_wp2_with fail
    refine (hull_is E2.out _).mono ?_
    rintro e w2 ⟨rfl, hw2⟩
    have k2_s_0 := kept hw2 (p := ⟨w.heap.size, 0, none⟩) (v := .int .i64 a) (by first | ((repeat' first | with_reducible assumption | with_reducible refine cellA ?_ | with_reducible refine cellD ?_); done) | (simp [go_sem]; done) | (simp [go_sem, *]; done))
    have k2_s_1 := kept hw2 (p := ⟨w.heap.size, 1, none⟩) (v := .int .i64 b) (by first | ((repeat' first | with_reducible assumption | with_reducible refine cellA ?_ | with_reducible refine cellD ?_); done) | (simp [go_sem]; done) | (simp [go_sem, *]; done))
    have y2_s := World.block_lt_of_cell? _ _ k2_s_0
    simp only [] at y2_s
    have k2_t_0 := kept hw2 (p := ⟨w.heap.size + 1, 0, none⟩) (v := .int .i64 c) (by first | ((repeat' first | with_reducible assumption | with_reducible refine cellA ?_ | with_reducible refine cellD ?_); done) | (simp [go_sem]; done) | (simp [go_sem, *]; done))
    have k2_t_1 := kept hw2 (p := ⟨w.heap.size + 1, 1, none⟩) (v := .int .i64 d) (by first | ((repeat' first | with_reducible assumption | with_reducible refine cellA ?_ | with_reducible refine cellD ?_); done) | (simp [go_sem]; done) | (simp [go_sem, *]; done))
    have y2_t := World.block_lt_of_cell? _ _ k2_t_0
    simp only [] at y2_t
    have k2_m_0 := kept hw2 (p := ⟨w1.heap.size, 0, none⟩) (v := .int .i64 X) (by first | ((repeat' first | with_reducible assumption | with_reducible refine cellA ?_ | with_reducible refine cellD ?_); done) | (simp [go_sem]; done) | (simp [go_sem, *]; done))
    have k2_m_1 := kept hw2 (p := ⟨w1.heap.size, 1, none⟩) (v := .int .i64 Y) (by first | ((repeat' first | with_reducible assumption | with_reducible refine cellA ?_ | with_reducible refine cellD ?_); done) | (simp [go_sem]; done) | (simp [go_sem, *]; done))
    have y2_m := World.block_lt_of_cell? _ _ k2_m_0
    simp only [] at y2_m
    clear k1_s_0 k1_s_1 y1_s k1_t_0 k1_t_1 y1_t
    go_wp2_with fail
    refine (valid_yes _ _ _ H1.out).mono ?_
    rintro e w3 ⟨rfl, hw3⟩
    have k3_s_0 := kept hw3 (p := ⟨w.heap.size, 0, none⟩) (v := .int .i64 a) (by first | ((repeat' first | with_reducible assumption | with_reducible refine cellA ?_ | with_reducible refine cellD ?_); done) | (simp [go_sem]; done) | (simp [go_sem, *]; done))
    have k3_s_1 := kept hw3 (p := ⟨w.heap.size, 1, none⟩) (v := .int .i64 b) (by first | ((repeat' first | with_reducible assumption | with_reducible refine cellA ?_ | with_reducible refine cellD ?_); done) | (simp [go_sem]; done) | (simp [go_sem, *]; done))
    have y3_s := World.block_lt_of_cell? _ _ k3_s_0
    simp only [] at y3_s
    have k3_t_0 := kept hw3 (p := ⟨w.heap.size + 1, 0, none⟩) (v := .int .i64 c) (by first | ((repeat' first | with_reducible assumption | with_reducible refine cellA ?_ | with_reducible refine cellD ?_); done) | (simp [go_sem]; done) | (simp [go_sem, *]; done))
    have k3_t_1 := kept hw3 (p := ⟨w.heap.size + 1, 1, none⟩) (v := .int .i64 d) (by first | ((repeat' first | with_reducible assumption | with_reducible refine cellA ?_ | with_reducible refine cellD ?_); done) | (simp [go_sem]; done) | (simp [go_sem, *]; done))
    have y3_t := World.block_lt_of_cell? _ _ k3_t_0
    simp only [] at y3_t
    have k3_m_0 := kept hw3 (p := ⟨w1.heap.size, 0, none⟩) (v := .int .i64 X) (by first | ((repeat' first | with_reducible assumption | with_reducible refine cellA ?_ | with_reducible refine cellD ?_); done) | (simp [go_sem]; done) | (simp [go_sem, *]; done))
    have k3_m_1 := kept hw3 (p := ⟨w1.heap.size, 1, none⟩) (v := .int .i64 Y) (by first | ((repeat' first | with_reducible assumption | with_reducible refine cellA ?_ | with_reducible refine cellD ?_); done) | (simp [go_sem]; done) | (simp [go_sem, *]; done))
    have y3_m := World.block_lt_of_cell? _ _ k3_m_0
    simp only [] at y3_m
    have k3_h_0 := kept hw3 (p := ⟨w2.heap.size, 0, none⟩) (v := .int .i64 Z) (by first | ((repeat' first | with_reducible assumption | with_reducible refine cellA ?_ | with_reducible refine cellD ?_); done) | (simp [go_sem]; done) | (simp [go_sem, *]; done))
    have k3_h_1 := kept hw3 (p := ⟨w2.heap.size, 1, none⟩) (v := .int .i64 U) (by first | ((repeat' first | with_reducible assumption | with_reducible refine cellA ?_ | with_reducible refine cellD ?_); done) | (simp [go_sem]; done) | (simp [go_sem, *]; done))
    have y3_h := World.block_lt_of_cell? _ _ k3_h_0
    simp only [] at y3_h
    clear k2_s_0 k2_s_1 y2_s k2_t_0 k2_t_1 y2_t k2_m_0 k2_m_1 y2_m
    go_wp2_with fail
    refine (valid_yes _ _ _ H2.out).mono ?_
    rintro e w4 ⟨rfl, hw4⟩
    have k4_s_0 := kept hw4 (p := ⟨w.heap.size, 0, none⟩) (v := .int .i64 a) (by first | ((repeat' first | with_reducible assumption | with_reducible refine cellA ?_ | with_reducible refine cellD ?_); done) | (simp [go_sem]; done) | (simp [go_sem, *]; done))
    have k4_s_1 := kept hw4 (p := ⟨w.heap.size, 1, none⟩) (v := .int .i64 b) (by first | ((repeat' first | with_reducible assumption | with_reducible refine cellA ?_ | with_reducible refine cellD ?_); done) | (simp [go_sem]; done) | (simp [go_sem, *]; done))
    have y4_s := World.block_lt_of_cell? _ _ k4_s_0
    simp only [] at y4_s
    have k4_t_0 := kept hw4 (p := ⟨w.heap.size + 1, 0, none⟩) (v := .int .i64 c) (by first | ((repeat' first | with_reducible assumption | with_reducible refine cellA ?_ | with_reducible refine cellD ?_); done) | (simp [go_sem]; done) | (simp [go_sem, *]; done))
    have k4_t_1 := kept hw4 (p := ⟨w.heap.size + 1, 1, none⟩) (v := .int .i64 d) (by first | ((repeat' first | with_reducible assumption | with_reducible refine cellA ?_ | with_reducible refine cellD ?_); done) | (simp [go_sem]; done) | (simp [go_sem, *]; done))
    have y4_t := World.block_lt_of_cell? _ _ k4_t_0
    simp only [] at y4_t
    have k4_m_0 := kept hw4 (p := ⟨w1.heap.size, 0, none⟩) (v := .int .i64 X) (by first | ((repeat' first | with_reducible assumption | with_reducible refine cellA ?_ | with_reducible refine cellD ?_); done) | (simp [go_sem]; done) | (simp [go_sem, *]; done))
    have k4_m_1 := kept hw4 (p := ⟨w1.heap.size, 1, none⟩) (v := .int .i64 Y) (by first | ((repeat' first | with_reducible assumption | with_reducible refine cellA ?_ | with_reducible refine cellD ?_); done) | (simp [go_sem]; done) | (simp [go_sem, *]; done))
    have y4_m := World.block_lt_of_cell? _ _ k4_m_0
    simp only [] at y4_m
    have k4_h_0 := kept hw4 (p := ⟨w2.heap.size, 0, none⟩) (v := .int .i64 Z) (by first | ((repeat' first | with_reducible assumption | with_reducible refine cellA ?_ | with_reducible refine cellD ?_); done) | (simp [go_sem]; done) | (simp [go_sem, *]; done))
    have k4_h_1 := kept hw4 (p := ⟨w2.heap.size, 1, none⟩) (v := .int .i64 U) (by first | ((repeat' first | with_reducible assumption | with_reducible refine cellA ?_ | with_reducible refine cellD ?_); done) | (simp [go_sem]; done) | (simp [go_sem, *]; done))
    have y4_h := World.block_lt_of_cell? _ _ k4_h_0
    simp only [] at y4_h
    clear k3_s_0 k3_s_1 y3_s k3_t_0 k3_t_1 y3_t k3_m_0 k3_m_1 y3_m k3_h_0 k3_h_1 y3_h
    obtain ⟨k0, k1, k2, k3, k4, k5, k6, k7⟩ := (⟨k4_s_0, k4_s_1, k4_t_0, k4_t_1, k4_m_0, k4_m_1, k4_h_0, k4_h_1⟩ : _ ∧ _ ∧ _ ∧ _ ∧ _ ∧ _ ∧ _ ∧ _)
    clear k4_s_0 k4_s_1 y4_s k4_t_0 k4_t_1 y4_t k4_m_0 k4_m_1 y4_m k4_h_0 k4_h_1 y4_h
    go_wp2_with (first
      | (go_at_call 15; refine (has_any _ _ _ _).mono ?_; rintro e w9 ⟨rfl, hb⟩; obtain ⟨k0, k1, k2, k3, k4, k5, k6, k7⟩ := kept8 hb ⟨k0, k1, k2, k3, k4, k5, k6, k7⟩)
      | (go_at_call 17; refine (awake_any _).mono ?_; rintro e w9 ⟨rfl, hb⟩; obtain ⟨k0, k1, k2, k3, k4, k5, k6, k7⟩ := kept8 hb ⟨k0, k1, k2, k3, k4, k5, k6, k7⟩))
    go_ret
    exact ⟨rfl, by (repeat' first | exact Below.refl _ _ | with_reducible refine Below.drew ?_ | with_reducible refine Below.drewN ?_ _ | with_reducible refine Below.alloc' ?_ _ | with_reducible refine Below.setCell ?_ (by first | exact Nat.le_refl _ | (simp; done) | (simp; omega)) _ | with_reducible refine Below.after ?_ ‹_›)⟩

theorem spanCommon_walk (a b c d x : Int) (w : World) (_h0 : (Lit.int .i64 a).wf = true) (_h1 : (Lit.int .i64 b).wf = true) (_h2 : (Lit.int .i64 c).wf = true) (_h3 : (Lit.int .i64 d).wf = true) (_h4 : (Lit.int .i64 x).wf = true) :
    Calls Try.prog 11 #[.agg #[.int .i64 a, .int .i64 b], .agg #[.int .i64 c, .int .i64 d], .int .i64 x] w fun e w' => e = .returned (.bool true) ∧ Below w.heap.size w w' := by
  cases h1 : vB a b
  · exact spanCommon_no1 a b c d x w h1
  · cases h2 : vB c d
    · exact spanCommon_no2 a b c d x w h1 h2
    · have e0 : (vB a b && vB c d) = true := by rw [h1, h2]; rfl
      have e2 : hullV a b c d = (min a c, max b d, 0) := by unfold hullV; rw [if_pos e0]
      have hz : (min a c == a) = true ∨ ((min a c == a) = false ∧ (min a c == c) = true) := by simp; omega
      have hu : (max b d == b) = true ∨ ((max b d == b) = false ∧ (max b d == d) = true) := by simp; omega
      by_cases hm : min b d < max a c
      · have e1 : meetV a b c d = (0, 0, 10) := by unfold meetV; rw [if_pos e0, if_pos hm]
        exact spanCommon_yes a b c d x w h1 h2 e1 e2 rfl rfl (Or.inr ⟨rfl, has_none a b c d x hm⟩) (has_hull a b c d x h1 h2) hz hu
      · have e1 : meetV a b c d = (max a c, min b d, 0) := by unfold meetV; rw [if_pos e0, if_neg hm]
        exact spanCommon_yes a b c d x w h1 h2 e1 e2 rfl rfl (Or.inl ⟨rfl, has_meet a b c d x h1 h2 hm⟩) (has_hull a b c d x h1 h2) hz hu
end Go.Proofs.Ytnehmkdcifgpnaa
