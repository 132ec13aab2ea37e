/-
  The walk of SpanSound.
-/
import Derived.Test.YtnehmkdcifgpnaaSpanW
namespace Go.Proofs.Ytnehmkdcifgpnaa
open Go.RowKit

theorem has_mk {a b x : Int} (h : vB a b = true) (h1 : a ≤ x) (h2 : x ≤ b) : hasB a b x = true := by
  unfold hasB
  rw [h]
  simp
  omega
theorem has_out {a b x : Int} (h : hasB a b x = true) : vB a b = true ∧ a ≤ x ∧ x ≤ b := by
  unfold hasB at h
  simp at h
  exact ⟨h.1.1, h.1.2, h.2⟩
theorem add_has {a b c d x y X Y e : Int} (h : addV a b c d = (X, Y, e)) (h1 : hasB a b x = true) (h2 : hasB c d y = true) : (e == 0) = false ∨ (e = 0 ∧ hasB X Y (x + y) = true) := by
  have g1 := has_out h1
  have g2 := has_out h2
  have e1 : addV a b c d = chkV (a + c) (b + d) := by simp [addV, g1.1, g2.1]
  rw [e1] at h
  cases hc : vB (a + c) (b + d)
  · simp [chkV, hc] at h
    left
    simp [← h.2.2]
  · simp [chkV, hc] at h
    obtain ⟨rfl, rfl, rfl⟩ := h
    exact Or.inr ⟨rfl, has_mk hc (by omega) (by omega)⟩
theorem sub_has {a b c d x y X Y e : Int} (h : subV a b c d = (X, Y, e)) (h1 : hasB a b x = true) (h2 : hasB c d y = true) : (e == 0) = false ∨ (e = 0 ∧ hasB X Y (x - y) = true) := by
  have g1 := has_out h1
  have g2 := has_out h2
  have e1 : subV a b c d = chkV (a - d) (b - c) := by simp [subV, g1.1, g2.1]
  rw [e1] at h
  cases hc : vB (a - d) (b - c)
  · simp [chkV, hc] at h
    left
    simp [← h.2.2]
  · simp [chkV, hc] at h
    obtain ⟨rfl, rfl, rfl⟩ := h
    exact Or.inr ⟨rfl, has_mk hc (by omega) (by omega)⟩
theorem down_mono {a x n d : Int} (h : a ≤ x) (hn : 0 ≤ n) (hd : 0 < d) : downV a n d ≤ downV x n d := by
  unfold downV
  exact Int.ediv_le_ediv hd (Int.mul_le_mul_of_nonneg_right h hn)
theorem down_le_up (x n d : Int) (hd : 0 < d) : downV x n d ≤ upV x n d := by
  unfold upV downV
  have h1 := Int.mul_ediv_self_le (x := x * n) (k := d) (by omega)
  have h2 := Int.mul_ediv_self_le (x := -x * n) (k := d) (by omega)
  have e : -x * n = -(x * n) := Int.neg_mul x n
  rw [e] at h2 ⊢
  revert h1 h2
  generalize x * n / d = p
  generalize -(x * n) / d = q
  generalize x * n = s
  intro h1 h2
  have h3 : d * (p + q) ≤ 0 := by rw [Int.mul_add]; omega
  have h4 : p + q ≤ 0 := by
    apply Int.not_lt.1
    intro h
    have := Int.mul_pos hd h
    omega
  omega
theorem part_has {a b x n m P Q g : Int} (h : partV a b n m = (P, Q, g)) (h1 : hasB a b x = true) :
    ((g == 0) = false ∧ (g != 0) = true) ∨ (g = 0 ∧ (1 ≤ m ∧ m ≤ 1073741824) ∧ (0 ≤ n ∧ n ≤ m) ∧ (-70368744177664 ≤ x ∧ x ≤ 70368744177664) ∧ hasB P Q (downV x n m) = true ∧ hasB P Q (upV x n m) = true) := by
  have g1 := has_out h1
  have l1 := vB_true.1 g1.1
  cases hp : partB n m
  · simp [partV, hp] at h
    left
    simp [← h.2.2]
  · have e1 : partV a b n m = (downV a n m, upV b n m, 0) := by simp [partV, hp, g1.1]
    rw [e1] at h
    simp at h
    obtain ⟨rfl, rfl, rfl⟩ := h
    have hc : (1 ≤ m ∧ m ≤ 1073741824) ∧ 0 ≤ n ∧ n ≤ m := by
      simp [partB] at hp
      omega
    have hx : -70368744177664 ≤ x ∧ x ≤ 70368744177664 := by omega
    have b1 := down_bd a n m (by omega) hc.1 hc.2
    have b2 := down_bd (-b) n m (by omega) hc.1 hc.2
    have m1 := down_mono (n := n) (d := m) g1.2.1 hc.2.1 (by omega)
    have m2 := down_mono (n := n) (d := m) (show -b ≤ -x by omega) hc.2.1 (by omega)
    have m3 := down_le_up x n m (by omega)
    have m4 : upV x n m ≤ upV b n m := by unfold upV; omega
    have m5 : upV b n m ≤ 70368744177664 := by unfold upV; omega
    have hv : vB (downV a n m) (upV b n m) = true := vB_true.2 (by omega)
    exact Or.inr ⟨rfl, hc.1, hc.2, hx, has_mk hv (by omega) (by omega), has_mk hv (by omega) (by omega)⟩

set_option maxRecDepth 100000 in
set_option maxHeartbeats 8000000 in
theorem sound_1 (a b c d x y n m : Int) (w : World) (h1 : hasB a b x = false) :
    Calls Try.prog 9 #[.agg #[.int .i64 a, .int .i64 b], .agg #[.int .i64 c, .int .i64 d], .agg #[.int .i64 x, .int .i64 y, .int .i64 n, .int .i64 m]] w fun e w' => e = .returned (.bool true) ∧ Below w.heap.size w w' := by
  have H1 := Lib.hid h1
  clear h1
  go_enter Try.func9, Try.ntmps9
  go_wp2_with fail
  go_quiet (fail)
  go_wp2_with fail
  refine (has_is H1.out _).mono ?_
  rintro e w1 ⟨rfl, hw1⟩
  have k1_s_0 := kept hw1 (p := ⟨w.heap.size, 0, none⟩) (v := .int .i64 a) (by first | ((repeat' first | with_reducible assumption | with_reducible refine cellA ?_ | with_reducible refine cellD ?_); done) | (simp [go_sem]; done) | (simp [go_sem, *]; done))
  have k1_s_1 := kept hw1 (p := ⟨w.heap.size, 1, none⟩) (v := .int .i64 b) (by first | ((repeat' first | with_reducible assumption | with_reducible refine cellA ?_ | with_reducible refine cellD ?_); done) | (simp [go_sem]; done) | (simp [go_sem, *]; done))
  have y1_s := World.block_lt_of_cell? _ _ k1_s_0
  simp only [] at y1_s
  have k1_t_0 := kept hw1 (p := ⟨w.heap.size + 1, 0, none⟩) (v := .int .i64 c) (by first | ((repeat' first | with_reducible assumption | with_reducible refine cellA ?_ | with_reducible refine cellD ?_); done) | (simp [go_sem]; done) | (simp [go_sem, *]; done))
  have k1_t_1 := kept hw1 (p := ⟨w.heap.size + 1, 1, none⟩) (v := .int .i64 d) (by first | ((repeat' first | with_reducible assumption | with_reducible refine cellA ?_ | with_reducible refine cellD ?_); done) | (simp [go_sem]; done) | (simp [go_sem, *]; done))
  have y1_t := World.block_lt_of_cell? _ _ k1_t_0
  simp only [] at y1_t
  have k1_n_0 := kept hw1 (p := ⟨w.heap.size + 1 + 1, 0, none⟩) (v := .int .i64 x) (by first | ((repeat' first | with_reducible assumption | with_reducible refine cellA ?_ | with_reducible refine cellD ?_); done) | (simp [go_sem]; done) | (simp [go_sem, *]; done))
  have k1_n_1 := kept hw1 (p := ⟨w.heap.size + 1 + 1, 1, none⟩) (v := .int .i64 y) (by first | ((repeat' first | with_reducible assumption | with_reducible refine cellA ?_ | with_reducible refine cellD ?_); done) | (simp [go_sem]; done) | (simp [go_sem, *]; done))
  have k1_n_2 := kept hw1 (p := ⟨w.heap.size + 1 + 1, 2, none⟩) (v := .int .i64 n) (by first | ((repeat' first | with_reducible assumption | with_reducible refine cellA ?_ | with_reducible refine cellD ?_); done) | (simp [go_sem]; done) | (simp [go_sem, *]; done))
  have k1_n_3 := kept hw1 (p := ⟨w.heap.size + 1 + 1, 3, none⟩) (v := .int .i64 m) (by first | ((repeat' first | with_reducible assumption | with_reducible refine cellA ?_ | with_reducible refine cellD ?_); done) | (simp [go_sem]; done) | (simp [go_sem, *]; done))
  have y1_n := World.block_lt_of_cell? _ _ k1_n_0
  simp only [] at y1_n
  go_wp2_with fail
  refine (awake_any _).mono ?_
  rintro e w2 ⟨rfl, hw2⟩
  go_wp2
  go_ret
  exact ⟨rfl, by (repeat' first | exact Below.refl _ _ | with_reducible refine Below.drew ?_ | with_reducible refine Below.drewN ?_ _ | with_reducible refine Below.alloc' ?_ _ | with_reducible refine Below.setCell ?_ (by first | exact Nat.le_refl _ | (simp; done) | (simp; omega)) _ | with_reducible refine Below.after ?_ ‹_›)⟩

set_option maxRecDepth 100000 in
set_option maxHeartbeats 8000000 in
theorem sound_2 (a b c d x y n m : Int) (w : World) (h1 : hasB a b x = true) (h2 : hasB c d y = false) :
    Calls Try.prog 9 #[.agg #[.int .i64 a, .int .i64 b], .agg #[.int .i64 c, .int .i64 d], .agg #[.int .i64 x, .int .i64 y, .int .i64 n, .int .i64 m]] w fun e w' => e = .returned (.bool true) ∧ Below w.heap.size w w' := by
  have H1 := Lib.hid h1
  have H2 := Lib.hid h2
  clear h1 h2
  go_enter Try.func9, Try.ntmps9
  go_wp2_with fail
  go_quiet (fail)
  go_wp2_with fail
  refine (has_is H1.out _).mono ?_
  rintro e w1 ⟨rfl, hw1⟩
  have k1_s_0 := kept hw1 (p := ⟨w.heap.size, 0, none⟩) (v := .int .i64 a) (by first | ((repeat' first | with_reducible assumption | with_reducible refine cellA ?_ | with_reducible refine cellD ?_); done) | (simp [go_sem]; done) | (simp [go_sem, *]; done))
  have k1_s_1 := kept hw1 (p := ⟨w.heap.size, 1, none⟩) (v := .int .i64 b) (by first | ((repeat' first | with_reducible assumption | with_reducible refine cellA ?_ | with_reducible refine cellD ?_); done) | (simp [go_sem]; done) | (simp [go_sem, *]; done))
  have y1_s := World.block_lt_of_cell? _ _ k1_s_0
  simp only [] at y1_s
  have k1_t_0 := kept hw1 (p := ⟨w.heap.size + 1, 0, none⟩) (v := .int .i64 c) (by first | ((repeat' first | with_reducible assumption | with_reducible refine cellA ?_ | with_reducible refine cellD ?_); done) | (simp [go_sem]; done) | (simp [go_sem, *]; done))
  have k1_t_1 := kept hw1 (p := ⟨w.heap.size + 1, 1, none⟩) (v := .int .i64 d) (by first | ((repeat' first | with_reducible assumption | with_reducible refine cellA ?_ | with_reducible refine cellD ?_); done) | (simp [go_sem]; done) | (simp [go_sem, *]; done))
  have y1_t := World.block_lt_of_cell? _ _ k1_t_0
  simp only [] at y1_t
  have k1_n_0 := kept hw1 (p := ⟨w.heap.size + 1 + 1, 0, none⟩) (v := .int .i64 x) (by first | ((repeat' first | with_reducible assumption | with_reducible refine cellA ?_ | with_reducible refine cellD ?_); done) | (simp [go_sem]; done) | (simp [go_sem, *]; done))
  have k1_n_1 := kept hw1 (p := ⟨w.heap.size + 1 + 1, 1, none⟩) (v := .int .i64 y) (by first | ((repeat' first | with_reducible assumption | with_reducible refine cellA ?_ | with_reducible refine cellD ?_); done) | (simp [go_sem]; done) | (simp [go_sem, *]; done))
  have k1_n_2 := kept hw1 (p := ⟨w.heap.size + 1 + 1, 2, none⟩) (v := .int .i64 n) (by first | ((repeat' first | with_reducible assumption | with_reducible refine cellA ?_ | with_reducible refine cellD ?_); done) | (simp [go_sem]; done) | (simp [go_sem, *]; done))
  have k1_n_3 := kept hw1 (p := ⟨w.heap.size + 1 + 1, 3, none⟩) (v := .int .i64 m) (by first | ((repeat' first | with_reducible assumption | with_reducible refine cellA ?_ | with_reducible refine cellD ?_); done) | (simp [go_sem]; done) | (simp [go_sem, *]; done))
  have y1_n := World.block_lt_of_cell? _ _ k1_n_0
  simp only [] at y1_n
  go_wp2_with fail
  refine (has_is H2.out _).mono ?_
  rintro e w2 ⟨rfl, hw2⟩
  have k2_s_0 := kept hw2 k1_s_0
  have k2_s_1 := kept hw2 k1_s_1
  have y2_s := World.block_lt_of_cell? _ _ k2_s_0
  simp only [] at y2_s
  have k2_t_0 := kept hw2 k1_t_0
  have k2_t_1 := kept hw2 k1_t_1
  have y2_t := World.block_lt_of_cell? _ _ k2_t_0
  simp only [] at y2_t
  have k2_n_0 := kept hw2 k1_n_0
  have k2_n_1 := kept hw2 k1_n_1
  have k2_n_2 := kept hw2 k1_n_2
  have k2_n_3 := kept hw2 k1_n_3
  have y2_n := World.block_lt_of_cell? _ _ k2_n_0
  simp only [] at y2_n
  clear k1_s_0 k1_s_1 y1_s k1_t_0 k1_t_1 y1_t k1_n_0 k1_n_1 k1_n_2 k1_n_3 y1_n
  go_wp2_with fail
  refine (awake_any _).mono ?_
  rintro e w3 ⟨rfl, hw3⟩
  go_wp2
  go_ret
  exact ⟨rfl, by (repeat' first | exact Below.refl _ _ | with_reducible refine Below.drew ?_ | with_reducible refine Below.drewN ?_ _ | with_reducible refine Below.alloc' ?_ _ | with_reducible refine Below.setCell ?_ (by first | exact Nat.le_refl _ | (simp; done) | (simp; omega)) _ | with_reducible refine Below.after ?_ ‹_›)⟩

set_option maxRecDepth 100000 in
set_option maxHeartbeats 8000000 in
theorem sound_000 (a b c d x y n m : Int) (w : World) {X Y e Z U f P Q g : Int} (h1 : hasB a b x = true) (h2 : hasB c d y = true) (e1 : addV a b c d = (X, Y, e)) (e2 : subV a b c d = (Z, U, f)) (e3 : partV a b n m = (P, Q, g))
    (hA : (e == 0) = false) (hS : (f == 0) = false)
    (_hP : (g == 0) = false) (hP1 : (g != 0) = true) :
    Calls Try.prog 9 #[.agg #[.int .i64 a, .int .i64 b], .agg #[.int .i64 c, .int .i64 d], .agg #[.int .i64 x, .int .i64 y, .int .i64 n, .int .i64 m]] w fun e w' => e = .returned (.bool true) ∧ Below w.heap.size w w' := by
  have b1 : -70368744177664 ≤ x ∧ x ≤ 70368744177664 := by have := has_out h1; have := vB_true.1 this.1; omega
  have b2 : -70368744177664 ≤ y ∧ y ≤ 70368744177664 := by have := has_out h2; have := vB_true.1 this.1; omega
  have H1 := Lib.hid h1
  have H2 := Lib.hid h2
  have E1 := Lib.hid e1
  have E2 := Lib.hid e2
  have E3 := Lib.hid e3
  clear h1 h2 e1 e2 e3
  go_enter Try.func9, Try.ntmps9
  go_wp2_with fail
  go_quiet (fail)
  go_wp2_with fail
  refine (has_is H1.out _).mono ?_
  rintro e w1 ⟨rfl, hw1⟩
  have k1_s_0 := kept hw1 (p := ⟨w.heap.size, 0, none⟩) (v := .int .i64 a) (by first | ((repeat' first | with_reducible assumption | with_reducible refine cellA ?_ | with_reducible refine cellD ?_); done) | (simp [go_sem]; done) | (simp [go_sem, *]; done))
  have k1_s_1 := kept hw1 (p := ⟨w.heap.size, 1, none⟩) (v := .int .i64 b) (by first | ((repeat' first | with_reducible assumption | with_reducible refine cellA ?_ | with_reducible refine cellD ?_); done) | (simp [go_sem]; done) | (simp [go_sem, *]; done))
  have y1_s := World.block_lt_of_cell? _ _ k1_s_0
  simp only [] at y1_s
  have k1_t_0 := kept hw1 (p := ⟨w.heap.size + 1, 0, none⟩) (v := .int .i64 c) (by first | ((repeat' first | with_reducible assumption | with_reducible refine cellA ?_ | with_reducible refine cellD ?_); done) | (simp [go_sem]; done) | (simp [go_sem, *]; done))
  have k1_t_1 := kept hw1 (p := ⟨w.heap.size + 1, 1, none⟩) (v := .int .i64 d) (by first | ((repeat' first | with_reducible assumption | with_reducible refine cellA ?_ | with_reducible refine cellD ?_); done) | (simp [go_sem]; done) | (simp [go_sem, *]; done))
  have y1_t := World.block_lt_of_cell? _ _ k1_t_0
  simp only [] at y1_t
  have k1_n_0 := kept hw1 (p := ⟨w.heap.size + 1 + 1, 0, none⟩) (v := .int .i64 x) (by first | ((repeat' first | with_reducible assumption | with_reducible refine cellA ?_ | with_reducible refine cellD ?_); done) | (simp [go_sem]; done) | (simp [go_sem, *]; done))
  have k1_n_1 := kept hw1 (p := ⟨w.heap.size + 1 + 1, 1, none⟩) (v := .int .i64 y) (by first | ((repeat' first | with_reducible assumption | with_reducible refine cellA ?_ | with_reducible refine cellD ?_); done) | (simp [go_sem]; done) | (simp [go_sem, *]; done))
  have k1_n_2 := kept hw1 (p := ⟨w.heap.size + 1 + 1, 2, none⟩) (v := .int .i64 n) (by first | ((repeat' first | with_reducible assumption | with_reducible refine cellA ?_ | with_reducible refine cellD ?_); done) | (simp [go_sem]; done) | (simp [go_sem, *]; done))
  have k1_n_3 := kept hw1 (p := ⟨w.heap.size + 1 + 1, 3, none⟩) (v := .int .i64 m) (by first | ((repeat' first | with_reducible assumption | with_reducible refine cellA ?_ | with_reducible refine cellD ?_); done) | (simp [go_sem]; done) | (simp [go_sem, *]; done))
  have y1_n := World.block_lt_of_cell? _ _ k1_n_0
  simp only [] at y1_n
  go_wp2_with fail
  refine (has_is H2.out _).mono ?_
  rintro e w2 ⟨rfl, hw2⟩
  have k2_s_0 := kept hw2 k1_s_0
  have k2_s_1 := kept hw2 k1_s_1
  have y2_s := World.block_lt_of_cell? _ _ k2_s_0
  simp only [] at y2_s
  have k2_t_0 := kept hw2 k1_t_0
  have k2_t_1 := kept hw2 k1_t_1
  have y2_t := World.block_lt_of_cell? _ _ k2_t_0
  simp only [] at y2_t
  have k2_n_0 := kept hw2 k1_n_0
  have k2_n_1 := kept hw2 k1_n_1
  have k2_n_2 := kept hw2 k1_n_2
  have k2_n_3 := kept hw2 k1_n_3
  have y2_n := World.block_lt_of_cell? _ _ k2_n_0
  simp only [] at y2_n
  clear k1_s_0 k1_s_1 y1_s k1_t_0 k1_t_1 y1_t k1_n_0 k1_n_1 k1_n_2 k1_n_3 y1_n
  go_wp2_with fail
  refine (add_is E1.out _).mono ?_
  rintro e w3 ⟨rfl, hw3⟩
  have k3_s_0 := kept hw3 k2_s_0
  have k3_s_1 := kept hw3 k2_s_1
  have y3_s := World.block_lt_of_cell? _ _ k3_s_0
  simp only [] at y3_s
  have k3_t_0 := kept hw3 k2_t_0
  have k3_t_1 := kept hw3 k2_t_1
  have y3_t := World.block_lt_of_cell? _ _ k3_t_0
  simp only [] at y3_t
  have k3_n_0 := kept hw3 k2_n_0
  have k3_n_1 := kept hw3 k2_n_1
  have k3_n_2 := kept hw3 k2_n_2
  have k3_n_3 := kept hw3 k2_n_3
  have y3_n := World.block_lt_of_cell? _ _ k3_n_0
  simp only [] at y3_n
  clear k2_s_0 k2_s_1 y2_s k2_t_0 k2_t_1 y2_t k2_n_0 k2_n_1 k2_n_2 k2_n_3 y2_n
  go_wp2_with fail
  refine (sub_is E2.out _).mono ?_
  rintro e w4 ⟨rfl, hw4⟩
  have k4_s_0 := kept hw4 (cellA k3_s_0)
  have k4_s_1 := kept hw4 (cellA k3_s_1)
  have y4_s := World.block_lt_of_cell? _ _ k4_s_0
  simp only [] at y4_s
  have k4_t_0 := kept hw4 (cellA k3_t_0)
  have k4_t_1 := kept hw4 (cellA k3_t_1)
  have y4_t := World.block_lt_of_cell? _ _ k4_t_0
  simp only [] at y4_t
  have k4_n_0 := kept hw4 (cellA k3_n_0)
  have k4_n_1 := kept hw4 (cellA k3_n_1)
  have k4_n_2 := kept hw4 (cellA k3_n_2)
  have k4_n_3 := kept hw4 (cellA k3_n_3)
  have y4_n := World.block_lt_of_cell? _ _ k4_n_0
  simp only [] at y4_n
  have k4_p_0 := kept hw4 (p := ⟨w3.heap.size, 0, none⟩) (v := .int .i64 X) (by first | ((repeat' first | with_reducible assumption | with_reducible refine cellA ?_ | with_reducible refine cellD ?_); done) | (simp [go_sem]; done) | (simp [go_sem, *]; done))
  have k4_p_1 := kept hw4 (p := ⟨w3.heap.size, 1, none⟩) (v := .int .i64 Y) (by first | ((repeat' first | with_reducible assumption | with_reducible refine cellA ?_ | with_reducible refine cellD ?_); done) | (simp [go_sem]; done) | (simp [go_sem, *]; done))
  have y4_p := World.block_lt_of_cell? _ _ k4_p_0
  simp only [] at y4_p
  clear k3_s_0 k3_s_1 y3_s k3_t_0 k3_t_1 y3_t k3_n_0 k3_n_1 k3_n_2 k3_n_3 y3_n
  go_wp2_with fail
  refine (part_is E3.out _).mono ?_
  rintro e w7 ⟨rfl, hw7⟩
  have k5_s_0 := kept hw7 (cellA k4_s_0)
  have k5_s_1 := kept hw7 (cellA k4_s_1)
  have y5_s := World.block_lt_of_cell? _ _ k5_s_0
  simp only [] at y5_s
  have k5_n_0 := kept hw7 (cellA k4_n_0)
  have k5_n_1 := kept hw7 (cellA k4_n_1)
  have k5_n_2 := kept hw7 (cellA k4_n_2)
  have k5_n_3 := kept hw7 (cellA k4_n_3)
  have y5_n := World.block_lt_of_cell? _ _ k5_n_0
  simp only [] at y5_n
  clear k4_s_0 k4_s_1 y4_s k4_t_0 k4_t_1 y4_t k4_n_0 k4_n_1 k4_n_2 k4_n_3 y4_n k4_p_0 k4_p_1 y4_p
  go_wp2_with fail
  refine (awake_any _).mono ?_
  rintro e w8 ⟨rfl, hw8⟩
  go_wp2
  go_ret
  exact ⟨rfl, by (repeat' first | exact Below.refl _ _ | with_reducible refine Below.drew ?_ | with_reducible refine Below.drewN ?_ _ | with_reducible refine Below.alloc' ?_ _ | with_reducible refine Below.setCell ?_ (by first | exact Nat.le_refl _ | (simp; done) | (simp; omega)) _ | with_reducible refine Below.after ?_ ‹_›)⟩

set_option maxRecDepth 100000 in
set_option maxHeartbeats 8000000 in
theorem sound_001 (a b c d x y n m : Int) (w : World) {X Y e Z U f P Q g : Int} (h1 : hasB a b x = true) (h2 : hasB c d y = true) (e1 : addV a b c d = (X, Y, e)) (e2 : subV a b c d = (Z, U, f)) (e3 : partV a b n m = (P, Q, g))
    (hA : (e == 0) = false) (hS : (f == 0) = false)
    (hP : g = 0) (hm : 1 ≤ m ∧ m ≤ 1073741824) (hn : 0 ≤ n ∧ n ≤ m) (hx : -70368744177664 ≤ x ∧ x ≤ 70368744177664) (hP1 : hasB P Q (downV x n m) = true) (hP2 : hasB P Q (upV x n m) = true) :
    Calls Try.prog 9 #[.agg #[.int .i64 a, .int .i64 b], .agg #[.int .i64 c, .int .i64 d], .agg #[.int .i64 x, .int .i64 y, .int .i64 n, .int .i64 m]] w fun e w' => e = .returned (.bool true) ∧ Below w.heap.size w w' := by
  have b1 : -70368744177664 ≤ x ∧ x ≤ 70368744177664 := by have := has_out h1; have := vB_true.1 this.1; omega
  have b2 : -70368744177664 ≤ y ∧ y ≤ 70368744177664 := by have := has_out h2; have := vB_true.1 this.1; omega
  have H1 := Lib.hid h1
  have H2 := Lib.hid h2
  have E1 := Lib.hid e1
  have E2 := Lib.hid e2
  have E3 := Lib.hid e3
  clear h1 h2 e1 e2 e3
  subst hP
  have HP1 := Lib.hid hP1
  have HP2 := Lib.hid hP2
  clear hP1 hP2
  go_enter Try.func9, Try.ntmps9
  go_wp2_with fail
  go_quiet (fail)
  go_wp2_with fail
  refine (has_is H1.out _).mono ?_
  rintro e w1 ⟨rfl, hw1⟩
  have k1_s_0 := kept hw1 (p := ⟨w.heap.size, 0, none⟩) (v := .int .i64 a) (by first | ((repeat' first | with_reducible assumption | with_reducible refine cellA ?_ | with_reducible refine cellD ?_); done) | (simp [go_sem]; done) | (simp [go_sem, *]; done))
  have k1_s_1 := kept hw1 (p := ⟨w.heap.size, 1, none⟩) (v := .int .i64 b) (by first | ((repeat' first | with_reducible assumption | with_reducible refine cellA ?_ | with_reducible refine cellD ?_); done) | (simp [go_sem]; done) | (simp [go_sem, *]; done))
  have y1_s := World.block_lt_of_cell? _ _ k1_s_0
  simp only [] at y1_s
  have k1_t_0 := kept hw1 (p := ⟨w.heap.size + 1, 0, none⟩) (v := .int .i64 c) (by first | ((repeat' first | with_reducible assumption | with_reducible refine cellA ?_ | with_reducible refine cellD ?_); done) | (simp [go_sem]; done) | (simp [go_sem, *]; done))
  have k1_t_1 := kept hw1 (p := ⟨w.heap.size + 1, 1, none⟩) (v := .int .i64 d) (by first | ((repeat' first | with_reducible assumption | with_reducible refine cellA ?_ | with_reducible refine cellD ?_); done) | (simp [go_sem]; done) | (simp [go_sem, *]; done))
  have y1_t := World.block_lt_of_cell? _ _ k1_t_0
  simp only [] at y1_t
  have k1_n_0 := kept hw1 (p := ⟨w.heap.size + 1 + 1, 0, none⟩) (v := .int .i64 x) (by first | ((repeat' first | with_reducible assumption | with_reducible refine cellA ?_ | with_reducible refine cellD ?_); done) | (simp [go_sem]; done) | (simp [go_sem, *]; done))
  have k1_n_1 := kept hw1 (p := ⟨w.heap.size + 1 + 1, 1, none⟩) (v := .int .i64 y) (by first | ((repeat' first | with_reducible assumption | with_reducible refine cellA ?_ | with_reducible refine cellD ?_); done) | (simp [go_sem]; done) | (simp [go_sem, *]; done))
  have k1_n_2 := kept hw1 (p := ⟨w.heap.size + 1 + 1, 2, none⟩) (v := .int .i64 n) (by first | ((repeat' first | with_reducible assumption | with_reducible refine cellA ?_ | with_reducible refine cellD ?_); done) | (simp [go_sem]; done) | (simp [go_sem, *]; done))
  have k1_n_3 := kept hw1 (p := ⟨w.heap.size + 1 + 1, 3, none⟩) (v := .int .i64 m) (by first | ((repeat' first | with_reducible assumption | with_reducible refine cellA ?_ | with_reducible refine cellD ?_); done) | (simp [go_sem]; done) | (simp [go_sem, *]; done))
  have y1_n := World.block_lt_of_cell? _ _ k1_n_0
  simp only [] at y1_n
  go_wp2_with fail
  refine (has_is H2.out _).mono ?_
  rintro e w2 ⟨rfl, hw2⟩
  have k2_s_0 := kept hw2 k1_s_0
  have k2_s_1 := kept hw2 k1_s_1
  have y2_s := World.block_lt_of_cell? _ _ k2_s_0
  simp only [] at y2_s
  have k2_t_0 := kept hw2 k1_t_0
  have k2_t_1 := kept hw2 k1_t_1
  have y2_t := World.block_lt_of_cell? _ _ k2_t_0
  simp only [] at y2_t
  have k2_n_0 := kept hw2 k1_n_0
  have k2_n_1 := kept hw2 k1_n_1
  have k2_n_2 := kept hw2 k1_n_2
  have k2_n_3 := kept hw2 k1_n_3
  have y2_n := World.block_lt_of_cell? _ _ k2_n_0
  simp only [] at y2_n
  clear k1_s_0 k1_s_1 y1_s k1_t_0 k1_t_1 y1_t k1_n_0 k1_n_1 k1_n_2 k1_n_3 y1_n
  go_wp2_with fail
  refine (add_is E1.out _).mono ?_
  rintro e w3 ⟨rfl, hw3⟩
  have k3_s_0 := kept hw3 k2_s_0
  have k3_s_1 := kept hw3 k2_s_1
  have y3_s := World.block_lt_of_cell? _ _ k3_s_0
  simp only [] at y3_s
  have k3_t_0 := kept hw3 k2_t_0
  have k3_t_1 := kept hw3 k2_t_1
  have y3_t := World.block_lt_of_cell? _ _ k3_t_0
  simp only [] at y3_t
  have k3_n_0 := kept hw3 k2_n_0
  have k3_n_1 := kept hw3 k2_n_1
  have k3_n_2 := kept hw3 k2_n_2
  have k3_n_3 := kept hw3 k2_n_3
  have y3_n := World.block_lt_of_cell? _ _ k3_n_0
  simp only [] at y3_n
  clear k2_s_0 k2_s_1 y2_s k2_t_0 k2_t_1 y2_t k2_n_0 k2_n_1 k2_n_2 k2_n_3 y2_n
  go_wp2_with fail
  refine (sub_is E2.out _).mono ?_
  rintro e w4 ⟨rfl, hw4⟩
  have k4_s_0 := kept hw4 (cellA k3_s_0)
  have k4_s_1 := kept hw4 (cellA k3_s_1)
  have y4_s := World.block_lt_of_cell? _ _ k4_s_0
  simp only [] at y4_s
  have k4_t_0 := kept hw4 (cellA k3_t_0)
  have k4_t_1 := kept hw4 (cellA k3_t_1)
  have y4_t := World.block_lt_of_cell? _ _ k4_t_0
  simp only [] at y4_t
  have k4_n_0 := kept hw4 (cellA k3_n_0)
  have k4_n_1 := kept hw4 (cellA k3_n_1)
  have k4_n_2 := kept hw4 (cellA k3_n_2)
  have k4_n_3 := kept hw4 (cellA k3_n_3)
  have y4_n := World.block_lt_of_cell? _ _ k4_n_0
  simp only [] at y4_n
  have k4_p_0 := kept hw4 (p := ⟨w3.heap.size, 0, none⟩) (v := .int .i64 X) (by first | ((repeat' first | with_reducible assumption | with_reducible refine cellA ?_ | with_reducible refine cellD ?_); done) | (simp [go_sem]; done) | (simp [go_sem, *]; done))
  have k4_p_1 := kept hw4 (p := ⟨w3.heap.size, 1, none⟩) (v := .int .i64 Y) (by first | ((repeat' first | with_reducible assumption | with_reducible refine cellA ?_ | with_reducible refine cellD ?_); done) | (simp [go_sem]; done) | (simp [go_sem, *]; done))
  have y4_p := World.block_lt_of_cell? _ _ k4_p_0
  simp only [] at y4_p
  clear k3_s_0 k3_s_1 y3_s k3_t_0 k3_t_1 y3_t k3_n_0 k3_n_1 k3_n_2 k3_n_3 y3_n
  go_wp2_with fail
  refine (part_is E3.out _).mono ?_
  rintro e w7 ⟨rfl, hw7⟩
  have k5_s_0 := kept hw7 (cellA k4_s_0)
  have k5_s_1 := kept hw7 (cellA k4_s_1)
  have y5_s := World.block_lt_of_cell? _ _ k5_s_0
  simp only [] at y5_s
  have k5_n_0 := kept hw7 (cellA k4_n_0)
  have k5_n_1 := kept hw7 (cellA k4_n_1)
  have k5_n_2 := kept hw7 (cellA k4_n_2)
  have k5_n_3 := kept hw7 (cellA k4_n_3)
  have y5_n := World.block_lt_of_cell? _ _ k5_n_0
  simp only [] at y5_n
  clear k4_s_0 k4_s_1 y4_s k4_t_0 k4_t_1 y4_t k4_n_0 k4_n_1 k4_n_2 k4_n_3 y4_n k4_p_0 k4_p_1 y4_p
  go_wp2_with fail
  go_region_held3 (fun w' => w'.cell? ⟨w7.heap.size, 0, none⟩ = some (.int .i64 P) ∧ w'.cell? ⟨w7.heap.size, 1, none⟩ = some (.int .i64 Q) ∧ w'.cell? ⟨w.heap.size + 1 + 1, 2, none⟩ = some (.int .i64 n) ∧ w'.cell? ⟨w.heap.size + 1 + 1, 3, none⟩ = some (.int .i64 m))
    (first | (go_split_ands; refine ⟨?_, ?_, ?_, ?_⟩ <;> (refine kept ‹Below _ _ _› ?_; assumption)) | (go_split_ands; exact ⟨‹_›, ‹_›, ‹_›, ‹_›⟩) | go_keep)
    (first
      | (go_at_call 32; refine (rDown_any _ _ _ _ hx hm hn).mono ?_; rintro e w9 ⟨rfl, rfl⟩)
      | (go_at_call 33; refine (rUp_any _ _ _ _ hx hm hn).mono ?_; rintro e w9 ⟨rfl, rfl⟩)
      | (go_at_call_of 15 (Value.int IntKind.i64 (downV x n m)); refine (has_is HP1.out _).mono ?_; rintro e w10 ⟨rfl, hb10⟩)
      | (go_at_call_of 15 (Value.int IntKind.i64 (upV x n m)); refine (has_is HP2.out _).mono ?_; rintro e w11 ⟨rfl, hb11⟩)
      | (go_at_call 17; refine (awake_any _).mono ?_; rintro e w12 ⟨rfl, hb12⟩))
  all_goals
    go_wp2
    go_ret
    exact ⟨rfl, by (repeat' first | exact Below.refl _ _ | with_reducible refine Below.drew ?_ | with_reducible refine Below.drewN ?_ _ | with_reducible refine Below.alloc' ?_ _ | with_reducible refine Below.setCell ?_ (by first | exact Nat.le_refl _ | (simp; done) | (simp; omega)) _ | with_reducible refine Below.after ?_ ‹_›)⟩

set_option maxRecDepth 100000 in
set_option maxHeartbeats 8000000 in
theorem sound_010 (a b c d x y n m : Int) (w : World) {X Y e Z U f P Q g : Int} (h1 : hasB a b x = true) (h2 : hasB c d y = true) (e1 : addV a b c d = (X, Y, e)) (e2 : subV a b c d = (Z, U, f)) (e3 : partV a b n m = (P, Q, g))
    (hA : (e == 0) = false) (hS : f = 0) (hS1 : hasB Z U (x - y) = true)
    (_hP : (g == 0) = false) (hP1 : (g != 0) = true) :
    Calls Try.prog 9 #[.agg #[.int .i64 a, .int .i64 b], .agg #[.int .i64 c, .int .i64 d], .agg #[.int .i64 x, .int .i64 y, .int .i64 n, .int .i64 m]] w fun e w' => e = .returned (.bool true) ∧ Below w.heap.size w w' := by
  have b1 : -70368744177664 ≤ x ∧ x ≤ 70368744177664 := by have := has_out h1; have := vB_true.1 this.1; omega
  have b2 : -70368744177664 ≤ y ∧ y ≤ 70368744177664 := by have := has_out h2; have := vB_true.1 this.1; omega
  have H1 := Lib.hid h1
  have H2 := Lib.hid h2
  have E1 := Lib.hid e1
  have E2 := Lib.hid e2
  have E3 := Lib.hid e3
  clear h1 h2 e1 e2 e3
  subst hS
  have HS := Lib.hid hS1
  clear hS1
  go_enter Try.func9, Try.ntmps9
  go_wp2_with fail
  go_quiet (fail)
  go_wp2_with fail
  refine (has_is H1.out _).mono ?_
  rintro e w1 ⟨rfl, hw1⟩
  have k1_s_0 := kept hw1 (p := ⟨w.heap.size, 0, none⟩) (v := .int .i64 a) (by first | ((repeat' first | with_reducible assumption | with_reducible refine cellA ?_ | with_reducible refine cellD ?_); done) | (simp [go_sem]; done) | (simp [go_sem, *]; done))
  have k1_s_1 := kept hw1 (p := ⟨w.heap.size, 1, none⟩) (v := .int .i64 b) (by first | ((repeat' first | with_reducible assumption | with_reducible refine cellA ?_ | with_reducible refine cellD ?_); done) | (simp [go_sem]; done) | (simp [go_sem, *]; done))
  have y1_s := World.block_lt_of_cell? _ _ k1_s_0
  simp only [] at y1_s
  have k1_t_0 := kept hw1 (p := ⟨w.heap.size + 1, 0, none⟩) (v := .int .i64 c) (by first | ((repeat' first | with_reducible assumption | with_reducible refine cellA ?_ | with_reducible refine cellD ?_); done) | (simp [go_sem]; done) | (simp [go_sem, *]; done))
  have k1_t_1 := kept hw1 (p := ⟨w.heap.size + 1, 1, none⟩) (v := .int .i64 d) (by first | ((repeat' first | with_reducible assumption | with_reducible refine cellA ?_ | with_reducible refine cellD ?_); done) | (simp [go_sem]; done) | (simp [go_sem, *]; done))
  have y1_t := World.block_lt_of_cell? _ _ k1_t_0
  simp only [] at y1_t
  have k1_n_0 := kept hw1 (p := ⟨w.heap.size + 1 + 1, 0, none⟩) (v := .int .i64 x) (by first | ((repeat' first | with_reducible assumption | with_reducible refine cellA ?_ | with_reducible refine cellD ?_); done) | (simp [go_sem]; done) | (simp [go_sem, *]; done))
  have k1_n_1 := kept hw1 (p := ⟨w.heap.size + 1 + 1, 1, none⟩) (v := .int .i64 y) (by first | ((repeat' first | with_reducible assumption | with_reducible refine cellA ?_ | with_reducible refine cellD ?_); done) | (simp [go_sem]; done) | (simp [go_sem, *]; done))
  have k1_n_2 := kept hw1 (p := ⟨w.heap.size + 1 + 1, 2, none⟩) (v := .int .i64 n) (by first | ((repeat' first | with_reducible assumption | with_reducible refine cellA ?_ | with_reducible refine cellD ?_); done) | (simp [go_sem]; done) | (simp [go_sem, *]; done))
  have k1_n_3 := kept hw1 (p := ⟨w.heap.size + 1 + 1, 3, none⟩) (v := .int .i64 m) (by first | ((repeat' first | with_reducible assumption | with_reducible refine cellA ?_ | with_reducible refine cellD ?_); done) | (simp [go_sem]; done) | (simp [go_sem, *]; done))
  have y1_n := World.block_lt_of_cell? _ _ k1_n_0
  simp only [] at y1_n
  go_wp2_with fail
  refine (has_is H2.out _).mono ?_
  rintro e w2 ⟨rfl, hw2⟩
  have k2_s_0 := kept hw2 k1_s_0
  have k2_s_1 := kept hw2 k1_s_1
  have y2_s := World.block_lt_of_cell? _ _ k2_s_0
  simp only [] at y2_s
  have k2_t_0 := kept hw2 k1_t_0
  have k2_t_1 := kept hw2 k1_t_1
  have y2_t := World.block_lt_of_cell? _ _ k2_t_0
  simp only [] at y2_t
  have k2_n_0 := kept hw2 k1_n_0
  have k2_n_1 := kept hw2 k1_n_1
  have k2_n_2 := kept hw2 k1_n_2
  have k2_n_3 := kept hw2 k1_n_3
  have y2_n := World.block_lt_of_cell? _ _ k2_n_0
  simp only [] at y2_n
  clear k1_s_0 k1_s_1 y1_s k1_t_0 k1_t_1 y1_t k1_n_0 k1_n_1 k1_n_2 k1_n_3 y1_n
  go_wp2_with fail
  refine (add_is E1.out _).mono ?_
  rintro e w3 ⟨rfl, hw3⟩
  have k3_s_0 := kept hw3 k2_s_0
  have k3_s_1 := kept hw3 k2_s_1
  have y3_s := World.block_lt_of_cell? _ _ k3_s_0
  simp only [] at y3_s
  have k3_t_0 := kept hw3 k2_t_0
  have k3_t_1 := kept hw3 k2_t_1
  have y3_t := World.block_lt_of_cell? _ _ k3_t_0
  simp only [] at y3_t
  have k3_n_0 := kept hw3 k2_n_0
  have k3_n_1 := kept hw3 k2_n_1
  have k3_n_2 := kept hw3 k2_n_2
  have k3_n_3 := kept hw3 k2_n_3
  have y3_n := World.block_lt_of_cell? _ _ k3_n_0
  simp only [] at y3_n
  clear k2_s_0 k2_s_1 y2_s k2_t_0 k2_t_1 y2_t k2_n_0 k2_n_1 k2_n_2 k2_n_3 y2_n
  go_wp2_with fail
  refine (sub_is E2.out _).mono ?_
  rintro e w4 ⟨rfl, hw4⟩
  have k4_s_0 := kept hw4 (cellA k3_s_0)
  have k4_s_1 := kept hw4 (cellA k3_s_1)
  have y4_s := World.block_lt_of_cell? _ _ k4_s_0
  simp only [] at y4_s
  have k4_t_0 := kept hw4 (cellA k3_t_0)
  have k4_t_1 := kept hw4 (cellA k3_t_1)
  have y4_t := World.block_lt_of_cell? _ _ k4_t_0
  simp only [] at y4_t
  have k4_n_0 := kept hw4 (cellA k3_n_0)
  have k4_n_1 := kept hw4 (cellA k3_n_1)
  have k4_n_2 := kept hw4 (cellA k3_n_2)
  have k4_n_3 := kept hw4 (cellA k3_n_3)
  have y4_n := World.block_lt_of_cell? _ _ k4_n_0
  simp only [] at y4_n
  have k4_p_0 := kept hw4 (p := ⟨w3.heap.size, 0, none⟩) (v := .int .i64 X) (by first | ((repeat' first | with_reducible assumption | with_reducible refine cellA ?_ | with_reducible refine cellD ?_); done) | (simp [go_sem]; done) | (simp [go_sem, *]; done))
  have k4_p_1 := kept hw4 (p := ⟨w3.heap.size, 1, none⟩) (v := .int .i64 Y) (by first | ((repeat' first | with_reducible assumption | with_reducible refine cellA ?_ | with_reducible refine cellD ?_); done) | (simp [go_sem]; done) | (simp [go_sem, *]; done))
  have y4_p := World.block_lt_of_cell? _ _ k4_p_0
  simp only [] at y4_p
  clear k3_s_0 k3_s_1 y3_s k3_t_0 k3_t_1 y3_t k3_n_0 k3_n_1 k3_n_2 k3_n_3 y3_n
  go_wp2_with fail
  refine (has_is HS.out _).mono ?_
  rintro e w6 ⟨rfl, hw6⟩
  have k5_s_0 := kept hw6 (cellA k4_s_0)
  have k5_s_1 := kept hw6 (cellA k4_s_1)
  have y5_s := World.block_lt_of_cell? _ _ k5_s_0
  simp only [] at y5_s
  have k5_n_0 := kept hw6 (cellA k4_n_0)
  have k5_n_1 := kept hw6 (cellA k4_n_1)
  have k5_n_2 := kept hw6 (cellA k4_n_2)
  have k5_n_3 := kept hw6 (cellA k4_n_3)
  have y5_n := World.block_lt_of_cell? _ _ k5_n_0
  simp only [] at y5_n
  have k5_q_0 := kept hw6 (p := ⟨w4.heap.size, 0, none⟩) (v := .int .i64 Z) (by first | ((repeat' first | with_reducible assumption | with_reducible refine cellA ?_ | with_reducible refine cellD ?_); done) | (simp [go_sem]; done) | (simp [go_sem, *]; done))
  have k5_q_1 := kept hw6 (p := ⟨w4.heap.size, 1, none⟩) (v := .int .i64 U) (by first | ((repeat' first | with_reducible assumption | with_reducible refine cellA ?_ | with_reducible refine cellD ?_); done) | (simp [go_sem]; done) | (simp [go_sem, *]; done))
  have y5_q := World.block_lt_of_cell? _ _ k5_q_0
  simp only [] at y5_q
  clear k4_s_0 k4_s_1 y4_s k4_t_0 k4_t_1 y4_t k4_n_0 k4_n_1 k4_n_2 k4_n_3 y4_n k4_p_0 k4_p_1 y4_p
  go_wp2_with fail
  refine (part_is E3.out _).mono ?_
  rintro e w7 ⟨rfl, hw7⟩
  have k6_s_0 := kept hw7 k5_s_0
  have k6_s_1 := kept hw7 k5_s_1
  have y6_s := World.block_lt_of_cell? _ _ k6_s_0
  simp only [] at y6_s
  have k6_n_0 := kept hw7 k5_n_0
  have k6_n_1 := kept hw7 k5_n_1
  have k6_n_2 := kept hw7 k5_n_2
  have k6_n_3 := kept hw7 k5_n_3
  have y6_n := World.block_lt_of_cell? _ _ k6_n_0
  simp only [] at y6_n
  clear k5_s_0 k5_s_1 y5_s k5_n_0 k5_n_1 k5_n_2 k5_n_3 y5_n k5_q_0 k5_q_1 y5_q
  go_wp2_with fail
  refine (awake_any _).mono ?_
  rintro e w8 ⟨rfl, hw8⟩
  go_wp2
  go_ret
  exact ⟨rfl, by (repeat' first | exact Below.refl _ _ | with_reducible refine Below.drew ?_ | with_reducible refine Below.drewN ?_ _ | with_reducible refine Below.alloc' ?_ _ | with_reducible refine Below.setCell ?_ (by first | exact Nat.le_refl _ | (simp; done) | (simp; omega)) _ | with_reducible refine Below.after ?_ ‹_›)⟩

set_option maxRecDepth 100000 in
set_option maxHeartbeats 8000000 in
theorem sound_011 (a b c d x y n m : Int) (w : World) {X Y e Z U f P Q g : Int} (h1 : hasB a b x = true) (h2 : hasB c d y = true) (e1 : addV a b c d = (X, Y, e)) (e2 : subV a b c d = (Z, U, f)) (e3 : partV a b n m = (P, Q, g))
    (hA : (e == 0) = false) (hS : f = 0) (hS1 : hasB Z U (x - y) = true)
    (hP : g = 0) (hm : 1 ≤ m ∧ m ≤ 1073741824) (hn : 0 ≤ n ∧ n ≤ m) (hx : -70368744177664 ≤ x ∧ x ≤ 70368744177664) (hP1 : hasB P Q (downV x n m) = true) (hP2 : hasB P Q (upV x n m) = true) :
    Calls Try.prog 9 #[.agg #[.int .i64 a, .int .i64 b], .agg #[.int .i64 c, .int .i64 d], .agg #[.int .i64 x, .int .i64 y, .int .i64 n, .int .i64 m]] w fun e w' => e = .returned (.bool true) ∧ Below w.heap.size w w' := by
  have b1 : -70368744177664 ≤ x ∧ x ≤ 70368744177664 := by have := has_out h1; have := vB_true.1 this.1; omega
  have b2 : -70368744177664 ≤ y ∧ y ≤ 70368744177664 := by have := has_out h2; have := vB_true.1 this.1; omega
  have H1 := Lib.hid h1
  have H2 := Lib.hid h2
  have E1 := Lib.hid e1
  have E2 := Lib.hid e2
  have E3 := Lib.hid e3
  clear h1 h2 e1 e2 e3
  subst hS
  have HS := Lib.hid hS1
  clear hS1
  subst hP
  have HP1 := Lib.hid hP1
  have HP2 := Lib.hid hP2
  clear hP1 hP2
  go_enter Try.func9, Try.ntmps9
  go_wp2_with fail
  go_quiet (fail)
  go_wp2_with fail
  refine (has_is H1.out _).mono ?_
  rintro e w1 ⟨rfl, hw1⟩
  have k1_s_0 := kept hw1 (p := ⟨w.heap.size, 0, none⟩) (v := .int .i64 a) (by first | ((repeat' first | with_reducible assumption | with_reducible refine cellA ?_ | with_reducible refine cellD ?_); done) | (simp [go_sem]; done) | (simp [go_sem, *]; done))
  have k1_s_1 := kept hw1 (p := ⟨w.heap.size, 1, none⟩) (v := .int .i64 b) (by first | ((repeat' first | with_reducible assumption | with_reducible refine cellA ?_ | with_reducible refine cellD ?_); done) | (simp [go_sem]; done) | (simp [go_sem, *]; done))
  have y1_s := World.block_lt_of_cell? _ _ k1_s_0
  simp only [] at y1_s
  have k1_t_0 := kept hw1 (p := ⟨w.heap.size + 1, 0, none⟩) (v := .int .i64 c) (by first | ((repeat' first | with_reducible assumption | with_reducible refine cellA ?_ | with_reducible refine cellD ?_); done) | (simp [go_sem]; done) | (simp [go_sem, *]; done))
  have k1_t_1 := kept hw1 (p := ⟨w.heap.size + 1, 1, none⟩) (v := .int .i64 d) (by first | ((repeat' first | with_reducible assumption | with_reducible refine cellA ?_ | with_reducible refine cellD ?_); done) | (simp [go_sem]; done) | (simp [go_sem, *]; done))
  have y1_t := World.block_lt_of_cell? _ _ k1_t_0
  simp only [] at y1_t
  have k1_n_0 := kept hw1 (p := ⟨w.heap.size + 1 + 1, 0, none⟩) (v := .int .i64 x) (by first | ((repeat' first | with_reducible assumption | with_reducible refine cellA ?_ | with_reducible refine cellD ?_); done) | (simp [go_sem]; done) | (simp [go_sem, *]; done))
  have k1_n_1 := kept hw1 (p := ⟨w.heap.size + 1 + 1, 1, none⟩) (v := .int .i64 y) (by first | ((repeat' first | with_reducible assumption | with_reducible refine cellA ?_ | with_reducible refine cellD ?_); done) | (simp [go_sem]; done) | (simp [go_sem, *]; done))
  have k1_n_2 := kept hw1 (p := ⟨w.heap.size + 1 + 1, 2, none⟩) (v := .int .i64 n) (by first | ((repeat' first | with_reducible assumption | with_reducible refine cellA ?_ | with_reducible refine cellD ?_); done) | (simp [go_sem]; done) | (simp [go_sem, *]; done))
  have k1_n_3 := kept hw1 (p := ⟨w.heap.size + 1 + 1, 3, none⟩) (v := .int .i64 m) (by first | ((repeat' first | with_reducible assumption | with_reducible refine cellA ?_ | with_reducible refine cellD ?_); done) | (simp [go_sem]; done) | (simp [go_sem, *]; done))
  have y1_n := World.block_lt_of_cell? _ _ k1_n_0
  simp only [] at y1_n
  go_wp2_with fail
  refine (has_is H2.out _).mono ?_
  rintro e w2 ⟨rfl, hw2⟩
  have k2_s_0 := kept hw2 k1_s_0
  have k2_s_1 := kept hw2 k1_s_1
  have y2_s := World.block_lt_of_cell? _ _ k2_s_0
  simp only [] at y2_s
  have k2_t_0 := kept hw2 k1_t_0
  have k2_t_1 := kept hw2 k1_t_1
  have y2_t := World.block_lt_of_cell? _ _ k2_t_0
  simp only [] at y2_t
  have k2_n_0 := kept hw2 k1_n_0
  have k2_n_1 := kept hw2 k1_n_1
  have k2_n_2 := kept hw2 k1_n_2
  have k2_n_3 := kept hw2 k1_n_3
  have y2_n := World.block_lt_of_cell? _ _ k2_n_0
  simp only [] at y2_n
  clear k1_s_0 k1_s_1 y1_s k1_t_0 k1_t_1 y1_t k1_n_0 k1_n_1 k1_n_2 k1_n_3 y1_n
  go_wp2_with fail
  refine (add_is E1.out _).mono ?_
  rintro e w3 ⟨rfl, hw3⟩
  have k3_s_0 := kept hw3 k2_s_0
  have k3_s_1 := kept hw3 k2_s_1
  have y3_s := World.block_lt_of_cell? _ _ k3_s_0
  simp only [] at y3_s
  have k3_t_0 := kept hw3 k2_t_0
  have k3_t_1 := kept hw3 k2_t_1
  have y3_t := World.block_lt_of_cell? _ _ k3_t_0
  simp only [] at y3_t
  have k3_n_0 := kept hw3 k2_n_0
  have k3_n_1 := kept hw3 k2_n_1
  have k3_n_2 := kept hw3 k2_n_2
  have k3_n_3 := kept hw3 k2_n_3
  have y3_n := World.block_lt_of_cell? _ _ k3_n_0
  simp only [] at y3_n
  clear k2_s_0 k2_s_1 y2_s k2_t_0 k2_t_1 y2_t k2_n_0 k2_n_1 k2_n_2 k2_n_3 y2_n
  go_wp2_with fail
  refine (sub_is E2.out _).mono ?_
  rintro e w4 ⟨rfl, hw4⟩
  have k4_s_0 := kept hw4 (cellA k3_s_0)
  have k4_s_1 := kept hw4 (cellA k3_s_1)
  have y4_s := World.block_lt_of_cell? _ _ k4_s_0
  simp only [] at y4_s
  have k4_t_0 := kept hw4 (cellA k3_t_0)
  have k4_t_1 := kept hw4 (cellA k3_t_1)
  have y4_t := World.block_lt_of_cell? _ _ k4_t_0
  simp only [] at y4_t
  have k4_n_0 := kept hw4 (cellA k3_n_0)
  have k4_n_1 := kept hw4 (cellA k3_n_1)
  have k4_n_2 := kept hw4 (cellA k3_n_2)
  have k4_n_3 := kept hw4 (cellA k3_n_3)
  have y4_n := World.block_lt_of_cell? _ _ k4_n_0
  simp only [] at y4_n
  have k4_p_0 := kept hw4 (p := ⟨w3.heap.size, 0, none⟩) (v := .int .i64 X) (by first | ((repeat' first | with_reducible assumption | with_reducible refine cellA ?_ | with_reducible refine cellD ?_); done) | (simp [go_sem]; done) | (simp [go_sem, *]; done))
  have k4_p_1 := kept hw4 (p := ⟨w3.heap.size, 1, none⟩) (v := .int .i64 Y) (by first | ((repeat' first | with_reducible assumption | with_reducible refine cellA ?_ | with_reducible refine cellD ?_); done) | (simp [go_sem]; done) | (simp [go_sem, *]; done))
  have y4_p := World.block_lt_of_cell? _ _ k4_p_0
  simp only [] at y4_p
  clear k3_s_0 k3_s_1 y3_s k3_t_0 k3_t_1 y3_t k3_n_0 k3_n_1 k3_n_2 k3_n_3 y3_n
  go_wp2_with fail
  refine (has_is HS.out _).mono ?_
  rintro e w6 ⟨rfl, hw6⟩
  have k5_s_0 := kept hw6 (cellA k4_s_0)
  have k5_s_1 := kept hw6 (cellA k4_s_1)
  have y5_s := World.block_lt_of_cell? _ _ k5_s_0
  simp only [] at y5_s
  have k5_n_0 := kept hw6 (cellA k4_n_0)
  have k5_n_1 := kept hw6 (cellA k4_n_1)
  have k5_n_2 := kept hw6 (cellA k4_n_2)
  have k5_n_3 := kept hw6 (cellA k4_n_3)
  have y5_n := World.block_lt_of_cell? _ _ k5_n_0
  simp only [] at y5_n
  have k5_q_0 := kept hw6 (p := ⟨w4.heap.size, 0, none⟩) (v := .int .i64 Z) (by first | ((repeat' first | with_reducible assumption | with_reducible refine cellA ?_ | with_reducible refine cellD ?_); done) | (simp [go_sem]; done) | (simp [go_sem, *]; done))
  have k5_q_1 := kept hw6 (p := ⟨w4.heap.size, 1, none⟩) (v := .int .i64 U) (by first | ((repeat' first | with_reducible assumption | with_reducible refine cellA ?_ | with_reducible refine cellD ?_); done) | (simp [go_sem]; done) | (simp [go_sem, *]; done))
  have y5_q := World.block_lt_of_cell? _ _ k5_q_0
  simp only [] at y5_q
  clear k4_s_0 k4_s_1 y4_s k4_t_0 k4_t_1 y4_t k4_n_0 k4_n_1 k4_n_2 k4_n_3 y4_n k4_p_0 k4_p_1 y4_p
  go_wp2_with fail
  refine (part_is E3.out _).mono ?_
  rintro e w7 ⟨rfl, hw7⟩
  have k6_s_0 := kept hw7 k5_s_0
  have k6_s_1 := kept hw7 k5_s_1
  have y6_s := World.block_lt_of_cell? _ _ k6_s_0
  simp only [] at y6_s
  have k6_n_0 := kept hw7 k5_n_0
  have k6_n_1 := kept hw7 k5_n_1
  have k6_n_2 := kept hw7 k5_n_2
  have k6_n_3 := kept hw7 k5_n_3
  have y6_n := World.block_lt_of_cell? _ _ k6_n_0
  simp only [] at y6_n
  clear k5_s_0 k5_s_1 y5_s k5_n_0 k5_n_1 k5_n_2 k5_n_3 y5_n k5_q_0 k5_q_1 y5_q
  go_wp2_with fail
  go_region_held3 (fun w' => w'.cell? ⟨w7.heap.size, 0, none⟩ = some (.int .i64 P) ∧ w'.cell? ⟨w7.heap.size, 1, none⟩ = some (.int .i64 Q) ∧ w'.cell? ⟨w.heap.size + 1 + 1, 2, none⟩ = some (.int .i64 n) ∧ w'.cell? ⟨w.heap.size + 1 + 1, 3, none⟩ = some (.int .i64 m))
    (first | (go_split_ands; refine ⟨?_, ?_, ?_, ?_⟩ <;> (refine kept ‹Below _ _ _› ?_; assumption)) | (go_split_ands; exact ⟨‹_›, ‹_›, ‹_›, ‹_›⟩) | go_keep)
    (first
      | (go_at_call 32; refine (rDown_any _ _ _ _ hx hm hn).mono ?_; rintro e w9 ⟨rfl, rfl⟩)
      | (go_at_call 33; refine (rUp_any _ _ _ _ hx hm hn).mono ?_; rintro e w9 ⟨rfl, rfl⟩)
      | (go_at_call_of 15 (Value.int IntKind.i64 (downV x n m)); refine (has_is HP1.out _).mono ?_; rintro e w10 ⟨rfl, hb10⟩)
      | (go_at_call_of 15 (Value.int IntKind.i64 (upV x n m)); refine (has_is HP2.out _).mono ?_; rintro e w11 ⟨rfl, hb11⟩)
      | (go_at_call 17; refine (awake_any _).mono ?_; rintro e w12 ⟨rfl, hb12⟩))
  all_goals
    go_wp2
    go_ret
    exact ⟨rfl, by (repeat' first | exact Below.refl _ _ | with_reducible refine Below.drew ?_ | with_reducible refine Below.drewN ?_ _ | with_reducible refine Below.alloc' ?_ _ | with_reducible refine Below.setCell ?_ (by first | exact Nat.le_refl _ | (simp; done) | (simp; omega)) _ | with_reducible refine Below.after ?_ ‹_›)⟩

set_option maxRecDepth 100000 in
set_option maxHeartbeats 8000000 in
theorem sound_100 (a b c d x y n m : Int) (w : World) {X Y e Z U f P Q g : Int} (h1 : hasB a b x = true) (h2 : hasB c d y = true) (e1 : addV a b c d = (X, Y, e)) (e2 : subV a b c d = (Z, U, f)) (e3 : partV a b n m = (P, Q, g))
    (hA : e = 0) (hA1 : hasB X Y (x + y) = true) (hS : (f == 0) = false)
    (_hP : (g == 0) = false) (hP1 : (g != 0) = true) :
    Calls Try.prog 9 #[.agg #[.int .i64 a, .int .i64 b], .agg #[.int .i64 c, .int .i64 d], .agg #[.int .i64 x, .int .i64 y, .int .i64 n, .int .i64 m]] w fun e w' => e = .returned (.bool true) ∧ Below w.heap.size w w' := by
  have b1 : -70368744177664 ≤ x ∧ x ≤ 70368744177664 := by have := has_out h1; have := vB_true.1 this.1; omega
  have b2 : -70368744177664 ≤ y ∧ y ≤ 70368744177664 := by have := has_out h2; have := vB_true.1 this.1; omega
  have H1 := Lib.hid h1
  have H2 := Lib.hid h2
  have E1 := Lib.hid e1
  have E2 := Lib.hid e2
  have E3 := Lib.hid e3
  clear h1 h2 e1 e2 e3
  subst hA
  have HA := Lib.hid hA1
  clear hA1
  go_enter Try.func9, Try.ntmps9
  go_wp2_with fail
  go_quiet (fail)
  go_wp2_with fail
  refine (has_is H1.out _).mono ?_
  rintro e w1 ⟨rfl, hw1⟩
  have k1_s_0 := kept hw1 (p := ⟨w.heap.size, 0, none⟩) (v := .int .i64 a) (by first | ((repeat' first | with_reducible assumption | with_reducible refine cellA ?_ | with_reducible refine cellD ?_); done) | (simp [go_sem]; done) | (simp [go_sem, *]; done))
  have k1_s_1 := kept hw1 (p := ⟨w.heap.size, 1, none⟩) (v := .int .i64 b) (by first | ((repeat' first | with_reducible assumption | with_reducible refine cellA ?_ | with_reducible refine cellD ?_); done) | (simp [go_sem]; done) | (simp [go_sem, *]; done))
  have y1_s := World.block_lt_of_cell? _ _ k1_s_0
  simp only [] at y1_s
  have k1_t_0 := kept hw1 (p := ⟨w.heap.size + 1, 0, none⟩) (v := .int .i64 c) (by first | ((repeat' first | with_reducible assumption | with_reducible refine cellA ?_ | with_reducible refine cellD ?_); done) | (simp [go_sem]; done) | (simp [go_sem, *]; done))
  have k1_t_1 := kept hw1 (p := ⟨w.heap.size + 1, 1, none⟩) (v := .int .i64 d) (by first | ((repeat' first | with_reducible assumption | with_reducible refine cellA ?_ | with_reducible refine cellD ?_); done) | (simp [go_sem]; done) | (simp [go_sem, *]; done))
  have y1_t := World.block_lt_of_cell? _ _ k1_t_0
  simp only [] at y1_t
  have k1_n_0 := kept hw1 (p := ⟨w.heap.size + 1 + 1, 0, none⟩) (v := .int .i64 x) (by first | ((repeat' first | with_reducible assumption | with_reducible refine cellA ?_ | with_reducible refine cellD ?_); done) | (simp [go_sem]; done) | (simp [go_sem, *]; done))
  have k1_n_1 := kept hw1 (p := ⟨w.heap.size + 1 + 1, 1, none⟩) (v := .int .i64 y) (by first | ((repeat' first | with_reducible assumption | with_reducible refine cellA ?_ | with_reducible refine cellD ?_); done) | (simp [go_sem]; done) | (simp [go_sem, *]; done))
  have k1_n_2 := kept hw1 (p := ⟨w.heap.size + 1 + 1, 2, none⟩) (v := .int .i64 n) (by first | ((repeat' first | with_reducible assumption | with_reducible refine cellA ?_ | with_reducible refine cellD ?_); done) | (simp [go_sem]; done) | (simp [go_sem, *]; done))
  have k1_n_3 := kept hw1 (p := ⟨w.heap.size + 1 + 1, 3, none⟩) (v := .int .i64 m) (by first | ((repeat' first | with_reducible assumption | with_reducible refine cellA ?_ | with_reducible refine cellD ?_); done) | (simp [go_sem]; done) | (simp [go_sem, *]; done))
  have y1_n := World.block_lt_of_cell? _ _ k1_n_0
  simp only [] at y1_n
  go_wp2_with fail
  refine (has_is H2.out _).mono ?_
  rintro e w2 ⟨rfl, hw2⟩
  have k2_s_0 := kept hw2 k1_s_0
  have k2_s_1 := kept hw2 k1_s_1
  have y2_s := World.block_lt_of_cell? _ _ k2_s_0
  simp only [] at y2_s
  have k2_t_0 := kept hw2 k1_t_0
  have k2_t_1 := kept hw2 k1_t_1
  have y2_t := World.block_lt_of_cell? _ _ k2_t_0
  simp only [] at y2_t
  have k2_n_0 := kept hw2 k1_n_0
  have k2_n_1 := kept hw2 k1_n_1
  have k2_n_2 := kept hw2 k1_n_2
  have k2_n_3 := kept hw2 k1_n_3
  have y2_n := World.block_lt_of_cell? _ _ k2_n_0
  simp only [] at y2_n
  clear k1_s_0 k1_s_1 y1_s k1_t_0 k1_t_1 y1_t k1_n_0 k1_n_1 k1_n_2 k1_n_3 y1_n
  go_wp2_with fail
  refine (add_is E1.out _).mono ?_
  rintro e w3 ⟨rfl, hw3⟩
  have k3_s_0 := kept hw3 k2_s_0
  have k3_s_1 := kept hw3 k2_s_1
  have y3_s := World.block_lt_of_cell? _ _ k3_s_0
  simp only [] at y3_s
  have k3_t_0 := kept hw3 k2_t_0
  have k3_t_1 := kept hw3 k2_t_1
  have y3_t := World.block_lt_of_cell? _ _ k3_t_0
  simp only [] at y3_t
  have k3_n_0 := kept hw3 k2_n_0
  have k3_n_1 := kept hw3 k2_n_1
  have k3_n_2 := kept hw3 k2_n_2
  have k3_n_3 := kept hw3 k2_n_3
  have y3_n := World.block_lt_of_cell? _ _ k3_n_0
  simp only [] at y3_n
  clear k2_s_0 k2_s_1 y2_s k2_t_0 k2_t_1 y2_t k2_n_0 k2_n_1 k2_n_2 k2_n_3 y2_n
  go_wp2_with fail
  refine (sub_is E2.out _).mono ?_
  rintro e w4 ⟨rfl, hw4⟩
  have k4_s_0 := kept hw4 (cellA k3_s_0)
  have k4_s_1 := kept hw4 (cellA k3_s_1)
  have y4_s := World.block_lt_of_cell? _ _ k4_s_0
  simp only [] at y4_s
  have k4_t_0 := kept hw4 (cellA k3_t_0)
  have k4_t_1 := kept hw4 (cellA k3_t_1)
  have y4_t := World.block_lt_of_cell? _ _ k4_t_0
  simp only [] at y4_t
  have k4_n_0 := kept hw4 (cellA k3_n_0)
  have k4_n_1 := kept hw4 (cellA k3_n_1)
  have k4_n_2 := kept hw4 (cellA k3_n_2)
  have k4_n_3 := kept hw4 (cellA k3_n_3)
  have y4_n := World.block_lt_of_cell? _ _ k4_n_0
  simp only [] at y4_n
  have k4_p_0 := kept hw4 (p := ⟨w3.heap.size, 0, none⟩) (v := .int .i64 X) (by first | ((repeat' first | with_reducible assumption | with_reducible refine cellA ?_ | with_reducible refine cellD ?_); done) | (simp [go_sem]; done) | (simp [go_sem, *]; done))
  have k4_p_1 := kept hw4 (p := ⟨w3.heap.size, 1, none⟩) (v := .int .i64 Y) (by first | ((repeat' first | with_reducible assumption | with_reducible refine cellA ?_ | with_reducible refine cellD ?_); done) | (simp [go_sem]; done) | (simp [go_sem, *]; done))
  have y4_p := World.block_lt_of_cell? _ _ k4_p_0
  simp only [] at y4_p
  clear k3_s_0 k3_s_1 y3_s k3_t_0 k3_t_1 y3_t k3_n_0 k3_n_1 k3_n_2 k3_n_3 y3_n
  go_wp2_with fail
  refine (has_is HA.out _).mono ?_
  rintro e w5 ⟨rfl, hw5⟩
  have k5_s_0 := kept hw5 (cellA k4_s_0)
  have k5_s_1 := kept hw5 (cellA k4_s_1)
  have y5_s := World.block_lt_of_cell? _ _ k5_s_0
  simp only [] at y5_s
  have k5_n_0 := kept hw5 (cellA k4_n_0)
  have k5_n_1 := kept hw5 (cellA k4_n_1)
  have k5_n_2 := kept hw5 (cellA k4_n_2)
  have k5_n_3 := kept hw5 (cellA k4_n_3)
  have y5_n := World.block_lt_of_cell? _ _ k5_n_0
  simp only [] at y5_n
  have k5_p_0 := kept hw5 (cellA k4_p_0)
  have k5_p_1 := kept hw5 (cellA k4_p_1)
  have y5_p := World.block_lt_of_cell? _ _ k5_p_0
  simp only [] at y5_p
  have k5_q_0 := kept hw5 (p := ⟨w4.heap.size, 0, none⟩) (v := .int .i64 Z) (by first | ((repeat' first | with_reducible assumption | with_reducible refine cellA ?_ | with_reducible refine cellD ?_); done) | (simp [go_sem]; done) | (simp [go_sem, *]; done))
  have k5_q_1 := kept hw5 (p := ⟨w4.heap.size, 1, none⟩) (v := .int .i64 U) (by first | ((repeat' first | with_reducible assumption | with_reducible refine cellA ?_ | with_reducible refine cellD ?_); done) | (simp [go_sem]; done) | (simp [go_sem, *]; done))
  have y5_q := World.block_lt_of_cell? _ _ k5_q_0
  simp only [] at y5_q
  clear k4_s_0 k4_s_1 y4_s k4_t_0 k4_t_1 y4_t k4_n_0 k4_n_1 k4_n_2 k4_n_3 y4_n k4_p_0 k4_p_1 y4_p
  go_wp2_with fail
  refine (part_is E3.out _).mono ?_
  rintro e w7 ⟨rfl, hw7⟩
  have k6_s_0 := kept hw7 k5_s_0
  have k6_s_1 := kept hw7 k5_s_1
  have y6_s := World.block_lt_of_cell? _ _ k6_s_0
  simp only [] at y6_s
  have k6_n_0 := kept hw7 k5_n_0
  have k6_n_1 := kept hw7 k5_n_1
  have k6_n_2 := kept hw7 k5_n_2
  have k6_n_3 := kept hw7 k5_n_3
  have y6_n := World.block_lt_of_cell? _ _ k6_n_0
  simp only [] at y6_n
  clear k5_s_0 k5_s_1 y5_s k5_n_0 k5_n_1 k5_n_2 k5_n_3 y5_n k5_p_0 k5_p_1 y5_p k5_q_0 k5_q_1 y5_q
  go_wp2_with fail
  refine (awake_any _).mono ?_
  rintro e w8 ⟨rfl, hw8⟩
  go_wp2
  go_ret
  exact ⟨rfl, by (repeat' first | exact Below.refl _ _ | with_reducible refine Below.drew ?_ | with_reducible refine Below.drewN ?_ _ | with_reducible refine Below.alloc' ?_ _ | with_reducible refine Below.setCell ?_ (by first | exact Nat.le_refl _ | (simp; done) | (simp; omega)) _ | with_reducible refine Below.after ?_ ‹_›)⟩

set_option maxRecDepth 100000 in
set_option maxHeartbeats 8000000 in
theorem sound_101 (a b c d x y n m : Int) (w : World) {X Y e Z U f P Q g : Int} (h1 : hasB a b x = true) (h2 : hasB c d y = true) (e1 : addV a b c d = (X, Y, e)) (e2 : subV a b c d = (Z, U, f)) (e3 : partV a b n m = (P, Q, g))
    (hA : e = 0) (hA1 : hasB X Y (x + y) = true) (hS : (f == 0) = false)
    (hP : g = 0) (hm : 1 ≤ m ∧ m ≤ 1073741824) (hn : 0 ≤ n ∧ n ≤ m) (hx : -70368744177664 ≤ x ∧ x ≤ 70368744177664) (hP1 : hasB P Q (downV x n m) = true) (hP2 : hasB P Q (upV x n m) = true) :
    Calls Try.prog 9 #[.agg #[.int .i64 a, .int .i64 b], .agg #[.int .i64 c, .int .i64 d], .agg #[.int .i64 x, .int .i64 y, .int .i64 n, .int .i64 m]] w fun e w' => e = .returned (.bool true) ∧ Below w.heap.size w w' := by
  have b1 : -70368744177664 ≤ x ∧ x ≤ 70368744177664 := by have := has_out h1; have := vB_true.1 this.1; omega
  have b2 : -70368744177664 ≤ y ∧ y ≤ 70368744177664 := by have := has_out h2; have := vB_true.1 this.1; omega
  have H1 := Lib.hid h1
  have H2 := Lib.hid h2
  have E1 := Lib.hid e1
  have E2 := Lib.hid e2
  have E3 := Lib.hid e3
  clear h1 h2 e1 e2 e3
  subst hA
  have HA := Lib.hid hA1
  clear hA1
  subst hP
  have HP1 := Lib.hid hP1
  have HP2 := Lib.hid hP2
  clear hP1 hP2
  go_enter Try.func9, Try.ntmps9
  go_wp2_with fail
  go_quiet (fail)
  go_wp2_with fail
  refine (has_is H1.out _).mono ?_
  rintro e w1 ⟨rfl, hw1⟩
  have k1_s_0 := kept hw1 (p := ⟨w.heap.size, 0, none⟩) (v := .int .i64 a) (by first | ((repeat' first | with_reducible assumption | with_reducible refine cellA ?_ | with_reducible refine cellD ?_); done) | (simp [go_sem]; done) | (simp [go_sem, *]; done))
  have k1_s_1 := kept hw1 (p := ⟨w.heap.size, 1, none⟩) (v := .int .i64 b) (by first | ((repeat' first | with_reducible assumption | with_reducible refine cellA ?_ | with_reducible refine cellD ?_); done) | (simp [go_sem]; done) | (simp [go_sem, *]; done))
  have y1_s := World.block_lt_of_cell? _ _ k1_s_0
  simp only [] at y1_s
  have k1_t_0 := kept hw1 (p := ⟨w.heap.size + 1, 0, none⟩) (v := .int .i64 c) (by first | ((repeat' first | with_reducible assumption | with_reducible refine cellA ?_ | with_reducible refine cellD ?_); done) | (simp [go_sem]; done) | (simp [go_sem, *]; done))
  have k1_t_1 := kept hw1 (p := ⟨w.heap.size + 1, 1, none⟩) (v := .int .i64 d) (by first | ((repeat' first | with_reducible assumption | with_reducible refine cellA ?_ | with_reducible refine cellD ?_); done) | (simp [go_sem]; done) | (simp [go_sem, *]; done))
  have y1_t := World.block_lt_of_cell? _ _ k1_t_0
  simp only [] at y1_t
  have k1_n_0 := kept hw1 (p := ⟨w.heap.size + 1 + 1, 0, none⟩) (v := .int .i64 x) (by first | ((repeat' first | with_reducible assumption | with_reducible refine cellA ?_ | with_reducible refine cellD ?_); done) | (simp [go_sem]; done) | (simp [go_sem, *]; done))
  have k1_n_1 := kept hw1 (p := ⟨w.heap.size + 1 + 1, 1, none⟩) (v := .int .i64 y) (by first | ((repeat' first | with_reducible assumption | with_reducible refine cellA ?_ | with_reducible refine cellD ?_); done) | (simp [go_sem]; done) | (simp [go_sem, *]; done))
  have k1_n_2 := kept hw1 (p := ⟨w.heap.size + 1 + 1, 2, none⟩) (v := .int .i64 n) (by first | ((repeat' first | with_reducible assumption | with_reducible refine cellA ?_ | with_reducible refine cellD ?_); done) | (simp [go_sem]; done) | (simp [go_sem, *]; done))
  have k1_n_3 := kept hw1 (p := ⟨w.heap.size + 1 + 1, 3, none⟩) (v := .int .i64 m) (by first | ((repeat' first | with_reducible assumption | with_reducible refine cellA ?_ | with_reducible refine cellD ?_); done) | (simp [go_sem]; done) | (simp [go_sem, *]; done))
  have y1_n := World.block_lt_of_cell? _ _ k1_n_0
  simp only [] at y1_n
  go_wp2_with fail
  refine (has_is H2.out _).mono ?_
  rintro e w2 ⟨rfl, hw2⟩
  have k2_s_0 := kept hw2 k1_s_0
  have k2_s_1 := kept hw2 k1_s_1
  have y2_s := World.block_lt_of_cell? _ _ k2_s_0
  simp only [] at y2_s
  have k2_t_0 := kept hw2 k1_t_0
  have k2_t_1 := kept hw2 k1_t_1
  have y2_t := World.block_lt_of_cell? _ _ k2_t_0
  simp only [] at y2_t
  have k2_n_0 := kept hw2 k1_n_0
  have k2_n_1 := kept hw2 k1_n_1
  have k2_n_2 := kept hw2 k1_n_2
  have k2_n_3 := kept hw2 k1_n_3
  have y2_n := World.block_lt_of_cell? _ _ k2_n_0
  simp only [] at y2_n
  clear k1_s_0 k1_s_1 y1_s k1_t_0 k1_t_1 y1_t k1_n_0 k1_n_1 k1_n_2 k1_n_3 y1_n
  go_wp2_with fail
  refine (add_is E1.out _).mono ?_
  rintro e w3 ⟨rfl, hw3⟩
  have k3_s_0 := kept hw3 k2_s_0
  have k3_s_1 := kept hw3 k2_s_1
  have y3_s := World.block_lt_of_cell? _ _ k3_s_0
  simp only [] at y3_s
  have k3_t_0 := kept hw3 k2_t_0
  have k3_t_1 := kept hw3 k2_t_1
  have y3_t := World.block_lt_of_cell? _ _ k3_t_0
  simp only [] at y3_t
  have k3_n_0 := kept hw3 k2_n_0
  have k3_n_1 := kept hw3 k2_n_1
  have k3_n_2 := kept hw3 k2_n_2
  have k3_n_3 := kept hw3 k2_n_3
  have y3_n := World.block_lt_of_cell? _ _ k3_n_0
  simp only [] at y3_n
  clear k2_s_0 k2_s_1 y2_s k2_t_0 k2_t_1 y2_t k2_n_0 k2_n_1 k2_n_2 k2_n_3 y2_n
  go_wp2_with fail
  refine (sub_is E2.out _).mono ?_
  rintro e w4 ⟨rfl, hw4⟩
  have k4_s_0 := kept hw4 (cellA k3_s_0)
  have k4_s_1 := kept hw4 (cellA k3_s_1)
  have y4_s := World.block_lt_of_cell? _ _ k4_s_0
  simp only [] at y4_s
  have k4_t_0 := kept hw4 (cellA k3_t_0)
  have k4_t_1 := kept hw4 (cellA k3_t_1)
  have y4_t := World.block_lt_of_cell? _ _ k4_t_0
  simp only [] at y4_t
  have k4_n_0 := kept hw4 (cellA k3_n_0)
  have k4_n_1 := kept hw4 (cellA k3_n_1)
  have k4_n_2 := kept hw4 (cellA k3_n_2)
  have k4_n_3 := kept hw4 (cellA k3_n_3)
  have y4_n := World.block_lt_of_cell? _ _ k4_n_0
  simp only [] at y4_n
  have k4_p_0 := kept hw4 (p := ⟨w3.heap.size, 0, none⟩) (v := .int .i64 X) (by first | ((repeat' first | with_reducible assumption | with_reducible refine cellA ?_ | with_reducible refine cellD ?_); done) | (simp [go_sem]; done) | (simp [go_sem, *]; done))
  have k4_p_1 := kept hw4 (p := ⟨w3.heap.size, 1, none⟩) (v := .int .i64 Y) (by first | ((repeat' first | with_reducible assumption | with_reducible refine cellA ?_ | with_reducible refine cellD ?_); done) | (simp [go_sem]; done) | (simp [go_sem, *]; done))
  have y4_p := World.block_lt_of_cell? _ _ k4_p_0
  simp only [] at y4_p
  clear k3_s_0 k3_s_1 y3_s k3_t_0 k3_t_1 y3_t k3_n_0 k3_n_1 k3_n_2 k3_n_3 y3_n
  go_wp2_with fail
  refine (has_is HA.out _).mono ?_
  rintro e w5 ⟨rfl, hw5⟩
  have k5_s_0 := kept hw5 (cellA k4_s_0)
  have k5_s_1 := kept hw5 (cellA k4_s_1)
  have y5_s := World.block_lt_of_cell? _ _ k5_s_0
  simp only [] at y5_s
  have k5_n_0 := kept hw5 (cellA k4_n_0)
  have k5_n_1 := kept hw5 (cellA k4_n_1)
  have k5_n_2 := kept hw5 (cellA k4_n_2)
  have k5_n_3 := kept hw5 (cellA k4_n_3)
  have y5_n := World.block_lt_of_cell? _ _ k5_n_0
  simp only [] at y5_n
  have k5_p_0 := kept hw5 (cellA k4_p_0)
  have k5_p_1 := kept hw5 (cellA k4_p_1)
  have y5_p := World.block_lt_of_cell? _ _ k5_p_0
  simp only [] at y5_p
  have k5_q_0 := kept hw5 (p := ⟨w4.heap.size, 0, none⟩) (v := .int .i64 Z) (by first | ((repeat' first | with_reducible assumption | with_reducible refine cellA ?_ | with_reducible refine cellD ?_); done) | (simp [go_sem]; done) | (simp [go_sem, *]; done))
  have k5_q_1 := kept hw5 (p := ⟨w4.heap.size, 1, none⟩) (v := .int .i64 U) (by first | ((repeat' first | with_reducible assumption | with_reducible refine cellA ?_ | with_reducible refine cellD ?_); done) | (simp [go_sem]; done) | (simp [go_sem, *]; done))
  have y5_q := World.block_lt_of_cell? _ _ k5_q_0
  simp only [] at y5_q
  clear k4_s_0 k4_s_1 y4_s k4_t_0 k4_t_1 y4_t k4_n_0 k4_n_1 k4_n_2 k4_n_3 y4_n k4_p_0 k4_p_1 y4_p
  go_wp2_with fail
  refine (part_is E3.out _).mono ?_
  rintro e w7 ⟨rfl, hw7⟩
  have k6_s_0 := kept hw7 k5_s_0
  have k6_s_1 := kept hw7 k5_s_1
  have y6_s := World.block_lt_of_cell? _ _ k6_s_0
  simp only [] at y6_s
  have k6_n_0 := kept hw7 k5_n_0
  have k6_n_1 := kept hw7 k5_n_1
  have k6_n_2 := kept hw7 k5_n_2
  have k6_n_3 := kept hw7 k5_n_3
  have y6_n := World.block_lt_of_cell? _ _ k6_n_0
  simp only [] at y6_n
  clear k5_s_0 k5_s_1 y5_s k5_n_0 k5_n_1 k5_n_2 k5_n_3 y5_n k5_p_0 k5_p_1 y5_p k5_q_0 k5_q_1 y5_q
  go_wp2_with fail
  go_region_held3 (fun w' => w'.cell? ⟨w7.heap.size, 0, none⟩ = some (.int .i64 P) ∧ w'.cell? ⟨w7.heap.size, 1, none⟩ = some (.int .i64 Q) ∧ w'.cell? ⟨w.heap.size + 1 + 1, 2, none⟩ = some (.int .i64 n) ∧ w'.cell? ⟨w.heap.size + 1 + 1, 3, none⟩ = some (.int .i64 m))
    (first | (go_split_ands; refine ⟨?_, ?_, ?_, ?_⟩ <;> (refine kept ‹Below _ _ _› ?_; assumption)) | (go_split_ands; exact ⟨‹_›, ‹_›, ‹_›, ‹_›⟩) | go_keep)
    (first
      | (go_at_call 32; refine (rDown_any _ _ _ _ hx hm hn).mono ?_; rintro e w9 ⟨rfl, rfl⟩)
      | (go_at_call 33; refine (rUp_any _ _ _ _ hx hm hn).mono ?_; rintro e w9 ⟨rfl, rfl⟩)
      | (go_at_call_of 15 (Value.int IntKind.i64 (downV x n m)); refine (has_is HP1.out _).mono ?_; rintro e w10 ⟨rfl, hb10⟩)
      | (go_at_call_of 15 (Value.int IntKind.i64 (upV x n m)); refine (has_is HP2.out _).mono ?_; rintro e w11 ⟨rfl, hb11⟩)
      | (go_at_call 17; refine (awake_any _).mono ?_; rintro e w12 ⟨rfl, hb12⟩))
  all_goals
    go_wp2
    go_ret
    exact ⟨rfl, by (repeat' first | exact Below.refl _ _ | with_reducible refine Below.drew ?_ | with_reducible refine Below.drewN ?_ _ | with_reducible refine Below.alloc' ?_ _ | with_reducible refine Below.setCell ?_ (by first | exact Nat.le_refl _ | (simp; done) | (simp; omega)) _ | with_reducible refine Below.after ?_ ‹_›)⟩

set_option maxRecDepth 100000 in
set_option maxHeartbeats 8000000 in
theorem sound_110 (a b c d x y n m : Int) (w : World) {X Y e Z U f P Q g : Int} (h1 : hasB a b x = true) (h2 : hasB c d y = true) (e1 : addV a b c d = (X, Y, e)) (e2 : subV a b c d = (Z, U, f)) (e3 : partV a b n m = (P, Q, g))
    (hA : e = 0) (hA1 : hasB X Y (x + y) = true) (hS : f = 0) (hS1 : hasB Z U (x - y) = true)
    (_hP : (g == 0) = false) (hP1 : (g != 0) = true) :
    Calls Try.prog 9 #[.agg #[.int .i64 a, .int .i64 b], .agg #[.int .i64 c, .int .i64 d], .agg #[.int .i64 x, .int .i64 y, .int .i64 n, .int .i64 m]] w fun e w' => e = .returned (.bool true) ∧ Below w.heap.size w w' := by
  have b1 : -70368744177664 ≤ x ∧ x ≤ 70368744177664 := by have := has_out h1; have := vB_true.1 this.1; omega
  have b2 : -70368744177664 ≤ y ∧ y ≤ 70368744177664 := by have := has_out h2; have := vB_true.1 this.1; omega
  have H1 := Lib.hid h1
  have H2 := Lib.hid h2
  have E1 := Lib.hid e1
  have E2 := Lib.hid e2
  have E3 := Lib.hid e3
  clear h1 h2 e1 e2 e3
  subst hA
  have HA := Lib.hid hA1
  clear hA1
  subst hS
  have HS := Lib.hid hS1
  clear hS1
  go_enter Try.func9, Try.ntmps9
  go_wp2_with fail
  go_quiet (fail)
  go_wp2_with fail
  refine (has_is H1.out _).mono ?_
  rintro e w1 ⟨rfl, hw1⟩
  have k1_s_0 := kept hw1 (p := ⟨w.heap.size, 0, none⟩) (v := .int .i64 a) (by first | ((repeat' first | with_reducible assumption | with_reducible refine cellA ?_ | with_reducible refine cellD ?_); done) | (simp [go_sem]; done) | (simp [go_sem, *]; done))
  have k1_s_1 := kept hw1 (p := ⟨w.heap.size, 1, none⟩) (v := .int .i64 b) (by first | ((repeat' first | with_reducible assumption | with_reducible refine cellA ?_ | with_reducible refine cellD ?_); done) | (simp [go_sem]; done) | (simp [go_sem, *]; done))
  have y1_s := World.block_lt_of_cell? _ _ k1_s_0
  simp only [] at y1_s
  have k1_t_0 := kept hw1 (p := ⟨w.heap.size + 1, 0, none⟩) (v := .int .i64 c) (by first | ((repeat' first | with_reducible assumption | with_reducible refine cellA ?_ | with_reducible refine cellD ?_); done) | (simp [go_sem]; done) | (simp [go_sem, *]; done))
  have k1_t_1 := kept hw1 (p := ⟨w.heap.size + 1, 1, none⟩) (v := .int .i64 d) (by first | ((repeat' first | with_reducible assumption | with_reducible refine cellA ?_ | with_reducible refine cellD ?_); done) | (simp [go_sem]; done) | (simp [go_sem, *]; done))
  have y1_t := World.block_lt_of_cell? _ _ k1_t_0
  simp only [] at y1_t
  have k1_n_0 := kept hw1 (p := ⟨w.heap.size + 1 + 1, 0, none⟩) (v := .int .i64 x) (by first | ((repeat' first | with_reducible assumption | with_reducible refine cellA ?_ | with_reducible refine cellD ?_); done) | (simp [go_sem]; done) | (simp [go_sem, *]; done))
  have k1_n_1 := kept hw1 (p := ⟨w.heap.size + 1 + 1, 1, none⟩) (v := .int .i64 y) (by first | ((repeat' first | with_reducible assumption | with_reducible refine cellA ?_ | with_reducible refine cellD ?_); done) | (simp [go_sem]; done) | (simp [go_sem, *]; done))
  have k1_n_2 := kept hw1 (p := ⟨w.heap.size + 1 + 1, 2, none⟩) (v := .int .i64 n) (by first | ((repeat' first | with_reducible assumption | with_reducible refine cellA ?_ | with_reducible refine cellD ?_); done) | (simp [go_sem]; done) | (simp [go_sem, *]; done))
  have k1_n_3 := kept hw1 (p := ⟨w.heap.size + 1 + 1, 3, none⟩) (v := .int .i64 m) (by first | ((repeat' first | with_reducible assumption | with_reducible refine cellA ?_ | with_reducible refine cellD ?_); done) | (simp [go_sem]; done) | (simp [go_sem, *]; done))
  have y1_n := World.block_lt_of_cell? _ _ k1_n_0
  simp only [] at y1_n
  go_wp2_with fail
  refine (has_is H2.out _).mono ?_
  rintro e w2 ⟨rfl, hw2⟩
  have k2_s_0 := kept hw2 k1_s_0
  have k2_s_1 := kept hw2 k1_s_1
  have y2_s := World.block_lt_of_cell? _ _ k2_s_0
  simp only [] at y2_s
  have k2_t_0 := kept hw2 k1_t_0
  have k2_t_1 := kept hw2 k1_t_1
  have y2_t := World.block_lt_of_cell? _ _ k2_t_0
  simp only [] at y2_t
  have k2_n_0 := kept hw2 k1_n_0
  have k2_n_1 := kept hw2 k1_n_1
  have k2_n_2 := kept hw2 k1_n_2
  have k2_n_3 := kept hw2 k1_n_3
  have y2_n := World.block_lt_of_cell? _ _ k2_n_0
  simp only [] at y2_n
  clear k1_s_0 k1_s_1 y1_s k1_t_0 k1_t_1 y1_t k1_n_0 k1_n_1 k1_n_2 k1_n_3 y1_n
  go_wp2_with fail
  refine (add_is E1.out _).mono ?_
  rintro e w3 ⟨rfl, hw3⟩
  have k3_s_0 := kept hw3 k2_s_0
  have k3_s_1 := kept hw3 k2_s_1
  have y3_s := World.block_lt_of_cell? _ _ k3_s_0
  simp only [] at y3_s
  have k3_t_0 := kept hw3 k2_t_0
  have k3_t_1 := kept hw3 k2_t_1
  have y3_t := World.block_lt_of_cell? _ _ k3_t_0
  simp only [] at y3_t
  have k3_n_0 := kept hw3 k2_n_0
  have k3_n_1 := kept hw3 k2_n_1
  have k3_n_2 := kept hw3 k2_n_2
  have k3_n_3 := kept hw3 k2_n_3
  have y3_n := World.block_lt_of_cell? _ _ k3_n_0
  simp only [] at y3_n
  clear k2_s_0 k2_s_1 y2_s k2_t_0 k2_t_1 y2_t k2_n_0 k2_n_1 k2_n_2 k2_n_3 y2_n
  go_wp2_with fail
  refine (sub_is E2.out _).mono ?_
  rintro e w4 ⟨rfl, hw4⟩
  have k4_s_0 := kept hw4 (cellA k3_s_0)
  have k4_s_1 := kept hw4 (cellA k3_s_1)
  have y4_s := World.block_lt_of_cell? _ _ k4_s_0
  simp only [] at y4_s
  have k4_t_0 := kept hw4 (cellA k3_t_0)
  have k4_t_1 := kept hw4 (cellA k3_t_1)
  have y4_t := World.block_lt_of_cell? _ _ k4_t_0
  simp only [] at y4_t
  have k4_n_0 := kept hw4 (cellA k3_n_0)
  have k4_n_1 := kept hw4 (cellA k3_n_1)
  have k4_n_2 := kept hw4 (cellA k3_n_2)
  have k4_n_3 := kept hw4 (cellA k3_n_3)
  have y4_n := World.block_lt_of_cell? _ _ k4_n_0
  simp only [] at y4_n
  have k4_p_0 := kept hw4 (p := ⟨w3.heap.size, 0, none⟩) (v := .int .i64 X) (by first | ((repeat' first | with_reducible assumption | with_reducible refine cellA ?_ | with_reducible refine cellD ?_); done) | (simp [go_sem]; done) | (simp [go_sem, *]; done))
  have k4_p_1 := kept hw4 (p := ⟨w3.heap.size, 1, none⟩) (v := .int .i64 Y) (by first | ((repeat' first | with_reducible assumption | with_reducible refine cellA ?_ | with_reducible refine cellD ?_); done) | (simp [go_sem]; done) | (simp [go_sem, *]; done))
  have y4_p := World.block_lt_of_cell? _ _ k4_p_0
  simp only [] at y4_p
  clear k3_s_0 k3_s_1 y3_s k3_t_0 k3_t_1 y3_t k3_n_0 k3_n_1 k3_n_2 k3_n_3 y3_n
  go_wp2_with fail
  refine (has_is HA.out _).mono ?_
  rintro e w5 ⟨rfl, hw5⟩
  have k5_s_0 := kept hw5 (cellA k4_s_0)
  have k5_s_1 := kept hw5 (cellA k4_s_1)
  have y5_s := World.block_lt_of_cell? _ _ k5_s_0
  simp only [] at y5_s
  have k5_n_0 := kept hw5 (cellA k4_n_0)
  have k5_n_1 := kept hw5 (cellA k4_n_1)
  have k5_n_2 := kept hw5 (cellA k4_n_2)
  have k5_n_3 := kept hw5 (cellA k4_n_3)
  have y5_n := World.block_lt_of_cell? _ _ k5_n_0
  simp only [] at y5_n
  have k5_p_0 := kept hw5 (cellA k4_p_0)
  have k5_p_1 := kept hw5 (cellA k4_p_1)
  have y5_p := World.block_lt_of_cell? _ _ k5_p_0
  simp only [] at y5_p
  have k5_q_0 := kept hw5 (p := ⟨w4.heap.size, 0, none⟩) (v := .int .i64 Z) (by first | ((repeat' first | with_reducible assumption | with_reducible refine cellA ?_ | with_reducible refine cellD ?_); done) | (simp [go_sem]; done) | (simp [go_sem, *]; done))
  have k5_q_1 := kept hw5 (p := ⟨w4.heap.size, 1, none⟩) (v := .int .i64 U) (by first | ((repeat' first | with_reducible assumption | with_reducible refine cellA ?_ | with_reducible refine cellD ?_); done) | (simp [go_sem]; done) | (simp [go_sem, *]; done))
  have y5_q := World.block_lt_of_cell? _ _ k5_q_0
  simp only [] at y5_q
  clear k4_s_0 k4_s_1 y4_s k4_t_0 k4_t_1 y4_t k4_n_0 k4_n_1 k4_n_2 k4_n_3 y4_n k4_p_0 k4_p_1 y4_p
  go_wp2_with fail
  refine (has_is HS.out _).mono ?_
  rintro e w6 ⟨rfl, hw6⟩
  have k6_s_0 := kept hw6 k5_s_0
  have k6_s_1 := kept hw6 k5_s_1
  have y6_s := World.block_lt_of_cell? _ _ k6_s_0
  simp only [] at y6_s
  have k6_n_0 := kept hw6 k5_n_0
  have k6_n_1 := kept hw6 k5_n_1
  have k6_n_2 := kept hw6 k5_n_2
  have k6_n_3 := kept hw6 k5_n_3
  have y6_n := World.block_lt_of_cell? _ _ k6_n_0
  simp only [] at y6_n
  have k6_q_0 := kept hw6 k5_q_0
  have k6_q_1 := kept hw6 k5_q_1
  have y6_q := World.block_lt_of_cell? _ _ k6_q_0
  simp only [] at y6_q
  clear k5_s_0 k5_s_1 y5_s k5_n_0 k5_n_1 k5_n_2 k5_n_3 y5_n k5_p_0 k5_p_1 y5_p k5_q_0 k5_q_1 y5_q
  go_wp2_with fail
  refine (part_is E3.out _).mono ?_
  rintro e w7 ⟨rfl, hw7⟩
  have k7_s_0 := kept hw7 k6_s_0
  have k7_s_1 := kept hw7 k6_s_1
  have y7_s := World.block_lt_of_cell? _ _ k7_s_0
  simp only [] at y7_s
  have k7_n_0 := kept hw7 k6_n_0
  have k7_n_1 := kept hw7 k6_n_1
  have k7_n_2 := kept hw7 k6_n_2
  have k7_n_3 := kept hw7 k6_n_3
  have y7_n := World.block_lt_of_cell? _ _ k7_n_0
  simp only [] at y7_n
  clear k6_s_0 k6_s_1 y6_s k6_n_0 k6_n_1 k6_n_2 k6_n_3 y6_n k6_q_0 k6_q_1 y6_q
  go_wp2_with fail
  refine (awake_any _).mono ?_
  rintro e w8 ⟨rfl, hw8⟩
  go_wp2
  go_ret
  exact ⟨rfl, by (repeat' first | exact Below.refl _ _ | with_reducible refine Below.drew ?_ | with_reducible refine Below.drewN ?_ _ | with_reducible refine Below.alloc' ?_ _ | with_reducible refine Below.setCell ?_ (by first | exact Nat.le_refl _ | (simp; done) | (simp; omega)) _ | with_reducible refine Below.after ?_ ‹_›)⟩

set_option maxRecDepth 100000 in
set_option maxHeartbeats 8000000 in
theorem sound_111 (a b c d x y n m : Int) (w : World) {X Y e Z U f P Q g : Int} (h1 : hasB a b x = true) (h2 : hasB c d y = true) (e1 : addV a b c d = (X, Y, e)) (e2 : subV a b c d = (Z, U, f)) (e3 : partV a b n m = (P, Q, g))
    (hA : e = 0) (hA1 : hasB X Y (x + y) = true) (hS : f = 0) (hS1 : hasB Z U (x - y) = true)
    (hP : g = 0) (hm : 1 ≤ m ∧ m ≤ 1073741824) (hn : 0 ≤ n ∧ n ≤ m) (hx : -70368744177664 ≤ x ∧ x ≤ 70368744177664) (hP1 : hasB P Q (downV x n m) = true) (hP2 : hasB P Q (upV x n m) = true) :
    Calls Try.prog 9 #[.agg #[.int .i64 a, .int .i64 b], .agg #[.int .i64 c, .int .i64 d], .agg #[.int .i64 x, .int .i64 y, .int .i64 n, .int .i64 m]] w fun e w' => e = .returned (.bool true) ∧ Below w.heap.size w w' := by
  have b1 : -70368744177664 ≤ x ∧ x ≤ 70368744177664 := by have := has_out h1; have := vB_true.1 this.1; omega
  have b2 : -70368744177664 ≤ y ∧ y ≤ 70368744177664 := by have := has_out h2; have := vB_true.1 this.1; omega
  have H1 := Lib.hid h1
  have H2 := Lib.hid h2
  have E1 := Lib.hid e1
  have E2 := Lib.hid e2
  have E3 := Lib.hid e3
  clear h1 h2 e1 e2 e3
  subst hA
  have HA := Lib.hid hA1
  clear hA1
  subst hS
  have HS := Lib.hid hS1
  clear hS1
  subst hP
  have HP1 := Lib.hid hP1
  have HP2 := Lib.hid hP2
  clear hP1 hP2
  go_enter Try.func9, Try.ntmps9
  go_wp2_with fail
  go_quiet (fail)
  go_wp2_with fail
  refine (has_is H1.out _).mono ?_
  rintro e w1 ⟨rfl, hw1⟩
  have k1_s_0 := kept hw1 (p := ⟨w.heap.size, 0, none⟩) (v := .int .i64 a) (by first | ((repeat' first | with_reducible assumption | with_reducible refine cellA ?_ | with_reducible refine cellD ?_); done) | (simp [go_sem]; done) | (simp [go_sem, *]; done))
  have k1_s_1 := kept hw1 (p := ⟨w.heap.size, 1, none⟩) (v := .int .i64 b) (by first | ((repeat' first | with_reducible assumption | with_reducible refine cellA ?_ | with_reducible refine cellD ?_); done) | (simp [go_sem]; done) | (simp [go_sem, *]; done))
  have y1_s := World.block_lt_of_cell? _ _ k1_s_0
  simp only [] at y1_s
  have k1_t_0 := kept hw1 (p := ⟨w.heap.size + 1, 0, none⟩) (v := .int .i64 c) (by first | ((repeat' first | with_reducible assumption | with_reducible refine cellA ?_ | with_reducible refine cellD ?_); done) | (simp [go_sem]; done) | (simp [go_sem, *]; done))
  have k1_t_1 := kept hw1 (p := ⟨w.heap.size + 1, 1, none⟩) (v := .int .i64 d) (by first | ((repeat' first | with_reducible assumption | with_reducible refine cellA ?_ | with_reducible refine cellD ?_); done) | (simp [go_sem]; done) | (simp [go_sem, *]; done))
  have y1_t := World.block_lt_of_cell? _ _ k1_t_0
  simp only [] at y1_t
  have k1_n_0 := kept hw1 (p := ⟨w.heap.size + 1 + 1, 0, none⟩) (v := .int .i64 x) (by first | ((repeat' first | with_reducible assumption | with_reducible refine cellA ?_ | with_reducible refine cellD ?_); done) | (simp [go_sem]; done) | (simp [go_sem, *]; done))
  have k1_n_1 := kept hw1 (p := ⟨w.heap.size + 1 + 1, 1, none⟩) (v := .int .i64 y) (by first | ((repeat' first | with_reducible assumption | with_reducible refine cellA ?_ | with_reducible refine cellD ?_); done) | (simp [go_sem]; done) | (simp [go_sem, *]; done))
  have k1_n_2 := kept hw1 (p := ⟨w.heap.size + 1 + 1, 2, none⟩) (v := .int .i64 n) (by first | ((repeat' first | with_reducible assumption | with_reducible refine cellA ?_ | with_reducible refine cellD ?_); done) | (simp [go_sem]; done) | (simp [go_sem, *]; done))
  have k1_n_3 := kept hw1 (p := ⟨w.heap.size + 1 + 1, 3, none⟩) (v := .int .i64 m) (by first | ((repeat' first | with_reducible assumption | with_reducible refine cellA ?_ | with_reducible refine cellD ?_); done) | (simp [go_sem]; done) | (simp [go_sem, *]; done))
  have y1_n := World.block_lt_of_cell? _ _ k1_n_0
  simp only [] at y1_n
  go_wp2_with fail
  refine (has_is H2.out _).mono ?_
  rintro e w2 ⟨rfl, hw2⟩
  have k2_s_0 := kept hw2 k1_s_0
  have k2_s_1 := kept hw2 k1_s_1
  have y2_s := World.block_lt_of_cell? _ _ k2_s_0
  simp only [] at y2_s
  have k2_t_0 := kept hw2 k1_t_0
  have k2_t_1 := kept hw2 k1_t_1
  have y2_t := World.block_lt_of_cell? _ _ k2_t_0
  simp only [] at y2_t
  have k2_n_0 := kept hw2 k1_n_0
  have k2_n_1 := kept hw2 k1_n_1
  have k2_n_2 := kept hw2 k1_n_2
  have k2_n_3 := kept hw2 k1_n_3
  have y2_n := World.block_lt_of_cell? _ _ k2_n_0
  simp only [] at y2_n
  clear k1_s_0 k1_s_1 y1_s k1_t_0 k1_t_1 y1_t k1_n_0 k1_n_1 k1_n_2 k1_n_3 y1_n
  go_wp2_with fail
  refine (add_is E1.out _).mono ?_
  rintro e w3 ⟨rfl, hw3⟩
  have k3_s_0 := kept hw3 k2_s_0
  have k3_s_1 := kept hw3 k2_s_1
  have y3_s := World.block_lt_of_cell? _ _ k3_s_0
  simp only [] at y3_s
  have k3_t_0 := kept hw3 k2_t_0
  have k3_t_1 := kept hw3 k2_t_1
  have y3_t := World.block_lt_of_cell? _ _ k3_t_0
  simp only [] at y3_t
  have k3_n_0 := kept hw3 k2_n_0
  have k3_n_1 := kept hw3 k2_n_1
  have k3_n_2 := kept hw3 k2_n_2
  have k3_n_3 := kept hw3 k2_n_3
  have y3_n := World.block_lt_of_cell? _ _ k3_n_0
  simp only [] at y3_n
  clear k2_s_0 k2_s_1 y2_s k2_t_0 k2_t_1 y2_t k2_n_0 k2_n_1 k2_n_2 k2_n_3 y2_n
  go_wp2_with fail
  refine (sub_is E2.out _).mono ?_
  rintro e w4 ⟨rfl, hw4⟩
  have k4_s_0 := kept hw4 (cellA k3_s_0)
  have k4_s_1 := kept hw4 (cellA k3_s_1)
  have y4_s := World.block_lt_of_cell? _ _ k4_s_0
  simp only [] at y4_s
  have k4_t_0 := kept hw4 (cellA k3_t_0)
  have k4_t_1 := kept hw4 (cellA k3_t_1)
  have y4_t := World.block_lt_of_cell? _ _ k4_t_0
  simp only [] at y4_t
  have k4_n_0 := kept hw4 (cellA k3_n_0)
  have k4_n_1 := kept hw4 (cellA k3_n_1)
  have k4_n_2 := kept hw4 (cellA k3_n_2)
  have k4_n_3 := kept hw4 (cellA k3_n_3)
  have y4_n := World.block_lt_of_cell? _ _ k4_n_0
  simp only [] at y4_n
  have k4_p_0 := kept hw4 (p := ⟨w3.heap.size, 0, none⟩) (v := .int .i64 X) (by first | ((repeat' first | with_reducible assumption | with_reducible refine cellA ?_ | with_reducible refine cellD ?_); done) | (simp [go_sem]; done) | (simp [go_sem, *]; done))
  have k4_p_1 := kept hw4 (p := ⟨w3.heap.size, 1, none⟩) (v := .int .i64 Y) (by first | ((repeat' first | with_reducible assumption | with_reducible refine cellA ?_ | with_reducible refine cellD ?_); done) | (simp [go_sem]; done) | (simp [go_sem, *]; done))
  have y4_p := World.block_lt_of_cell? _ _ k4_p_0
  simp only [] at y4_p
  clear k3_s_0 k3_s_1 y3_s k3_t_0 k3_t_1 y3_t k3_n_0 k3_n_1 k3_n_2 k3_n_3 y3_n
  go_wp2_with fail
  refine (has_is HA.out _).mono ?_
  rintro e w5 ⟨rfl, hw5⟩
  have k5_s_0 := kept hw5 (cellA k4_s_0)
  have k5_s_1 := kept hw5 (cellA k4_s_1)
  have y5_s := World.block_lt_of_cell? _ _ k5_s_0
  simp only [] at y5_s
  have k5_n_0 := kept hw5 (cellA k4_n_0)
  have k5_n_1 := kept hw5 (cellA k4_n_1)
  have k5_n_2 := kept hw5 (cellA k4_n_2)
  have k5_n_3 := kept hw5 (cellA k4_n_3)
  have y5_n := World.block_lt_of_cell? _ _ k5_n_0
  simp only [] at y5_n
  have k5_p_0 := kept hw5 (cellA k4_p_0)
  have k5_p_1 := kept hw5 (cellA k4_p_1)
  have y5_p := World.block_lt_of_cell? _ _ k5_p_0
  simp only [] at y5_p
  have k5_q_0 := kept hw5 (p := ⟨w4.heap.size, 0, none⟩) (v := .int .i64 Z) (by first | ((repeat' first | with_reducible assumption | with_reducible refine cellA ?_ | with_reducible refine cellD ?_); done) | (simp [go_sem]; done) | (simp [go_sem, *]; done))
  have k5_q_1 := kept hw5 (p := ⟨w4.heap.size, 1, none⟩) (v := .int .i64 U) (by first | ((repeat' first | with_reducible assumption | with_reducible refine cellA ?_ | with_reducible refine cellD ?_); done) | (simp [go_sem]; done) | (simp [go_sem, *]; done))
  have y5_q := World.block_lt_of_cell? _ _ k5_q_0
  simp only [] at y5_q
  clear k4_s_0 k4_s_1 y4_s k4_t_0 k4_t_1 y4_t k4_n_0 k4_n_1 k4_n_2 k4_n_3 y4_n k4_p_0 k4_p_1 y4_p
  go_wp2_with fail
  refine (has_is HS.out _).mono ?_
  rintro e w6 ⟨rfl, hw6⟩
  have k6_s_0 := kept hw6 k5_s_0
  have k6_s_1 := kept hw6 k5_s_1
  have y6_s := World.block_lt_of_cell? _ _ k6_s_0
  simp only [] at y6_s
  have k6_n_0 := kept hw6 k5_n_0
  have k6_n_1 := kept hw6 k5_n_1
  have k6_n_2 := kept hw6 k5_n_2
  have k6_n_3 := kept hw6 k5_n_3
  have y6_n := World.block_lt_of_cell? _ _ k6_n_0
  simp only [] at y6_n
  have k6_q_0 := kept hw6 k5_q_0
  have k6_q_1 := kept hw6 k5_q_1
  have y6_q := World.block_lt_of_cell? _ _ k6_q_0
  simp only [] at y6_q
  clear k5_s_0 k5_s_1 y5_s k5_n_0 k5_n_1 k5_n_2 k5_n_3 y5_n k5_p_0 k5_p_1 y5_p k5_q_0 k5_q_1 y5_q
  go_wp2_with fail
  refine (part_is E3.out _).mono ?_
  rintro e w7 ⟨rfl, hw7⟩
  have k7_s_0 := kept hw7 k6_s_0
  have k7_s_1 := kept hw7 k6_s_1
  have y7_s := World.block_lt_of_cell? _ _ k7_s_0
  simp only [] at y7_s
  have k7_n_0 := kept hw7 k6_n_0
  have k7_n_1 := kept hw7 k6_n_1
  have k7_n_2 := kept hw7 k6_n_2
  have k7_n_3 := kept hw7 k6_n_3
  have y7_n := World.block_lt_of_cell? _ _ k7_n_0
  simp only [] at y7_n
  clear k6_s_0 k6_s_1 y6_s k6_n_0 k6_n_1 k6_n_2 k6_n_3 y6_n k6_q_0 k6_q_1 y6_q
  go_wp2_with fail
  go_region_held3 (fun w' => w'.cell? ⟨w7.heap.size, 0, none⟩ = some (.int .i64 P) ∧ w'.cell? ⟨w7.heap.size, 1, none⟩ = some (.int .i64 Q) ∧ w'.cell? ⟨w.heap.size + 1 + 1, 2, none⟩ = some (.int .i64 n) ∧ w'.cell? ⟨w.heap.size + 1 + 1, 3, none⟩ = some (.int .i64 m))
    (first | (go_split_ands; refine ⟨?_, ?_, ?_, ?_⟩ <;> (refine kept ‹Below _ _ _› ?_; assumption)) | (go_split_ands; exact ⟨‹_›, ‹_›, ‹_›, ‹_›⟩) | go_keep)
    (first
      | (go_at_call 32; refine (rDown_any _ _ _ _ hx hm hn).mono ?_; rintro e w9 ⟨rfl, rfl⟩)
      | (go_at_call 33; refine (rUp_any _ _ _ _ hx hm hn).mono ?_; rintro e w9 ⟨rfl, rfl⟩)
      | (go_at_call_of 15 (Value.int IntKind.i64 (downV x n m)); refine (has_is HP1.out _).mono ?_; rintro e w10 ⟨rfl, hb10⟩)
      | (go_at_call_of 15 (Value.int IntKind.i64 (upV x n m)); refine (has_is HP2.out _).mono ?_; rintro e w11 ⟨rfl, hb11⟩)
      | (go_at_call 17; refine (awake_any _).mono ?_; rintro e w12 ⟨rfl, hb12⟩))
  all_goals
    go_wp2
    go_ret
    exact ⟨rfl, by (repeat' first | exact Below.refl _ _ | with_reducible refine Below.drew ?_ | with_reducible refine Below.drewN ?_ _ | with_reducible refine Below.alloc' ?_ _ | with_reducible refine Below.setCell ?_ (by first | exact Nat.le_refl _ | (simp; done) | (simp; omega)) _ | with_reducible refine Below.after ?_ ‹_›)⟩

theorem spanSound_walk (a b c d x y n m : Int) (w : World) (_h0 : (Lit.int .i64 a).wf = true) (_h1 : (Lit.int .i64 b).wf = true) (_h2 : (Lit.int .i64 c).wf = true) (_h3 : (Lit.int .i64 d).wf = true) (_h4 : (Lit.int .i64 x).wf = true) (_h5 : (Lit.int .i64 y).wf = true) (_h6 : (Lit.int .i64 n).wf = true) (_h7 : (Lit.int .i64 m).wf = true) :
    Calls Try.prog 9 #[.agg #[.int .i64 a, .int .i64 b], .agg #[.int .i64 c, .int .i64 d], .agg #[.int .i64 x, .int .i64 y, .int .i64 n, .int .i64 m]] w fun e w' => e = .returned (.bool true) ∧ Below w.heap.size w w' := by
  cases h1 : hasB a b x
  · exact sound_1 a b c d x y n m w h1
  · cases h2 : hasB c d y
    · exact sound_2 a b c d x y n m w h1 h2
    · obtain ⟨⟨X, Y, e⟩, e1⟩ : ∃ r, addV a b c d = r := ⟨_, rfl⟩
      obtain ⟨⟨Z, U, f⟩, e2⟩ : ∃ r, subV a b c d = r := ⟨_, rfl⟩
      obtain ⟨⟨P, Q, g⟩, e3⟩ : ∃ r, partV a b n m = r := ⟨_, rfl⟩
      rcases add_has e1 h1 h2 with hA | ⟨hA, hA1⟩ <;> rcases sub_has e2 h1 h2 with hS | ⟨hS, hS1⟩ <;> rcases part_has e3 h1 with ⟨hP, hP1⟩ | ⟨hP, hm, hn, hx, hP1, hP2⟩
      · exact sound_000 a b c d x y n m w h1 h2 e1 e2 e3 hA hS hP hP1
      · exact sound_001 a b c d x y n m w h1 h2 e1 e2 e3 hA hS hP hm hn hx hP1 hP2
      · exact sound_010 a b c d x y n m w h1 h2 e1 e2 e3 hA hS hS1 hP hP1
      · exact sound_011 a b c d x y n m w h1 h2 e1 e2 e3 hA hS hS1 hP hm hn hx hP1 hP2
      · exact sound_100 a b c d x y n m w h1 h2 e1 e2 e3 hA hA1 hS hP hP1
      · exact sound_101 a b c d x y n m w h1 h2 e1 e2 e3 hA hA1 hS hP hm hn hx hP1 hP2
      · exact sound_110 a b c d x y n m w h1 h2 e1 e2 e3 hA hA1 hS hS1 hP hP1
      · exact sound_111 a b c d x y n m w h1 h2 e1 e2 e3 hA hA1 hS hS1 hP hm hn hx hP1 hP2
end Go.Proofs.Ytnehmkdcifgpnaa
