/-
  The closed example that every law of package span ends with: it returns true.
-/
import Derived.Test.YtnehmkdcifgpnaaSpanH
import Derived.Test.YtnehmkdcifgpnaaSpanG
namespace Go.Proofs.Ytnehmkdcifgpnaa
open Go.RowKit

theorem add_is {a b c d x y e : Int} (h : addV a b c d = (x, y, e)) (w : World) :
    Calls Try.prog 18 #[.agg #[.int .i64 a, .int .i64 b], .agg #[.int .i64 c, .int .i64 d]] w fun r w' => r = .returned (.tuple #[.agg #[.int .i64 x, .int .i64 y], .int .i64 e]) ∧ Below w.heap.size w w' := by
  have := add_any a b c d w
  rwa [h] at this
theorem sub_is {a b c d x y e : Int} (h : subV a b c d = (x, y, e)) (w : World) :
    Calls Try.prog 20 #[.agg #[.int .i64 a, .int .i64 b], .agg #[.int .i64 c, .int .i64 d]] w fun r w' => r = .returned (.tuple #[.agg #[.int .i64 x, .int .i64 y], .int .i64 e]) ∧ Below w.heap.size w w' := by
  have := sub_any a b c d w
  rwa [h] at this
theorem meet_is {a b c d x y e : Int} (h : meetV a b c d = (x, y, e)) (w : World) :
    Calls Try.prog 24 #[.agg #[.int .i64 a, .int .i64 b], .agg #[.int .i64 c, .int .i64 d]] w fun r w' => r = .returned (.tuple #[.agg #[.int .i64 x, .int .i64 y], .int .i64 e]) ∧ Below w.heap.size w w' := by
  have := meet_any a b c d w
  rwa [h] at this
theorem hull_is {a b c d x y e : Int} (h : hullV a b c d = (x, y, e)) (w : World) :
    Calls Try.prog 26 #[.agg #[.int .i64 a, .int .i64 b], .agg #[.int .i64 c, .int .i64 d]] w fun r w' => r = .returned (.tuple #[.agg #[.int .i64 x, .int .i64 y], .int .i64 e]) ∧ Below w.heap.size w w' := by
  have := hull_any a b c d w
  rwa [h] at this
theorem part_is {a b n d x y e : Int} (h : partV a b n d = (x, y, e)) (w : World) :
    Calls Try.prog 30 #[.agg #[.int .i64 a, .int .i64 b], .int .i64 n, .int .i64 d] w fun r w' => r = .returned (.tuple #[.agg #[.int .i64 x, .int .i64 y], .int .i64 e]) ∧ Below w.heap.size w w' := by
  have := part_any a b n d w
  rwa [h] at this
theorem widen_is {a b n x y e : Int} (h : widenV a b n = (x, y, e)) (w : World) :
    Calls Try.prog 28 #[.agg #[.int .i64 a, .int .i64 b], .int .i64 n] w fun r w' => r = .returned (.tuple #[.agg #[.int .i64 x, .int .i64 y], .int .i64 e]) ∧ Below w.heap.size w w' := by
  have := widen_any a b n w
  rwa [h] at this
theorem Spans_three (w : World) (x y z u p q : Int) (t : TypeId) : Spans (w.alloc (.cells #[.int .i64 x, .int .i64 y, .int .i64 z, .int .i64 u, .int .i64 p, .int .i64 q] t)) (some ⟨w.heap.size, 0, none⟩) [(x, y), (z, u), (p, q)] := by
  intro _
  refine ⟨_, _, rfl, fun k hk => ?_⟩
  have : k = 0 ∨ k = 1 ∨ k = 2 := by simp at hk; omega
  rcases this with rfl | rfl | rfl <;> simp [go_sem]
theorem sum3_is {x y z u p q r s e : Int} (h : sumV [(x, y), (z, u), (p, q)] = (r, s, e)) (m : Nat) (w : World) (t : TypeId) (hm : m = w.heap.size) :
    Calls Try.prog 22 #[.slice (some ⟨m, 0, none⟩) 3 3] (w.alloc (.cells #[.int .i64 x, .int .i64 y, .int .i64 z, .int .i64 u, .int .i64 p, .int .i64 q] t)) fun a w' =>
      a = .returned (.tuple #[.agg #[.int .i64 r, .int .i64 s], .int .i64 e]) ∧ Below (w.alloc (.cells #[.int .i64 x, .int .i64 y, .int .i64 z, .int .i64 u, .int .i64 p, .int .i64 q] t)).heap.size (w.alloc (.cells #[.int .i64 x, .int .i64 y, .int .i64 z, .int .i64 u, .int .i64 p, .int .i64 q] t)) w' := by
  subst hm
  have := sum_any (some ⟨w.heap.size, 0, none⟩) [(x, y), (z, u), (p, q)] 3 3 (w.alloc (.cells #[.int .i64 x, .int .i64 y, .int .i64 z, .int .i64 u, .int .i64 p, .int .i64 q] t)) rfl (by omega) (Spans_three w x y z u p q t)
  rwa [h] at this
theorem valid_is {a b : Int} {r : Bool} (h : vB a b = r) (w : World) :
    Calls Try.prog 13 #[.agg #[.int .i64 a, .int .i64 b]] w fun e w' => e = .returned (.bool r) ∧ Below w.heap.size w w' := by
  have := valid_any a b w
  rwa [h] at this

set_option maxRecDepth 100000 in
set_option maxHeartbeats 8000000 in
theorem awake_any (w : World) :
    Calls Try.prog 17 #[] w fun e w' => e = .returned (.bool true) ∧ Below w.heap.size w w' := by
  go_enter Try.func17, Try.ntmps17
  go_wp2_with fail
  refine (add_is (a := 1) (b := 2) (c := 10) (d := 20) (x := 11) (y := 22) (e := 0) (by decide) _).mono ?_
  rintro e w1 ⟨rfl, hw1⟩
  go_wp2_with fail
  refine (sub_is (a := 1) (b := 2) (c := 10) (d := 20) (x := -19) (y := -8) (e := 0) (by decide) _).mono ?_
  rintro e w2 ⟨rfl, hw2⟩
  have k2_r1_0 := kept hw2 (p := ⟨w1.heap.size, 0, none⟩) (v := .int .i64 11) (by first | ((repeat' first | with_reducible assumption | with_reducible refine cellA ?_ | with_reducible refine cellD ?_); done) | (simp [go_sem]; done) | (simp [go_sem, *]; done))
  have k2_r1_1 := kept hw2 (p := ⟨w1.heap.size, 1, none⟩) (v := .int .i64 22) (by first | ((repeat' first | with_reducible assumption | with_reducible refine cellA ?_ | with_reducible refine cellD ?_); done) | (simp [go_sem]; done) | (simp [go_sem, *]; done))
  have y2_r1 := World.block_lt_of_cell? _ _ k2_r1_0
  simp only [] at y2_r1
  go_wp2_with fail
  refine (meet_is (a := 1) (b := 5) (c := 4) (d := 9) (x := 4) (y := 5) (e := 0) (by decide) _).mono ?_
  rintro e w3 ⟨rfl, hw3⟩
  have k3_r1_0 := kept hw3 (cellA k2_r1_0)
  have k3_r1_1 := kept hw3 (cellA k2_r1_1)
  have y3_r1 := World.block_lt_of_cell? _ _ k3_r1_0
  simp only [] at y3_r1
  have k3_r2_0 := kept hw3 (p := ⟨w2.heap.size, 0, none⟩) (v := .int .i64 (-19)) (by first | ((repeat' first | with_reducible assumption | with_reducible refine cellA ?_ | with_reducible refine cellD ?_); done) | (simp [go_sem]; done) | (simp [go_sem, *]; done))
  have k3_r2_1 := kept hw3 (p := ⟨w2.heap.size, 1, none⟩) (v := .int .i64 (-8)) (by first | ((repeat' first | with_reducible assumption | with_reducible refine cellA ?_ | with_reducible refine cellD ?_); done) | (simp [go_sem]; done) | (simp [go_sem, *]; done))
  have y3_r2 := World.block_lt_of_cell? _ _ k3_r2_0
  simp only [] at y3_r2
  clear k2_r1_0 k2_r1_1 y2_r1
  go_wp2_with fail
  refine (hull_is (a := 1) (b := 5) (c := 4) (d := 9) (x := 1) (y := 9) (e := 0) (by decide) _).mono ?_
  rintro e w4 ⟨rfl, hw4⟩
  have k4_r1_0 := kept hw4 (cellA k3_r1_0)
  have k4_r1_1 := kept hw4 (cellA k3_r1_1)
  have y4_r1 := World.block_lt_of_cell? _ _ k4_r1_0
  simp only [] at y4_r1
  have k4_r2_0 := kept hw4 (cellA k3_r2_0)
  have k4_r2_1 := kept hw4 (cellA k3_r2_1)
  have y4_r2 := World.block_lt_of_cell? _ _ k4_r2_0
  simp only [] at y4_r2
  have k4_r3_0 := kept hw4 (p := ⟨w3.heap.size, 0, none⟩) (v := .int .i64 4) (by first | ((repeat' first | with_reducible assumption | with_reducible refine cellA ?_ | with_reducible refine cellD ?_); done) | (simp [go_sem]; done) | (simp [go_sem, *]; done))
  have k4_r3_1 := kept hw4 (p := ⟨w3.heap.size, 1, none⟩) (v := .int .i64 5) (by first | ((repeat' first | with_reducible assumption | with_reducible refine cellA ?_ | with_reducible refine cellD ?_); done) | (simp [go_sem]; done) | (simp [go_sem, *]; done))
  have y4_r3 := World.block_lt_of_cell? _ _ k4_r3_0
  simp only [] at y4_r3
  clear k3_r1_0 k3_r1_1 y3_r1 k3_r2_0 k3_r2_1 y3_r2
  go_wp2_with fail
  refine (meet_is (a := 1) (b := 3) (c := 4) (d := 9) (x := 0) (y := 0) (e := 10) (by decide) _).mono ?_
  rintro e w5 ⟨rfl, hw5⟩
  have k5_r1_0 := kept hw5 (cellA k4_r1_0)
  have k5_r1_1 := kept hw5 (cellA k4_r1_1)
  have y5_r1 := World.block_lt_of_cell? _ _ k5_r1_0
  simp only [] at y5_r1
  have k5_r2_0 := kept hw5 (cellA k4_r2_0)
  have k5_r2_1 := kept hw5 (cellA k4_r2_1)
  have y5_r2 := World.block_lt_of_cell? _ _ k5_r2_0
  simp only [] at y5_r2
  have k5_r3_0 := kept hw5 (cellA k4_r3_0)
  have k5_r3_1 := kept hw5 (cellA k4_r3_1)
  have y5_r3 := World.block_lt_of_cell? _ _ k5_r3_0
  simp only [] at y5_r3
  have k5_r4_0 := kept hw5 (p := ⟨w4.heap.size, 0, none⟩) (v := .int .i64 1) (by first | ((repeat' first | with_reducible assumption | with_reducible refine cellA ?_ | with_reducible refine cellD ?_); done) | (simp [go_sem]; done) | (simp [go_sem, *]; done))
  have k5_r4_1 := kept hw5 (p := ⟨w4.heap.size, 1, none⟩) (v := .int .i64 9) (by first | ((repeat' first | with_reducible assumption | with_reducible refine cellA ?_ | with_reducible refine cellD ?_); done) | (simp [go_sem]; done) | (simp [go_sem, *]; done))
  have y5_r4 := World.block_lt_of_cell? _ _ k5_r4_0
  simp only [] at y5_r4
  clear k4_r1_0 k4_r1_1 y4_r1 k4_r2_0 k4_r2_1 y4_r2 k4_r3_0 k4_r3_1 y4_r3
  go_wp2_with fail
  refine (part_is (a := -10) (b := -1) (n := 1) (d := 3) (x := -4) (y := 0) (e := 0) (by decide) _).mono ?_
  rintro e w6 ⟨rfl, hw6⟩
  have k6_r1_0 := kept hw6 (cellA k5_r1_0)
  have k6_r1_1 := kept hw6 (cellA k5_r1_1)
  have y6_r1 := World.block_lt_of_cell? _ _ k6_r1_0
  simp only [] at y6_r1
  have k6_r2_0 := kept hw6 (cellA k5_r2_0)
  have k6_r2_1 := kept hw6 (cellA k5_r2_1)
  have y6_r2 := World.block_lt_of_cell? _ _ k6_r2_0
  simp only [] at y6_r2
  have k6_r3_0 := kept hw6 (cellA k5_r3_0)
  have k6_r3_1 := kept hw6 (cellA k5_r3_1)
  have y6_r3 := World.block_lt_of_cell? _ _ k6_r3_0
  simp only [] at y6_r3
  have k6_r4_0 := kept hw6 (cellA k5_r4_0)
  have k6_r4_1 := kept hw6 (cellA k5_r4_1)
  have y6_r4 := World.block_lt_of_cell? _ _ k6_r4_0
  simp only [] at y6_r4
  clear k5_r1_0 k5_r1_1 y5_r1 k5_r2_0 k5_r2_1 y5_r2 k5_r3_0 k5_r3_1 y5_r3 k5_r4_0 k5_r4_1 y5_r4
  go_wp2_with fail
  refine (widen_is (a := 4) (b := 5) (n := 2) (x := 2) (y := 7) (e := 0) (by decide) _).mono ?_
  rintro e w7 ⟨rfl, hw7⟩
  have k7_r1_0 := kept hw7 (cellA k6_r1_0)
  have k7_r1_1 := kept hw7 (cellA k6_r1_1)
  have y7_r1 := World.block_lt_of_cell? _ _ k7_r1_0
  simp only [] at y7_r1
  have k7_r2_0 := kept hw7 (cellA k6_r2_0)
  have k7_r2_1 := kept hw7 (cellA k6_r2_1)
  have y7_r2 := World.block_lt_of_cell? _ _ k7_r2_0
  simp only [] at y7_r2
  have k7_r3_0 := kept hw7 (cellA k6_r3_0)
  have k7_r3_1 := kept hw7 (cellA k6_r3_1)
  have y7_r3 := World.block_lt_of_cell? _ _ k7_r3_0
  simp only [] at y7_r3
  have k7_r4_0 := kept hw7 (cellA k6_r4_0)
  have k7_r4_1 := kept hw7 (cellA k6_r4_1)
  have y7_r4 := World.block_lt_of_cell? _ _ k7_r4_0
  simp only [] at y7_r4
  have k7_r6_0 := kept hw7 (p := ⟨w6.heap.size, 0, none⟩) (v := .int .i64 (-4)) (by first | ((repeat' first | with_reducible assumption | with_reducible refine cellA ?_ | with_reducible refine cellD ?_); done) | (simp [go_sem]; done) | (simp [go_sem, *]; done))
  have k7_r6_1 := kept hw7 (p := ⟨w6.heap.size, 1, none⟩) (v := .int .i64 0) (by first | ((repeat' first | with_reducible assumption | with_reducible refine cellA ?_ | with_reducible refine cellD ?_); done) | (simp [go_sem]; done) | (simp [go_sem, *]; done))
  have y7_r6 := World.block_lt_of_cell? _ _ k7_r6_0
  simp only [] at y7_r6
  clear k6_r1_0 k6_r1_1 y6_r1 k6_r2_0 k6_r2_1 y6_r2 k6_r3_0 k6_r3_1 y6_r3 k6_r4_0 k6_r4_1 y6_r4
  go_wp2_with fail
  refine (sum3_is (x := 1) (y := 2) (z := 3) (u := 4) (p := -1) (q := 0) (r := 3) (s := 6) (e := 0) (by decide) _ _ _ (by simp)).mono ?_
  rintro e w8 ⟨rfl, hw8⟩
  have k8_r1_0 := kept hw8 (cellA (cellA k7_r1_0))
  have k8_r1_1 := kept hw8 (cellA (cellA k7_r1_1))
  have y8_r1 := World.block_lt_of_cell? _ _ k8_r1_0
  simp only [] at y8_r1
  have k8_r2_0 := kept hw8 (cellA (cellA k7_r2_0))
  have k8_r2_1 := kept hw8 (cellA (cellA k7_r2_1))
  have y8_r2 := World.block_lt_of_cell? _ _ k8_r2_0
  simp only [] at y8_r2
  have k8_r3_0 := kept hw8 (cellA (cellA k7_r3_0))
  have k8_r3_1 := kept hw8 (cellA (cellA k7_r3_1))
  have y8_r3 := World.block_lt_of_cell? _ _ k8_r3_0
  simp only [] at y8_r3
  have k8_r4_0 := kept hw8 (cellA (cellA k7_r4_0))
  have k8_r4_1 := kept hw8 (cellA (cellA k7_r4_1))
  have y8_r4 := World.block_lt_of_cell? _ _ k8_r4_0
  simp only [] at y8_r4
  have k8_r6_0 := kept hw8 (cellA (cellA k7_r6_0))
  have k8_r6_1 := kept hw8 (cellA (cellA k7_r6_1))
  have y8_r6 := World.block_lt_of_cell? _ _ k8_r6_0
  simp only [] at y8_r6
  have k8_r7_0 := kept hw8 (p := ⟨w7.heap.size, 0, none⟩) (v := .int .i64 2) (by first | ((repeat' first | with_reducible assumption | with_reducible refine cellA ?_ | with_reducible refine cellD ?_); done) | (simp [go_sem]; done) | (simp [go_sem, *]; done))
  have k8_r7_1 := kept hw8 (p := ⟨w7.heap.size, 1, none⟩) (v := .int .i64 7) (by first | ((repeat' first | with_reducible assumption | with_reducible refine cellA ?_ | with_reducible refine cellD ?_); done) | (simp [go_sem]; done) | (simp [go_sem, *]; done))
  have y8_r7 := World.block_lt_of_cell? _ _ k8_r7_0
  simp only [] at y8_r7
  clear k7_r1_0 k7_r1_1 y7_r1 k7_r2_0 k7_r2_1 y7_r2 k7_r3_0 k7_r3_1 y7_r3 k7_r4_0 k7_r4_1 y7_r4 k7_r6_0 k7_r6_1 y7_r6
  go_wp2_with fail
  refine (valid_is (a := 11) (b := 22) (r := true) (by decide) _).mono ?_
  rintro e w9 ⟨rfl, hw9⟩
  have k9_r1_0 := kept hw9 (cellA k8_r1_0)
  have k9_r1_1 := kept hw9 (cellA k8_r1_1)
  have y9_r1 := World.block_lt_of_cell? _ _ k9_r1_0
  simp only [] at y9_r1
  have k9_r2_0 := kept hw9 (cellA k8_r2_0)
  have k9_r2_1 := kept hw9 (cellA k8_r2_1)
  have y9_r2 := World.block_lt_of_cell? _ _ k9_r2_0
  simp only [] at y9_r2
  have k9_r3_0 := kept hw9 (cellA k8_r3_0)
  have k9_r3_1 := kept hw9 (cellA k8_r3_1)
  have y9_r3 := World.block_lt_of_cell? _ _ k9_r3_0
  simp only [] at y9_r3
  have k9_r4_0 := kept hw9 (cellA k8_r4_0)
  have k9_r4_1 := kept hw9 (cellA k8_r4_1)
  have y9_r4 := World.block_lt_of_cell? _ _ k9_r4_0
  simp only [] at y9_r4
  have k9_r6_0 := kept hw9 (cellA k8_r6_0)
  have k9_r6_1 := kept hw9 (cellA k8_r6_1)
  have y9_r6 := World.block_lt_of_cell? _ _ k9_r6_0
  simp only [] at y9_r6
  have k9_r7_0 := kept hw9 (cellA k8_r7_0)
  have k9_r7_1 := kept hw9 (cellA k8_r7_1)
  have y9_r7 := World.block_lt_of_cell? _ _ k9_r7_0
  simp only [] at y9_r7
  have k9_r8_0 := kept hw9 (p := ⟨w8.heap.size, 0, none⟩) (v := .int .i64 3) (by first | ((repeat' first | with_reducible assumption | with_reducible refine cellA ?_ | with_reducible refine cellD ?_); done) | (simp [go_sem]; done) | (simp [go_sem, *]; done))
  have k9_r8_1 := kept hw9 (p := ⟨w8.heap.size, 1, none⟩) (v := .int .i64 6) (by first | ((repeat' first | with_reducible assumption | with_reducible refine cellA ?_ | with_reducible refine cellD ?_); done) | (simp [go_sem]; done) | (simp [go_sem, *]; done))
  have y9_r8 := World.block_lt_of_cell? _ _ k9_r8_0
  simp only [] at y9_r8
  clear k8_r1_0 k8_r1_1 y8_r1 k8_r2_0 k8_r2_1 y8_r2 k8_r3_0 k8_r3_1 y8_r3 k8_r4_0 k8_r4_1 y8_r4 k8_r6_0 k8_r6_1 y8_r6 k8_r7_0 k8_r7_1 y8_r7
  go_wp2_with fail
  refine (has_is (a := 11) (b := 22) (x := 22) (r := true) (by decide) _).mono ?_
  rintro e w10 ⟨rfl, hw10⟩
  have k10_r1_0 := kept hw10 k9_r1_0
  have k10_r1_1 := kept hw10 k9_r1_1
  have y10_r1 := World.block_lt_of_cell? _ _ k10_r1_0
  simp only [] at y10_r1
  clear k9_r1_0 k9_r1_1 y9_r1 k9_r2_0 k9_r2_1 y9_r2 k9_r3_0 k9_r3_1 y9_r3 k9_r4_0 k9_r4_1 y9_r4 k9_r6_0 k9_r6_1 y9_r6 k9_r7_0 k9_r7_1 y9_r7 k9_r8_0 k9_r8_1 y9_r8
  go_wp2_with fail
  refine (has_is (a := 11) (b := 22) (x := 23) (r := false) (by decide) _).mono ?_
  rintro e w11 ⟨rfl, hw11⟩
  have k11_r1_0 := kept hw11 k10_r1_0
  have k11_r1_1 := kept hw11 k10_r1_1
  have y11_r1 := World.block_lt_of_cell? _ _ k11_r1_0
  simp only [] at y11_r1
  clear k10_r1_0 k10_r1_1 y10_r1
  go_wp2
  go_ret
  exact ⟨rfl, by (repeat' first | exact Below.refl _ _ | with_reducible refine Below.drew ?_ | with_reducible refine Below.drewN ?_ _ | with_reducible refine Below.alloc' ?_ _ | with_reducible refine Below.setCell ?_ (by first | exact Nat.le_refl _ | (simp; done) | (simp; omega)) _ | with_reducible refine Below.after ?_ ‹_›)⟩
end Go.Proofs.Ytnehmkdcifgpnaa
