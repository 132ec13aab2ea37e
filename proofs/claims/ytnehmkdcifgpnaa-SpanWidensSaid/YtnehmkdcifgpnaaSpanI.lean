/-
  Walks over the reference of package span: Meet.
-/
import Derived.Test.YtnehmkdcifgpnaaSpanF
namespace Go.Proofs.Ytnehmkdcifgpnaa
open Go.RowKit

set_option maxHeartbeats 1000000 in
theorem rMeet_any (a b c d : Int) (w : World) :
    Calls Try.prog 25 #[.agg #[.int .i64 a, .int .i64 b], .agg #[.int .i64 c, .int .i64 d]] w fun e w' => e = .returned (res (meetV a b c d)) ∧ Below w.heap.size w w' := by
  cases ha : vB a b
  · have e : meetV a b c d = (0, 0, 1) := by simp [meetV, ha]
    rw [e]
    have H := Lib.hid ha
    clear e ha
    go_enter Try.func25, Try.ntmps25
    go_wp2_with fail
    refine (rValid_no _ _ _ H.out).mono ?_
    rintro e w1 ⟨rfl, hb1⟩
    have q1 := kept hb1 (p := ⟨w.heap.size + 1 + 1, 0, none⟩) (v := .int .i64 0) (by first | ((repeat' first | with_reducible assumption | with_reducible refine cellA ?_ | with_reducible refine cellD ?_); done) | (simp [go_sem]; done) | (simp [go_sem, *]; done))
    have y1 := World.block_lt_of_cell? _ _ q1
    simp only [] at y1
    have z1 := keptF hb1 (p := ⟨w.heap.size + 1 + 1, 0, none⟩) (v := .int .i64 0) (by first | ((repeat' first | with_reducible assumption | with_reducible refine cellA ?_ | with_reducible refine cellD ?_); done) | (simp [go_sem]; done) | (simp [go_sem, *]; done)) (by first | ((repeat' first | with_reducible assumption | with_reducible refine frozA (v := .int .i64 0) (by first | ((repeat' first | with_reducible assumption | with_reducible refine cellA ?_ | with_reducible refine cellD ?_); done) | (simp [go_sem]; done) | (simp [go_sem, *]; done)) ?_ | with_reducible refine frozD ?_); done) | (simp [go_sem]; done) | (simp [go_sem, *]; done))
    have q2 := kept hb1 (p := ⟨w.heap.size + 1 + 1, 1, none⟩) (v := .int .i64 0) (by first | ((repeat' first | with_reducible assumption | with_reducible refine cellA ?_ | with_reducible refine cellD ?_); done) | (simp [go_sem]; done) | (simp [go_sem, *]; done))
    have z2 := keptF hb1 (p := ⟨w.heap.size + 1 + 1, 1, none⟩) (v := .int .i64 0) (by first | ((repeat' first | with_reducible assumption | with_reducible refine cellA ?_ | with_reducible refine cellD ?_); done) | (simp [go_sem]; done) | (simp [go_sem, *]; done)) (by first | ((repeat' first | with_reducible assumption | with_reducible refine frozA (v := .int .i64 0) (by first | ((repeat' first | with_reducible assumption | with_reducible refine cellA ?_ | with_reducible refine cellD ?_); done) | (simp [go_sem]; done) | (simp [go_sem, *]; done)) ?_ | with_reducible refine frozD ?_); done) | (simp [go_sem]; done) | (simp [go_sem, *]; done))
    have s1 := hb1.size
    go_wp2
    ((try simp only [Exit.inBlock, Exit.then]); refine bodyPost_ret (by simp [results, Try.results25, go_sem, *]; try rfl) rfl ?_)
    exact ⟨rfl, by (repeat' first | exact Below.refl _ _ | with_reducible refine Below.drew ?_ | with_reducible refine Below.drewN ?_ _ | with_reducible refine Below.alloc' ?_ _ | with_reducible refine Below.setCell ?_ (by first | exact Nat.le_refl _ | (simp; done) | (simp; omega)) _ | with_reducible refine Below.after ?_ ‹_›)⟩
  · have H := Lib.hid ha
    cases hc : vB c d
    · have e : meetV a b c d = (0, 0, 1) := by simp [meetV, hc]
      rw [e]
      have H2 := Lib.hid hc
      clear e ha hc
      go_enter Try.func25, Try.ntmps25
      go_wp2_with fail
      refine (rValid_yes _ _ _ H.out).mono ?_
      rintro e w1 ⟨rfl, hb1⟩
      have q3 := kept hb1 (p := ⟨w.heap.size + 1, 0, none⟩) (v := .int .i64 c) (by first | ((repeat' first | with_reducible assumption | with_reducible refine cellA ?_ | with_reducible refine cellD ?_); done) | (simp [go_sem]; done) | (simp [go_sem, *]; done))
      have y3 := World.block_lt_of_cell? _ _ q3
      simp only [] at y3
      have q4 := kept hb1 (p := ⟨w.heap.size + 1, 1, none⟩) (v := .int .i64 d) (by first | ((repeat' first | with_reducible assumption | with_reducible refine cellA ?_ | with_reducible refine cellD ?_); done) | (simp [go_sem]; done) | (simp [go_sem, *]; done))
      have q5 := kept hb1 (p := ⟨w.heap.size + 1 + 1, 0, none⟩) (v := .int .i64 0) (by first | ((repeat' first | with_reducible assumption | with_reducible refine cellA ?_ | with_reducible refine cellD ?_); done) | (simp [go_sem]; done) | (simp [go_sem, *]; done))
      have y5 := World.block_lt_of_cell? _ _ q5
      simp only [] at y5
      have z5 := keptF hb1 (p := ⟨w.heap.size + 1 + 1, 0, none⟩) (v := .int .i64 0) (by first | ((repeat' first | with_reducible assumption | with_reducible refine cellA ?_ | with_reducible refine cellD ?_); done) | (simp [go_sem]; done) | (simp [go_sem, *]; done)) (by first | ((repeat' first | with_reducible assumption | with_reducible refine frozA (v := .int .i64 0) (by first | ((repeat' first | with_reducible assumption | with_reducible refine cellA ?_ | with_reducible refine cellD ?_); done) | (simp [go_sem]; done) | (simp [go_sem, *]; done)) ?_ | with_reducible refine frozD ?_); done) | (simp [go_sem]; done) | (simp [go_sem, *]; done))
      have q6 := kept hb1 (p := ⟨w.heap.size + 1 + 1, 1, none⟩) (v := .int .i64 0) (by first | ((repeat' first | with_reducible assumption | with_reducible refine cellA ?_ | with_reducible refine cellD ?_); done) | (simp [go_sem]; done) | (simp [go_sem, *]; done))
      have z6 := keptF hb1 (p := ⟨w.heap.size + 1 + 1, 1, none⟩) (v := .int .i64 0) (by first | ((repeat' first | with_reducible assumption | with_reducible refine cellA ?_ | with_reducible refine cellD ?_); done) | (simp [go_sem]; done) | (simp [go_sem, *]; done)) (by first | ((repeat' first | with_reducible assumption | with_reducible refine frozA (v := .int .i64 0) (by first | ((repeat' first | with_reducible assumption | with_reducible refine cellA ?_ | with_reducible refine cellD ?_); done) | (simp [go_sem]; done) | (simp [go_sem, *]; done)) ?_ | with_reducible refine frozD ?_); done) | (simp [go_sem]; done) | (simp [go_sem, *]; done))
      have s1 := hb1.size
      simp at s1
      go_wp2_with fail
      refine (rValid_no _ _ _ H2.out).mono ?_
      rintro e w2 ⟨rfl, hb2⟩
      have q7 := kept hb2 (p := ⟨w.heap.size + 1 + 1, 0, none⟩) (v := .int .i64 0) (by first | ((repeat' first | with_reducible assumption | with_reducible refine cellA ?_ | with_reducible refine cellD ?_); done) | (simp [go_sem]; done) | (simp [go_sem, *]; done))
      have y7 := World.block_lt_of_cell? _ _ q7
      simp only [] at y7
      have z7 := keptF hb2 (p := ⟨w.heap.size + 1 + 1, 0, none⟩) (v := .int .i64 0) (by first | ((repeat' first | with_reducible assumption | with_reducible refine cellA ?_ | with_reducible refine cellD ?_); done) | (simp [go_sem]; done) | (simp [go_sem, *]; done)) (by first | ((repeat' first | with_reducible assumption | with_reducible refine frozA (v := .int .i64 0) (by first | ((repeat' first | with_reducible assumption | with_reducible refine cellA ?_ | with_reducible refine cellD ?_); done) | (simp [go_sem]; done) | (simp [go_sem, *]; done)) ?_ | with_reducible refine frozD ?_); done) | (simp [go_sem]; done) | (simp [go_sem, *]; done))
      have q8 := kept hb2 (p := ⟨w.heap.size + 1 + 1, 1, none⟩) (v := .int .i64 0) (by first | ((repeat' first | with_reducible assumption | with_reducible refine cellA ?_ | with_reducible refine cellD ?_); done) | (simp [go_sem]; done) | (simp [go_sem, *]; done))
      have z8 := keptF hb2 (p := ⟨w.heap.size + 1 + 1, 1, none⟩) (v := .int .i64 0) (by first | ((repeat' first | with_reducible assumption | with_reducible refine cellA ?_ | with_reducible refine cellD ?_); done) | (simp [go_sem]; done) | (simp [go_sem, *]; done)) (by first | ((repeat' first | with_reducible assumption | with_reducible refine frozA (v := .int .i64 0) (by first | ((repeat' first | with_reducible assumption | with_reducible refine cellA ?_ | with_reducible refine cellD ?_); done) | (simp [go_sem]; done) | (simp [go_sem, *]; done)) ?_ | with_reducible refine frozD ?_); done) | (simp [go_sem]; done) | (simp [go_sem, *]; done))
      have s2 := hb2.size
      go_wp2
      ((try simp only [Exit.inBlock, Exit.then]); refine bodyPost_ret (by simp [results, Try.results25, go_sem, *]; try rfl) rfl ?_)
      exact ⟨rfl, by (repeat' first | exact Below.refl _ _ | with_reducible refine Below.drew ?_ | with_reducible refine Below.drewN ?_ _ | with_reducible refine Below.alloc' ?_ _ | with_reducible refine Below.setCell ?_ (by first | exact Nat.le_refl _ | (simp; done) | (simp; omega)) _ | with_reducible refine Below.after ?_ ‹_›)⟩
    · have H2 := Lib.hid hc
      have e0 : (vB a b && vB c d) = true := by rw [ha, hc]; rfl
      clear ha hc
      have e1 : meetV a b c d = if min b d < max a c then (0, 0, 10) else (max a c, min b d, 0) := by unfold meetV; rw [if_pos e0]
      clear e0
      rcases Int.lt_or_le a c with m1 | m1 <;> rcases Int.lt_or_le d b with m2 | m2
      · rw [max_right_of m1, min_right_of m2] at e1
        by_cases hlt : d < c
        · rw [if_pos hlt] at e1
          rw [e1]
          clear e1
          go_enter Try.func25, Try.ntmps25
          go_wp2_with fail
          refine (rValid_yes _ _ _ H.out).mono ?_
          rintro e w1 ⟨rfl, hb1⟩
          have q9 := kept hb1 (p := ⟨w.heap.size, 0, none⟩) (v := .int .i64 a) (by first | ((repeat' first | with_reducible assumption | with_reducible refine cellA ?_ | with_reducible refine cellD ?_); done) | (simp [go_sem]; done) | (simp [go_sem, *]; done))
          have y9 := World.block_lt_of_cell? _ _ q9
          simp only [] at y9
          have q10 := kept hb1 (p := ⟨w.heap.size, 1, none⟩) (v := .int .i64 b) (by first | ((repeat' first | with_reducible assumption | with_reducible refine cellA ?_ | with_reducible refine cellD ?_); done) | (simp [go_sem]; done) | (simp [go_sem, *]; done))
          have q11 := kept hb1 (p := ⟨w.heap.size + 1, 0, none⟩) (v := .int .i64 c) (by first | ((repeat' first | with_reducible assumption | with_reducible refine cellA ?_ | with_reducible refine cellD ?_); done) | (simp [go_sem]; done) | (simp [go_sem, *]; done))
          have y11 := World.block_lt_of_cell? _ _ q11
          simp only [] at y11
          have q12 := kept hb1 (p := ⟨w.heap.size + 1, 1, none⟩) (v := .int .i64 d) (by first | ((repeat' first | with_reducible assumption | with_reducible refine cellA ?_ | with_reducible refine cellD ?_); done) | (simp [go_sem]; done) | (simp [go_sem, *]; done))
          have q13 := kept hb1 (p := ⟨w.heap.size + 1 + 1, 0, none⟩) (v := .int .i64 0) (by first | ((repeat' first | with_reducible assumption | with_reducible refine cellA ?_ | with_reducible refine cellD ?_); done) | (simp [go_sem]; done) | (simp [go_sem, *]; done))
          have y13 := World.block_lt_of_cell? _ _ q13
          simp only [] at y13
          have z13 := keptF hb1 (p := ⟨w.heap.size + 1 + 1, 0, none⟩) (v := .int .i64 0) (by first | ((repeat' first | with_reducible assumption | with_reducible refine cellA ?_ | with_reducible refine cellD ?_); done) | (simp [go_sem]; done) | (simp [go_sem, *]; done)) (by first | ((repeat' first | with_reducible assumption | with_reducible refine frozA (v := .int .i64 0) (by first | ((repeat' first | with_reducible assumption | with_reducible refine cellA ?_ | with_reducible refine cellD ?_); done) | (simp [go_sem]; done) | (simp [go_sem, *]; done)) ?_ | with_reducible refine frozD ?_); done) | (simp [go_sem]; done) | (simp [go_sem, *]; done))
          have q14 := kept hb1 (p := ⟨w.heap.size + 1 + 1, 1, none⟩) (v := .int .i64 0) (by first | ((repeat' first | with_reducible assumption | with_reducible refine cellA ?_ | with_reducible refine cellD ?_); done) | (simp [go_sem]; done) | (simp [go_sem, *]; done))
          have z14 := keptF hb1 (p := ⟨w.heap.size + 1 + 1, 1, none⟩) (v := .int .i64 0) (by first | ((repeat' first | with_reducible assumption | with_reducible refine cellA ?_ | with_reducible refine cellD ?_); done) | (simp [go_sem]; done) | (simp [go_sem, *]; done)) (by first | ((repeat' first | with_reducible assumption | with_reducible refine frozA (v := .int .i64 0) (by first | ((repeat' first | with_reducible assumption | with_reducible refine cellA ?_ | with_reducible refine cellD ?_); done) | (simp [go_sem]; done) | (simp [go_sem, *]; done)) ?_ | with_reducible refine frozD ?_); done) | (simp [go_sem]; done) | (simp [go_sem, *]; done))
          have s1 := hb1.size
          simp at s1
          go_wp2_with fail
          refine (rValid_yes _ _ _ H2.out).mono ?_
          rintro e w2 ⟨rfl, hb2⟩
          have q15 := kept hb2 (p := ⟨w.heap.size, 0, none⟩) (v := .int .i64 a) (by first | ((repeat' first | with_reducible assumption | with_reducible refine cellA ?_ | with_reducible refine cellD ?_); done) | (simp [go_sem]; done) | (simp [go_sem, *]; done))
          have y15 := World.block_lt_of_cell? _ _ q15
          simp only [] at y15
          have q16 := kept hb2 (p := ⟨w.heap.size, 1, none⟩) (v := .int .i64 b) (by first | ((repeat' first | with_reducible assumption | with_reducible refine cellA ?_ | with_reducible refine cellD ?_); done) | (simp [go_sem]; done) | (simp [go_sem, *]; done))
          have q17 := kept hb2 (p := ⟨w.heap.size + 1, 0, none⟩) (v := .int .i64 c) (by first | ((repeat' first | with_reducible assumption | with_reducible refine cellA ?_ | with_reducible refine cellD ?_); done) | (simp [go_sem]; done) | (simp [go_sem, *]; done))
          have y17 := World.block_lt_of_cell? _ _ q17
          simp only [] at y17
          have q18 := kept hb2 (p := ⟨w.heap.size + 1, 1, none⟩) (v := .int .i64 d) (by first | ((repeat' first | with_reducible assumption | with_reducible refine cellA ?_ | with_reducible refine cellD ?_); done) | (simp [go_sem]; done) | (simp [go_sem, *]; done))
          have q19 := kept hb2 (p := ⟨w.heap.size + 1 + 1, 0, none⟩) (v := .int .i64 0) (by first | ((repeat' first | with_reducible assumption | with_reducible refine cellA ?_ | with_reducible refine cellD ?_); done) | (simp [go_sem]; done) | (simp [go_sem, *]; done))
          have y19 := World.block_lt_of_cell? _ _ q19
          simp only [] at y19
          have z19 := keptF hb2 (p := ⟨w.heap.size + 1 + 1, 0, none⟩) (v := .int .i64 0) (by first | ((repeat' first | with_reducible assumption | with_reducible refine cellA ?_ | with_reducible refine cellD ?_); done) | (simp [go_sem]; done) | (simp [go_sem, *]; done)) (by first | ((repeat' first | with_reducible assumption | with_reducible refine frozA (v := .int .i64 0) (by first | ((repeat' first | with_reducible assumption | with_reducible refine cellA ?_ | with_reducible refine cellD ?_); done) | (simp [go_sem]; done) | (simp [go_sem, *]; done)) ?_ | with_reducible refine frozD ?_); done) | (simp [go_sem]; done) | (simp [go_sem, *]; done))
          have q20 := kept hb2 (p := ⟨w.heap.size + 1 + 1, 1, none⟩) (v := .int .i64 0) (by first | ((repeat' first | with_reducible assumption | with_reducible refine cellA ?_ | with_reducible refine cellD ?_); done) | (simp [go_sem]; done) | (simp [go_sem, *]; done))
          have z20 := keptF hb2 (p := ⟨w.heap.size + 1 + 1, 1, none⟩) (v := .int .i64 0) (by first | ((repeat' first | with_reducible assumption | with_reducible refine cellA ?_ | with_reducible refine cellD ?_); done) | (simp [go_sem]; done) | (simp [go_sem, *]; done)) (by first | ((repeat' first | with_reducible assumption | with_reducible refine frozA (v := .int .i64 0) (by first | ((repeat' first | with_reducible assumption | with_reducible refine cellA ?_ | with_reducible refine cellD ?_); done) | (simp [go_sem]; done) | (simp [go_sem, *]; done)) ?_ | with_reducible refine frozD ?_); done) | (simp [go_sem]; done) | (simp [go_sem, *]; done))
          have s2 := hb2.size
          go_wp2
          ((try simp only [Exit.inBlock, Exit.then]); refine bodyPost_ret (by simp [results, Try.results25, go_sem, *]; try rfl) rfl ?_)
          exact ⟨rfl, by (repeat' first | exact Below.refl _ _ | with_reducible refine Below.drew ?_ | with_reducible refine Below.drewN ?_ _ | with_reducible refine Below.alloc' ?_ _ | with_reducible refine Below.setCell ?_ (by first | exact Nat.le_refl _ | (simp; done) | (simp; omega)) _ | with_reducible refine Below.after ?_ ‹_›)⟩
        · rw [if_neg hlt] at e1
          rw [e1]
          clear e1
          go_enter Try.func25, Try.ntmps25
          go_wp2_with fail
          refine (rValid_yes _ _ _ H.out).mono ?_
          rintro e w1 ⟨rfl, hb1⟩
          have q21 := kept hb1 (p := ⟨w.heap.size, 0, none⟩) (v := .int .i64 a) (by first | ((repeat' first | with_reducible assumption | with_reducible refine cellA ?_ | with_reducible refine cellD ?_); done) | (simp [go_sem]; done) | (simp [go_sem, *]; done))
          have y21 := World.block_lt_of_cell? _ _ q21
          simp only [] at y21
          have q22 := kept hb1 (p := ⟨w.heap.size, 1, none⟩) (v := .int .i64 b) (by first | ((repeat' first | with_reducible assumption | with_reducible refine cellA ?_ | with_reducible refine cellD ?_); done) | (simp [go_sem]; done) | (simp [go_sem, *]; done))
          have q23 := kept hb1 (p := ⟨w.heap.size + 1, 0, none⟩) (v := .int .i64 c) (by first | ((repeat' first | with_reducible assumption | with_reducible refine cellA ?_ | with_reducible refine cellD ?_); done) | (simp [go_sem]; done) | (simp [go_sem, *]; done))
          have y23 := World.block_lt_of_cell? _ _ q23
          simp only [] at y23
          have q24 := kept hb1 (p := ⟨w.heap.size + 1, 1, none⟩) (v := .int .i64 d) (by first | ((repeat' first | with_reducible assumption | with_reducible refine cellA ?_ | with_reducible refine cellD ?_); done) | (simp [go_sem]; done) | (simp [go_sem, *]; done))
          have q25 := kept hb1 (p := ⟨w.heap.size + 1 + 1, 0, none⟩) (v := .int .i64 0) (by first | ((repeat' first | with_reducible assumption | with_reducible refine cellA ?_ | with_reducible refine cellD ?_); done) | (simp [go_sem]; done) | (simp [go_sem, *]; done))
          have y25 := World.block_lt_of_cell? _ _ q25
          simp only [] at y25
          have z25 := keptF hb1 (p := ⟨w.heap.size + 1 + 1, 0, none⟩) (v := .int .i64 0) (by first | ((repeat' first | with_reducible assumption | with_reducible refine cellA ?_ | with_reducible refine cellD ?_); done) | (simp [go_sem]; done) | (simp [go_sem, *]; done)) (by first | ((repeat' first | with_reducible assumption | with_reducible refine frozA (v := .int .i64 0) (by first | ((repeat' first | with_reducible assumption | with_reducible refine cellA ?_ | with_reducible refine cellD ?_); done) | (simp [go_sem]; done) | (simp [go_sem, *]; done)) ?_ | with_reducible refine frozD ?_); done) | (simp [go_sem]; done) | (simp [go_sem, *]; done))
          have q26 := kept hb1 (p := ⟨w.heap.size + 1 + 1, 1, none⟩) (v := .int .i64 0) (by first | ((repeat' first | with_reducible assumption | with_reducible refine cellA ?_ | with_reducible refine cellD ?_); done) | (simp [go_sem]; done) | (simp [go_sem, *]; done))
          have z26 := keptF hb1 (p := ⟨w.heap.size + 1 + 1, 1, none⟩) (v := .int .i64 0) (by first | ((repeat' first | with_reducible assumption | with_reducible refine cellA ?_ | with_reducible refine cellD ?_); done) | (simp [go_sem]; done) | (simp [go_sem, *]; done)) (by first | ((repeat' first | with_reducible assumption | with_reducible refine frozA (v := .int .i64 0) (by first | ((repeat' first | with_reducible assumption | with_reducible refine cellA ?_ | with_reducible refine cellD ?_); done) | (simp [go_sem]; done) | (simp [go_sem, *]; done)) ?_ | with_reducible refine frozD ?_); done) | (simp [go_sem]; done) | (simp [go_sem, *]; done))
          have s1 := hb1.size
          simp at s1
          go_wp2_with fail
          refine (rValid_yes _ _ _ H2.out).mono ?_
          rintro e w2 ⟨rfl, hb2⟩
          have q27 := kept hb2 (p := ⟨w.heap.size, 0, none⟩) (v := .int .i64 a) (by first | ((repeat' first | with_reducible assumption | with_reducible refine cellA ?_ | with_reducible refine cellD ?_); done) | (simp [go_sem]; done) | (simp [go_sem, *]; done))
          have y27 := World.block_lt_of_cell? _ _ q27
          simp only [] at y27
          have q28 := kept hb2 (p := ⟨w.heap.size, 1, none⟩) (v := .int .i64 b) (by first | ((repeat' first | with_reducible assumption | with_reducible refine cellA ?_ | with_reducible refine cellD ?_); done) | (simp [go_sem]; done) | (simp [go_sem, *]; done))
          have q29 := kept hb2 (p := ⟨w.heap.size + 1, 0, none⟩) (v := .int .i64 c) (by first | ((repeat' first | with_reducible assumption | with_reducible refine cellA ?_ | with_reducible refine cellD ?_); done) | (simp [go_sem]; done) | (simp [go_sem, *]; done))
          have y29 := World.block_lt_of_cell? _ _ q29
          simp only [] at y29
          have q30 := kept hb2 (p := ⟨w.heap.size + 1, 1, none⟩) (v := .int .i64 d) (by first | ((repeat' first | with_reducible assumption | with_reducible refine cellA ?_ | with_reducible refine cellD ?_); done) | (simp [go_sem]; done) | (simp [go_sem, *]; done))
          have q31 := kept hb2 (p := ⟨w.heap.size + 1 + 1, 0, none⟩) (v := .int .i64 0) (by first | ((repeat' first | with_reducible assumption | with_reducible refine cellA ?_ | with_reducible refine cellD ?_); done) | (simp [go_sem]; done) | (simp [go_sem, *]; done))
          have y31 := World.block_lt_of_cell? _ _ q31
          simp only [] at y31
          have z31 := keptF hb2 (p := ⟨w.heap.size + 1 + 1, 0, none⟩) (v := .int .i64 0) (by first | ((repeat' first | with_reducible assumption | with_reducible refine cellA ?_ | with_reducible refine cellD ?_); done) | (simp [go_sem]; done) | (simp [go_sem, *]; done)) (by first | ((repeat' first | with_reducible assumption | with_reducible refine frozA (v := .int .i64 0) (by first | ((repeat' first | with_reducible assumption | with_reducible refine cellA ?_ | with_reducible refine cellD ?_); done) | (simp [go_sem]; done) | (simp [go_sem, *]; done)) ?_ | with_reducible refine frozD ?_); done) | (simp [go_sem]; done) | (simp [go_sem, *]; done))
          have q32 := kept hb2 (p := ⟨w.heap.size + 1 + 1, 1, none⟩) (v := .int .i64 0) (by first | ((repeat' first | with_reducible assumption | with_reducible refine cellA ?_ | with_reducible refine cellD ?_); done) | (simp [go_sem]; done) | (simp [go_sem, *]; done))
          have z32 := keptF hb2 (p := ⟨w.heap.size + 1 + 1, 1, none⟩) (v := .int .i64 0) (by first | ((repeat' first | with_reducible assumption | with_reducible refine cellA ?_ | with_reducible refine cellD ?_); done) | (simp [go_sem]; done) | (simp [go_sem, *]; done)) (by first | ((repeat' first | with_reducible assumption | with_reducible refine frozA (v := .int .i64 0) (by first | ((repeat' first | with_reducible assumption | with_reducible refine cellA ?_ | with_reducible refine cellD ?_); done) | (simp [go_sem]; done) | (simp [go_sem, *]; done)) ?_ | with_reducible refine frozD ?_); done) | (simp [go_sem]; done) | (simp [go_sem, *]; done))
          have s2 := hb2.size
          go_wp2
          ((try simp only [Exit.inBlock, Exit.then]); refine bodyPost_ret (by simp [results, Try.results25, go_sem, *]; try rfl) rfl ?_)
          exact ⟨rfl, by (repeat' first | exact Below.refl _ _ | with_reducible refine Below.drew ?_ | with_reducible refine Below.drewN ?_ _ | with_reducible refine Below.alloc' ?_ _ | with_reducible refine Below.setCell ?_ (by first | exact Nat.le_refl _ | (simp; done) | (simp; omega)) _ | with_reducible refine Below.after ?_ ‹_›)⟩
      · rw [max_right_of m1, min_left_of m2] at e1
        by_cases hlt : b < c
        · rw [if_pos hlt] at e1
          rw [e1]
          clear e1
          go_enter Try.func25, Try.ntmps25
          go_wp2_with fail
          refine (rValid_yes _ _ _ H.out).mono ?_
          rintro e w1 ⟨rfl, hb1⟩
          have q33 := kept hb1 (p := ⟨w.heap.size, 0, none⟩) (v := .int .i64 a) (by first | ((repeat' first | with_reducible assumption | with_reducible refine cellA ?_ | with_reducible refine cellD ?_); done) | (simp [go_sem]; done) | (simp [go_sem, *]; done))
          have y33 := World.block_lt_of_cell? _ _ q33
          simp only [] at y33
          have q34 := kept hb1 (p := ⟨w.heap.size, 1, none⟩) (v := .int .i64 b) (by first | ((repeat' first | with_reducible assumption | with_reducible refine cellA ?_ | with_reducible refine cellD ?_); done) | (simp [go_sem]; done) | (simp [go_sem, *]; done))
          have q35 := kept hb1 (p := ⟨w.heap.size + 1, 0, none⟩) (v := .int .i64 c) (by first | ((repeat' first | with_reducible assumption | with_reducible refine cellA ?_ | with_reducible refine cellD ?_); done) | (simp [go_sem]; done) | (simp [go_sem, *]; done))
          have y35 := World.block_lt_of_cell? _ _ q35
          simp only [] at y35
          have q36 := kept hb1 (p := ⟨w.heap.size + 1, 1, none⟩) (v := .int .i64 d) (by first | ((repeat' first | with_reducible assumption | with_reducible refine cellA ?_ | with_reducible refine cellD ?_); done) | (simp [go_sem]; done) | (simp [go_sem, *]; done))
          have q37 := kept hb1 (p := ⟨w.heap.size + 1 + 1, 0, none⟩) (v := .int .i64 0) (by first | ((repeat' first | with_reducible assumption | with_reducible refine cellA ?_ | with_reducible refine cellD ?_); done) | (simp [go_sem]; done) | (simp [go_sem, *]; done))
          have y37 := World.block_lt_of_cell? _ _ q37
          simp only [] at y37
          have z37 := keptF hb1 (p := ⟨w.heap.size + 1 + 1, 0, none⟩) (v := .int .i64 0) (by first | ((repeat' first | with_reducible assumption | with_reducible refine cellA ?_ | with_reducible refine cellD ?_); done) | (simp [go_sem]; done) | (simp [go_sem, *]; done)) (by first | ((repeat' first | with_reducible assumption | with_reducible refine frozA (v := .int .i64 0) (by first | ((repeat' first | with_reducible assumption | with_reducible refine cellA ?_ | with_reducible refine cellD ?_); done) | (simp [go_sem]; done) | (simp [go_sem, *]; done)) ?_ | with_reducible refine frozD ?_); done) | (simp [go_sem]; done) | (simp [go_sem, *]; done))
          have q38 := kept hb1 (p := ⟨w.heap.size + 1 + 1, 1, none⟩) (v := .int .i64 0) (by first | ((repeat' first | with_reducible assumption | with_reducible refine cellA ?_ | with_reducible refine cellD ?_); done) | (simp [go_sem]; done) | (simp [go_sem, *]; done))
          have z38 := keptF hb1 (p := ⟨w.heap.size + 1 + 1, 1, none⟩) (v := .int .i64 0) (by first | ((repeat' first | with_reducible assumption | with_reducible refine cellA ?_ | with_reducible refine cellD ?_); done) | (simp [go_sem]; done) | (simp [go_sem, *]; done)) (by first | ((repeat' first | with_reducible assumption | with_reducible refine frozA (v := .int .i64 0) (by first | ((repeat' first | with_reducible assumption | with_reducible refine cellA ?_ | with_reducible refine cellD ?_); done) | (simp [go_sem]; done) | (simp [go_sem, *]; done)) ?_ | with_reducible refine frozD ?_); done) | (simp [go_sem]; done) | (simp [go_sem, *]; done))
          have s1 := hb1.size
          simp at s1
          go_wp2_with fail
          refine (rValid_yes _ _ _ H2.out).mono ?_
          rintro e w2 ⟨rfl, hb2⟩
          have q39 := kept hb2 (p := ⟨w.heap.size, 0, none⟩) (v := .int .i64 a) (by first | ((repeat' first | with_reducible assumption | with_reducible refine cellA ?_ | with_reducible refine cellD ?_); done) | (simp [go_sem]; done) | (simp [go_sem, *]; done))
          have y39 := World.block_lt_of_cell? _ _ q39
          simp only [] at y39
          have q40 := kept hb2 (p := ⟨w.heap.size, 1, none⟩) (v := .int .i64 b) (by first | ((repeat' first | with_reducible assumption | with_reducible refine cellA ?_ | with_reducible refine cellD ?_); done) | (simp [go_sem]; done) | (simp [go_sem, *]; done))
          have q41 := kept hb2 (p := ⟨w.heap.size + 1, 0, none⟩) (v := .int .i64 c) (by first | ((repeat' first | with_reducible assumption | with_reducible refine cellA ?_ | with_reducible refine cellD ?_); done) | (simp [go_sem]; done) | (simp [go_sem, *]; done))
          have y41 := World.block_lt_of_cell? _ _ q41
          simp only [] at y41
          have q42 := kept hb2 (p := ⟨w.heap.size + 1, 1, none⟩) (v := .int .i64 d) (by first | ((repeat' first | with_reducible assumption | with_reducible refine cellA ?_ | with_reducible refine cellD ?_); done) | (simp [go_sem]; done) | (simp [go_sem, *]; done))
          have q43 := kept hb2 (p := ⟨w.heap.size + 1 + 1, 0, none⟩) (v := .int .i64 0) (by first | ((repeat' first | with_reducible assumption | with_reducible refine cellA ?_ | with_reducible refine cellD ?_); done) | (simp [go_sem]; done) | (simp [go_sem, *]; done))
          have y43 := World.block_lt_of_cell? _ _ q43
          simp only [] at y43
          have z43 := keptF hb2 (p := ⟨w.heap.size + 1 + 1, 0, none⟩) (v := .int .i64 0) (by first | ((repeat' first | with_reducible assumption | with_reducible refine cellA ?_ | with_reducible refine cellD ?_); done) | (simp [go_sem]; done) | (simp [go_sem, *]; done)) (by first | ((repeat' first | with_reducible assumption | with_reducible refine frozA (v := .int .i64 0) (by first | ((repeat' first | with_reducible assumption | with_reducible refine cellA ?_ | with_reducible refine cellD ?_); done) | (simp [go_sem]; done) | (simp [go_sem, *]; done)) ?_ | with_reducible refine frozD ?_); done) | (simp [go_sem]; done) | (simp [go_sem, *]; done))
          have q44 := kept hb2 (p := ⟨w.heap.size + 1 + 1, 1, none⟩) (v := .int .i64 0) (by first | ((repeat' first | with_reducible assumption | with_reducible refine cellA ?_ | with_reducible refine cellD ?_); done) | (simp [go_sem]; done) | (simp [go_sem, *]; done))
          have z44 := keptF hb2 (p := ⟨w.heap.size + 1 + 1, 1, none⟩) (v := .int .i64 0) (by first | ((repeat' first | with_reducible assumption | with_reducible refine cellA ?_ | with_reducible refine cellD ?_); done) | (simp [go_sem]; done) | (simp [go_sem, *]; done)) (by first | ((repeat' first | with_reducible assumption | with_reducible refine frozA (v := .int .i64 0) (by first | ((repeat' first | with_reducible assumption | with_reducible refine cellA ?_ | with_reducible refine cellD ?_); done) | (simp [go_sem]; done) | (simp [go_sem, *]; done)) ?_ | with_reducible refine frozD ?_); done) | (simp [go_sem]; done) | (simp [go_sem, *]; done))
          have s2 := hb2.size
          go_wp2
          ((try simp only [Exit.inBlock, Exit.then]); refine bodyPost_ret (by simp [results, Try.results25, go_sem, *]; try rfl) rfl ?_)
          exact ⟨rfl, by (repeat' first | exact Below.refl _ _ | with_reducible refine Below.drew ?_ | with_reducible refine Below.drewN ?_ _ | with_reducible refine Below.alloc' ?_ _ | with_reducible refine Below.setCell ?_ (by first | exact Nat.le_refl _ | (simp; done) | (simp; omega)) _ | with_reducible refine Below.after ?_ ‹_›)⟩
        · rw [if_neg hlt] at e1
          rw [e1]
          clear e1
          go_enter Try.func25, Try.ntmps25
          go_wp2_with fail
          refine (rValid_yes _ _ _ H.out).mono ?_
          rintro e w1 ⟨rfl, hb1⟩
          have q45 := kept hb1 (p := ⟨w.heap.size, 0, none⟩) (v := .int .i64 a) (by first | ((repeat' first | with_reducible assumption | with_reducible refine cellA ?_ | with_reducible refine cellD ?_); done) | (simp [go_sem]; done) | (simp [go_sem, *]; done))
          have y45 := World.block_lt_of_cell? _ _ q45
          simp only [] at y45
          have q46 := kept hb1 (p := ⟨w.heap.size, 1, none⟩) (v := .int .i64 b) (by first | ((repeat' first | with_reducible assumption | with_reducible refine cellA ?_ | with_reducible refine cellD ?_); done) | (simp [go_sem]; done) | (simp [go_sem, *]; done))
          have q47 := kept hb1 (p := ⟨w.heap.size + 1, 0, none⟩) (v := .int .i64 c) (by first | ((repeat' first | with_reducible assumption | with_reducible refine cellA ?_ | with_reducible refine cellD ?_); done) | (simp [go_sem]; done) | (simp [go_sem, *]; done))
          have y47 := World.block_lt_of_cell? _ _ q47
          simp only [] at y47
          have q48 := kept hb1 (p := ⟨w.heap.size + 1, 1, none⟩) (v := .int .i64 d) (by first | ((repeat' first | with_reducible assumption | with_reducible refine cellA ?_ | with_reducible refine cellD ?_); done) | (simp [go_sem]; done) | (simp [go_sem, *]; done))
          have q49 := kept hb1 (p := ⟨w.heap.size + 1 + 1, 0, none⟩) (v := .int .i64 0) (by first | ((repeat' first | with_reducible assumption | with_reducible refine cellA ?_ | with_reducible refine cellD ?_); done) | (simp [go_sem]; done) | (simp [go_sem, *]; done))
          have y49 := World.block_lt_of_cell? _ _ q49
          simp only [] at y49
          have z49 := keptF hb1 (p := ⟨w.heap.size + 1 + 1, 0, none⟩) (v := .int .i64 0) (by first | ((repeat' first | with_reducible assumption | with_reducible refine cellA ?_ | with_reducible refine cellD ?_); done) | (simp [go_sem]; done) | (simp [go_sem, *]; done)) (by first | ((repeat' first | with_reducible assumption | with_reducible refine frozA (v := .int .i64 0) (by first | ((repeat' first | with_reducible assumption | with_reducible refine cellA ?_ | with_reducible refine cellD ?_); done) | (simp [go_sem]; done) | (simp [go_sem, *]; done)) ?_ | with_reducible refine frozD ?_); done) | (simp [go_sem]; done) | (simp [go_sem, *]; done))
          have q50 := kept hb1 (p := ⟨w.heap.size + 1 + 1, 1, none⟩) (v := .int .i64 0) (by first | ((repeat' first | with_reducible assumption | with_reducible refine cellA ?_ | with_reducible refine cellD ?_); done) | (simp [go_sem]; done) | (simp [go_sem, *]; done))
          have z50 := keptF hb1 (p := ⟨w.heap.size + 1 + 1, 1, none⟩) (v := .int .i64 0) (by first | ((repeat' first | with_reducible assumption | with_reducible refine cellA ?_ | with_reducible refine cellD ?_); done) | (simp [go_sem]; done) | (simp [go_sem, *]; done)) (by first | ((repeat' first | with_reducible assumption | with_reducible refine frozA (v := .int .i64 0) (by first | ((repeat' first | with_reducible assumption | with_reducible refine cellA ?_ | with_reducible refine cellD ?_); done) | (simp [go_sem]; done) | (simp [go_sem, *]; done)) ?_ | with_reducible refine frozD ?_); done) | (simp [go_sem]; done) | (simp [go_sem, *]; done))
          have s1 := hb1.size
          simp at s1
          go_wp2_with fail
          refine (rValid_yes _ _ _ H2.out).mono ?_
          rintro e w2 ⟨rfl, hb2⟩
          have q51 := kept hb2 (p := ⟨w.heap.size, 0, none⟩) (v := .int .i64 a) (by first | ((repeat' first | with_reducible assumption | with_reducible refine cellA ?_ | with_reducible refine cellD ?_); done) | (simp [go_sem]; done) | (simp [go_sem, *]; done))
          have y51 := World.block_lt_of_cell? _ _ q51
          simp only [] at y51
          have q52 := kept hb2 (p := ⟨w.heap.size, 1, none⟩) (v := .int .i64 b) (by first | ((repeat' first | with_reducible assumption | with_reducible refine cellA ?_ | with_reducible refine cellD ?_); done) | (simp [go_sem]; done) | (simp [go_sem, *]; done))
          have q53 := kept hb2 (p := ⟨w.heap.size + 1, 0, none⟩) (v := .int .i64 c) (by first | ((repeat' first | with_reducible assumption | with_reducible refine cellA ?_ | with_reducible refine cellD ?_); done) | (simp [go_sem]; done) | (simp [go_sem, *]; done))
          have y53 := World.block_lt_of_cell? _ _ q53
          simp only [] at y53
          have q54 := kept hb2 (p := ⟨w.heap.size + 1, 1, none⟩) (v := .int .i64 d) (by first | ((repeat' first | with_reducible assumption | with_reducible refine cellA ?_ | with_reducible refine cellD ?_); done) | (simp [go_sem]; done) | (simp [go_sem, *]; done))
          have q55 := kept hb2 (p := ⟨w.heap.size + 1 + 1, 0, none⟩) (v := .int .i64 0) (by first | ((repeat' first | with_reducible assumption | with_reducible refine cellA ?_ | with_reducible refine cellD ?_); done) | (simp [go_sem]; done) | (simp [go_sem, *]; done))
          have y55 := World.block_lt_of_cell? _ _ q55
          simp only [] at y55
          have z55 := keptF hb2 (p := ⟨w.heap.size + 1 + 1, 0, none⟩) (v := .int .i64 0) (by first | ((repeat' first | with_reducible assumption | with_reducible refine cellA ?_ | with_reducible refine cellD ?_); done) | (simp [go_sem]; done) | (simp [go_sem, *]; done)) (by first | ((repeat' first | with_reducible assumption | with_reducible refine frozA (v := .int .i64 0) (by first | ((repeat' first | with_reducible assumption | with_reducible refine cellA ?_ | with_reducible refine cellD ?_); done) | (simp [go_sem]; done) | (simp [go_sem, *]; done)) ?_ | with_reducible refine frozD ?_); done) | (simp [go_sem]; done) | (simp [go_sem, *]; done))
          have q56 := kept hb2 (p := ⟨w.heap.size + 1 + 1, 1, none⟩) (v := .int .i64 0) (by first | ((repeat' first | with_reducible assumption | with_reducible refine cellA ?_ | with_reducible refine cellD ?_); done) | (simp [go_sem]; done) | (simp [go_sem, *]; done))
          have z56 := keptF hb2 (p := ⟨w.heap.size + 1 + 1, 1, none⟩) (v := .int .i64 0) (by first | ((repeat' first | with_reducible assumption | with_reducible refine cellA ?_ | with_reducible refine cellD ?_); done) | (simp [go_sem]; done) | (simp [go_sem, *]; done)) (by first | ((repeat' first | with_reducible assumption | with_reducible refine frozA (v := .int .i64 0) (by first | ((repeat' first | with_reducible assumption | with_reducible refine cellA ?_ | with_reducible refine cellD ?_); done) | (simp [go_sem]; done) | (simp [go_sem, *]; done)) ?_ | with_reducible refine frozD ?_); done) | (simp [go_sem]; done) | (simp [go_sem, *]; done))
          have s2 := hb2.size
          go_wp2
          ((try simp only [Exit.inBlock, Exit.then]); refine bodyPost_ret (by simp [results, Try.results25, go_sem, *]; try rfl) rfl ?_)
          exact ⟨rfl, by (repeat' first | exact Below.refl _ _ | with_reducible refine Below.drew ?_ | with_reducible refine Below.drewN ?_ _ | with_reducible refine Below.alloc' ?_ _ | with_reducible refine Below.setCell ?_ (by first | exact Nat.le_refl _ | (simp; done) | (simp; omega)) _ | with_reducible refine Below.after ?_ ‹_›)⟩
      · rw [max_left_of m1, min_right_of m2] at e1
        by_cases hlt : d < a
        · rw [if_pos hlt] at e1
          rw [e1]
          clear e1
          go_enter Try.func25, Try.ntmps25
          go_wp2_with fail
          refine (rValid_yes _ _ _ H.out).mono ?_
          rintro e w1 ⟨rfl, hb1⟩
          have q57 := kept hb1 (p := ⟨w.heap.size, 0, none⟩) (v := .int .i64 a) (by first | ((repeat' first | with_reducible assumption | with_reducible refine cellA ?_ | with_reducible refine cellD ?_); done) | (simp [go_sem]; done) | (simp [go_sem, *]; done))
          have y57 := World.block_lt_of_cell? _ _ q57
          simp only [] at y57
          have q58 := kept hb1 (p := ⟨w.heap.size, 1, none⟩) (v := .int .i64 b) (by first | ((repeat' first | with_reducible assumption | with_reducible refine cellA ?_ | with_reducible refine cellD ?_); done) | (simp [go_sem]; done) | (simp [go_sem, *]; done))
          have q59 := kept hb1 (p := ⟨w.heap.size + 1, 0, none⟩) (v := .int .i64 c) (by first | ((repeat' first | with_reducible assumption | with_reducible refine cellA ?_ | with_reducible refine cellD ?_); done) | (simp [go_sem]; done) | (simp [go_sem, *]; done))
          have y59 := World.block_lt_of_cell? _ _ q59
          simp only [] at y59
          have q60 := kept hb1 (p := ⟨w.heap.size + 1, 1, none⟩) (v := .int .i64 d) (by first | ((repeat' first | with_reducible assumption | with_reducible refine cellA ?_ | with_reducible refine cellD ?_); done) | (simp [go_sem]; done) | (simp [go_sem, *]; done))
          have q61 := kept hb1 (p := ⟨w.heap.size + 1 + 1, 0, none⟩) (v := .int .i64 0) (by first | ((repeat' first | with_reducible assumption | with_reducible refine cellA ?_ | with_reducible refine cellD ?_); done) | (simp [go_sem]; done) | (simp [go_sem, *]; done))
          have y61 := World.block_lt_of_cell? _ _ q61
          simp only [] at y61
          have z61 := keptF hb1 (p := ⟨w.heap.size + 1 + 1, 0, none⟩) (v := .int .i64 0) (by first | ((repeat' first | with_reducible assumption | with_reducible refine cellA ?_ | with_reducible refine cellD ?_); done) | (simp [go_sem]; done) | (simp [go_sem, *]; done)) (by first | ((repeat' first | with_reducible assumption | with_reducible refine frozA (v := .int .i64 0) (by first | ((repeat' first | with_reducible assumption | with_reducible refine cellA ?_ | with_reducible refine cellD ?_); done) | (simp [go_sem]; done) | (simp [go_sem, *]; done)) ?_ | with_reducible refine frozD ?_); done) | (simp [go_sem]; done) | (simp [go_sem, *]; done))
          have q62 := kept hb1 (p := ⟨w.heap.size + 1 + 1, 1, none⟩) (v := .int .i64 0) (by first | ((repeat' first | with_reducible assumption | with_reducible refine cellA ?_ | with_reducible refine cellD ?_); done) | (simp [go_sem]; done) | (simp [go_sem, *]; done))
          have z62 := keptF hb1 (p := ⟨w.heap.size + 1 + 1, 1, none⟩) (v := .int .i64 0) (by first | ((repeat' first | with_reducible assumption | with_reducible refine cellA ?_ | with_reducible refine cellD ?_); done) | (simp [go_sem]; done) | (simp [go_sem, *]; done)) (by first | ((repeat' first | with_reducible assumption | with_reducible refine frozA (v := .int .i64 0) (by first | ((repeat' first | with_reducible assumption | with_reducible refine cellA ?_ | with_reducible refine cellD ?_); done) | (simp [go_sem]; done) | (simp [go_sem, *]; done)) ?_ | with_reducible refine frozD ?_); done) | (simp [go_sem]; done) | (simp [go_sem, *]; done))
          have s1 := hb1.size
          simp at s1
          go_wp2_with fail
          refine (rValid_yes _ _ _ H2.out).mono ?_
          rintro e w2 ⟨rfl, hb2⟩
          have q63 := kept hb2 (p := ⟨w.heap.size, 0, none⟩) (v := .int .i64 a) (by first | ((repeat' first | with_reducible assumption | with_reducible refine cellA ?_ | with_reducible refine cellD ?_); done) | (simp [go_sem]; done) | (simp [go_sem, *]; done))
          have y63 := World.block_lt_of_cell? _ _ q63
          simp only [] at y63
          have q64 := kept hb2 (p := ⟨w.heap.size, 1, none⟩) (v := .int .i64 b) (by first | ((repeat' first | with_reducible assumption | with_reducible refine cellA ?_ | with_reducible refine cellD ?_); done) | (simp [go_sem]; done) | (simp [go_sem, *]; done))
          have q65 := kept hb2 (p := ⟨w.heap.size + 1, 0, none⟩) (v := .int .i64 c) (by first | ((repeat' first | with_reducible assumption | with_reducible refine cellA ?_ | with_reducible refine cellD ?_); done) | (simp [go_sem]; done) | (simp [go_sem, *]; done))
          have y65 := World.block_lt_of_cell? _ _ q65
          simp only [] at y65
          have q66 := kept hb2 (p := ⟨w.heap.size + 1, 1, none⟩) (v := .int .i64 d) (by first | ((repeat' first | with_reducible assumption | with_reducible refine cellA ?_ | with_reducible refine cellD ?_); done) | (simp [go_sem]; done) | (simp [go_sem, *]; done))
          have q67 := kept hb2 (p := ⟨w.heap.size + 1 + 1, 0, none⟩) (v := .int .i64 0) (by first | ((repeat' first | with_reducible assumption | with_reducible refine cellA ?_ | with_reducible refine cellD ?_); done) | (simp [go_sem]; done) | (simp [go_sem, *]; done))
          have y67 := World.block_lt_of_cell? _ _ q67
          simp only [] at y67
          have z67 := keptF hb2 (p := ⟨w.heap.size + 1 + 1, 0, none⟩) (v := .int .i64 0) (by first | ((repeat' first | with_reducible assumption | with_reducible refine cellA ?_ | with_reducible refine cellD ?_); done) | (simp [go_sem]; done) | (simp [go_sem, *]; done)) (by first | ((repeat' first | with_reducible assumption | with_reducible refine frozA (v := .int .i64 0) (by first | ((repeat' first | with_reducible assumption | with_reducible refine cellA ?_ | with_reducible refine cellD ?_); done) | (simp [go_sem]; done) | (simp [go_sem, *]; done)) ?_ | with_reducible refine frozD ?_); done) | (simp [go_sem]; done) | (simp [go_sem, *]; done))
          have q68 := kept hb2 (p := ⟨w.heap.size + 1 + 1, 1, none⟩) (v := .int .i64 0) (by first | ((repeat' first | with_reducible assumption | with_reducible refine cellA ?_ | with_reducible refine cellD ?_); done) | (simp [go_sem]; done) | (simp [go_sem, *]; done))
          have z68 := keptF hb2 (p := ⟨w.heap.size + 1 + 1, 1, none⟩) (v := .int .i64 0) (by first | ((repeat' first | with_reducible assumption | with_reducible refine cellA ?_ | with_reducible refine cellD ?_); done) | (simp [go_sem]; done) | (simp [go_sem, *]; done)) (by first | ((repeat' first | with_reducible assumption | with_reducible refine frozA (v := .int .i64 0) (by first | ((repeat' first | with_reducible assumption | with_reducible refine cellA ?_ | with_reducible refine cellD ?_); done) | (simp [go_sem]; done) | (simp [go_sem, *]; done)) ?_ | with_reducible refine frozD ?_); done) | (simp [go_sem]; done) | (simp [go_sem, *]; done))
          have s2 := hb2.size
          go_wp2
          ((try simp only [Exit.inBlock, Exit.then]); refine bodyPost_ret (by simp [results, Try.results25, go_sem, *]; try rfl) rfl ?_)
          exact ⟨rfl, by (repeat' first | exact Below.refl _ _ | with_reducible refine Below.drew ?_ | with_reducible refine Below.drewN ?_ _ | with_reducible refine Below.alloc' ?_ _ | with_reducible refine Below.setCell ?_ (by first | exact Nat.le_refl _ | (simp; done) | (simp; omega)) _ | with_reducible refine Below.after ?_ ‹_›)⟩
        · rw [if_neg hlt] at e1
          rw [e1]
          clear e1
          go_enter Try.func25, Try.ntmps25
          go_wp2_with fail
          refine (rValid_yes _ _ _ H.out).mono ?_
          rintro e w1 ⟨rfl, hb1⟩
          have q69 := kept hb1 (p := ⟨w.heap.size, 0, none⟩) (v := .int .i64 a) (by first | ((repeat' first | with_reducible assumption | with_reducible refine cellA ?_ | with_reducible refine cellD ?_); done) | (simp [go_sem]; done) | (simp [go_sem, *]; done))
          have y69 := World.block_lt_of_cell? _ _ q69
          simp only [] at y69
          have q70 := kept hb1 (p := ⟨w.heap.size, 1, none⟩) (v := .int .i64 b) (by first | ((repeat' first | with_reducible assumption | with_reducible refine cellA ?_ | with_reducible refine cellD ?_); done) | (simp [go_sem]; done) | (simp [go_sem, *]; done))
          have q71 := kept hb1 (p := ⟨w.heap.size + 1, 0, none⟩) (v := .int .i64 c) (by first | ((repeat' first | with_reducible assumption | with_reducible refine cellA ?_ | with_reducible refine cellD ?_); done) | (simp [go_sem]; done) | (simp [go_sem, *]; done))
          have y71 := World.block_lt_of_cell? _ _ q71
          simp only [] at y71
          have q72 := kept hb1 (p := ⟨w.heap.size + 1, 1, none⟩) (v := .int .i64 d) (by first | ((repeat' first | with_reducible assumption | with_reducible refine cellA ?_ | with_reducible refine cellD ?_); done) | (simp [go_sem]; done) | (simp [go_sem, *]; done))
          have q73 := kept hb1 (p := ⟨w.heap.size + 1 + 1, 0, none⟩) (v := .int .i64 0) (by first | ((repeat' first | with_reducible assumption | with_reducible refine cellA ?_ | with_reducible refine cellD ?_); done) | (simp [go_sem]; done) | (simp [go_sem, *]; done))
          have y73 := World.block_lt_of_cell? _ _ q73
          simp only [] at y73
          have z73 := keptF hb1 (p := ⟨w.heap.size + 1 + 1, 0, none⟩) (v := .int .i64 0) (by first | ((repeat' first | with_reducible assumption | with_reducible refine cellA ?_ | with_reducible refine cellD ?_); done) | (simp [go_sem]; done) | (simp [go_sem, *]; done)) (by first | ((repeat' first | with_reducible assumption | with_reducible refine frozA (v := .int .i64 0) (by first | ((repeat' first | with_reducible assumption | with_reducible refine cellA ?_ | with_reducible refine cellD ?_); done) | (simp [go_sem]; done) | (simp [go_sem, *]; done)) ?_ | with_reducible refine frozD ?_); done) | (simp [go_sem]; done) | (simp [go_sem, *]; done))
          have q74 := kept hb1 (p := ⟨w.heap.size + 1 + 1, 1, none⟩) (v := .int .i64 0) (by first | ((repeat' first | with_reducible assumption | with_reducible refine cellA ?_ | with_reducible refine cellD ?_); done) | (simp [go_sem]; done) | (simp [go_sem, *]; done))
          have z74 := keptF hb1 (p := ⟨w.heap.size + 1 + 1, 1, none⟩) (v := .int .i64 0) (by first | ((repeat' first | with_reducible assumption | with_reducible refine cellA ?_ | with_reducible refine cellD ?_); done) | (simp [go_sem]; done) | (simp [go_sem, *]; done)) (by first | ((repeat' first | with_reducible assumption | with_reducible refine frozA (v := .int .i64 0) (by first | ((repeat' first | with_reducible assumption | with_reducible refine cellA ?_ | with_reducible refine cellD ?_); done) | (simp [go_sem]; done) | (simp [go_sem, *]; done)) ?_ | with_reducible refine frozD ?_); done) | (simp [go_sem]; done) | (simp [go_sem, *]; done))
          have s1 := hb1.size
          simp at s1
          go_wp2_with fail
          refine (rValid_yes _ _ _ H2.out).mono ?_
          rintro e w2 ⟨rfl, hb2⟩
          have q75 := kept hb2 (p := ⟨w.heap.size, 0, none⟩) (v := .int .i64 a) (by first | ((repeat' first | with_reducible assumption | with_reducible refine cellA ?_ | with_reducible refine cellD ?_); done) | (simp [go_sem]; done) | (simp [go_sem, *]; done))
          have y75 := World.block_lt_of_cell? _ _ q75
          simp only [] at y75
          have q76 := kept hb2 (p := ⟨w.heap.size, 1, none⟩) (v := .int .i64 b) (by first | ((repeat' first | with_reducible assumption | with_reducible refine cellA ?_ | with_reducible refine cellD ?_); done) | (simp [go_sem]; done) | (simp [go_sem, *]; done))
          have q77 := kept hb2 (p := ⟨w.heap.size + 1, 0, none⟩) (v := .int .i64 c) (by first | ((repeat' first | with_reducible assumption | with_reducible refine cellA ?_ | with_reducible refine cellD ?_); done) | (simp [go_sem]; done) | (simp [go_sem, *]; done))
          have y77 := World.block_lt_of_cell? _ _ q77
          simp only [] at y77
          have q78 := kept hb2 (p := ⟨w.heap.size + 1, 1, none⟩) (v := .int .i64 d) (by first | ((repeat' first | with_reducible assumption | with_reducible refine cellA ?_ | with_reducible refine cellD ?_); done) | (simp [go_sem]; done) | (simp [go_sem, *]; done))
          have q79 := kept hb2 (p := ⟨w.heap.size + 1 + 1, 0, none⟩) (v := .int .i64 0) (by first | ((repeat' first | with_reducible assumption | with_reducible refine cellA ?_ | with_reducible refine cellD ?_); done) | (simp [go_sem]; done) | (simp [go_sem, *]; done))
          have y79 := World.block_lt_of_cell? _ _ q79
          simp only [] at y79
          have z79 := keptF hb2 (p := ⟨w.heap.size + 1 + 1, 0, none⟩) (v := .int .i64 0) (by first | ((repeat' first | with_reducible assumption | with_reducible refine cellA ?_ | with_reducible refine cellD ?_); done) | (simp [go_sem]; done) | (simp [go_sem, *]; done)) (by first | ((repeat' first | with_reducible assumption | with_reducible refine frozA (v := .int .i64 0) (by first | ((repeat' first | with_reducible assumption | with_reducible refine cellA ?_ | with_reducible refine cellD ?_); done) | (simp [go_sem]; done) | (simp [go_sem, *]; done)) ?_ | with_reducible refine frozD ?_); done) | (simp [go_sem]; done) | (simp [go_sem, *]; done))
          have q80 := kept hb2 (p := ⟨w.heap.size + 1 + 1, 1, none⟩) (v := .int .i64 0) (by first | ((repeat' first | with_reducible assumption | with_reducible refine cellA ?_ | with_reducible refine cellD ?_); done) | (simp [go_sem]; done) | (simp [go_sem, *]; done))
          have z80 := keptF hb2 (p := ⟨w.heap.size + 1 + 1, 1, none⟩) (v := .int .i64 0) (by first | ((repeat' first | with_reducible assumption | with_reducible refine cellA ?_ | with_reducible refine cellD ?_); done) | (simp [go_sem]; done) | (simp [go_sem, *]; done)) (by first | ((repeat' first | with_reducible assumption | with_reducible refine frozA (v := .int .i64 0) (by first | ((repeat' first | with_reducible assumption | with_reducible refine cellA ?_ | with_reducible refine cellD ?_); done) | (simp [go_sem]; done) | (simp [go_sem, *]; done)) ?_ | with_reducible refine frozD ?_); done) | (simp [go_sem]; done) | (simp [go_sem, *]; done))
          have s2 := hb2.size
          go_wp2
          ((try simp only [Exit.inBlock, Exit.then]); refine bodyPost_ret (by simp [results, Try.results25, go_sem, *]; try rfl) rfl ?_)
          exact ⟨rfl, by (repeat' first | exact Below.refl _ _ | with_reducible refine Below.drew ?_ | with_reducible refine Below.drewN ?_ _ | with_reducible refine Below.alloc' ?_ _ | with_reducible refine Below.setCell ?_ (by first | exact Nat.le_refl _ | (simp; done) | (simp; omega)) _ | with_reducible refine Below.after ?_ ‹_›)⟩
      · rw [max_left_of m1, min_left_of m2] at e1
        by_cases hlt : b < a
        · rw [if_pos hlt] at e1
          rw [e1]
          clear e1
          go_enter Try.func25, Try.ntmps25
          go_wp2_with fail
          refine (rValid_yes _ _ _ H.out).mono ?_
          rintro e w1 ⟨rfl, hb1⟩
          have q81 := kept hb1 (p := ⟨w.heap.size, 0, none⟩) (v := .int .i64 a) (by first | ((repeat' first | with_reducible assumption | with_reducible refine cellA ?_ | with_reducible refine cellD ?_); done) | (simp [go_sem]; done) | (simp [go_sem, *]; done))
          have y81 := World.block_lt_of_cell? _ _ q81
          simp only [] at y81
          have q82 := kept hb1 (p := ⟨w.heap.size, 1, none⟩) (v := .int .i64 b) (by first | ((repeat' first | with_reducible assumption | with_reducible refine cellA ?_ | with_reducible refine cellD ?_); done) | (simp [go_sem]; done) | (simp [go_sem, *]; done))
          have q83 := kept hb1 (p := ⟨w.heap.size + 1, 0, none⟩) (v := .int .i64 c) (by first | ((repeat' first | with_reducible assumption | with_reducible refine cellA ?_ | with_reducible refine cellD ?_); done) | (simp [go_sem]; done) | (simp [go_sem, *]; done))
          have y83 := World.block_lt_of_cell? _ _ q83
          simp only [] at y83
          have q84 := kept hb1 (p := ⟨w.heap.size + 1, 1, none⟩) (v := .int .i64 d) (by first | ((repeat' first | with_reducible assumption | with_reducible refine cellA ?_ | with_reducible refine cellD ?_); done) | (simp [go_sem]; done) | (simp [go_sem, *]; done))
          have q85 := kept hb1 (p := ⟨w.heap.size + 1 + 1, 0, none⟩) (v := .int .i64 0) (by first | ((repeat' first | with_reducible assumption | with_reducible refine cellA ?_ | with_reducible refine cellD ?_); done) | (simp [go_sem]; done) | (simp [go_sem, *]; done))
          have y85 := World.block_lt_of_cell? _ _ q85
          simp only [] at y85
          have z85 := keptF hb1 (p := ⟨w.heap.size + 1 + 1, 0, none⟩) (v := .int .i64 0) (by first | ((repeat' first | with_reducible assumption | with_reducible refine cellA ?_ | with_reducible refine cellD ?_); done) | (simp [go_sem]; done) | (simp [go_sem, *]; done)) (by first | ((repeat' first | with_reducible assumption | with_reducible refine frozA (v := .int .i64 0) (by first | ((repeat' first | with_reducible assumption | with_reducible refine cellA ?_ | with_reducible refine cellD ?_); done) | (simp [go_sem]; done) | (simp [go_sem, *]; done)) ?_ | with_reducible refine frozD ?_); done) | (simp [go_sem]; done) | (simp [go_sem, *]; done))
          have q86 := kept hb1 (p := ⟨w.heap.size + 1 + 1, 1, none⟩) (v := .int .i64 0) (by first | ((repeat' first | with_reducible assumption | with_reducible refine cellA ?_ | with_reducible refine cellD ?_); done) | (simp [go_sem]; done) | (simp [go_sem, *]; done))
          have z86 := keptF hb1 (p := ⟨w.heap.size + 1 + 1, 1, none⟩) (v := .int .i64 0) (by first | ((repeat' first | with_reducible assumption | with_reducible refine cellA ?_ | with_reducible refine cellD ?_); done) | (simp [go_sem]; done) | (simp [go_sem, *]; done)) (by first | ((repeat' first | with_reducible assumption | with_reducible refine frozA (v := .int .i64 0) (by first | ((repeat' first | with_reducible assumption | with_reducible refine cellA ?_ | with_reducible refine cellD ?_); done) | (simp [go_sem]; done) | (simp [go_sem, *]; done)) ?_ | with_reducible refine frozD ?_); done) | (simp [go_sem]; done) | (simp [go_sem, *]; done))
          have s1 := hb1.size
          simp at s1
          go_wp2_with fail
          refine (rValid_yes _ _ _ H2.out).mono ?_
          rintro e w2 ⟨rfl, hb2⟩
          have q87 := kept hb2 (p := ⟨w.heap.size, 0, none⟩) (v := .int .i64 a) (by first | ((repeat' first | with_reducible assumption | with_reducible refine cellA ?_ | with_reducible refine cellD ?_); done) | (simp [go_sem]; done) | (simp [go_sem, *]; done))
          have y87 := World.block_lt_of_cell? _ _ q87
          simp only [] at y87
          have q88 := kept hb2 (p := ⟨w.heap.size, 1, none⟩) (v := .int .i64 b) (by first | ((repeat' first | with_reducible assumption | with_reducible refine cellA ?_ | with_reducible refine cellD ?_); done) | (simp [go_sem]; done) | (simp [go_sem, *]; done))
          have q89 := kept hb2 (p := ⟨w.heap.size + 1, 0, none⟩) (v := .int .i64 c) (by first | ((repeat' first | with_reducible assumption | with_reducible refine cellA ?_ | with_reducible refine cellD ?_); done) | (simp [go_sem]; done) | (simp [go_sem, *]; done))
          have y89 := World.block_lt_of_cell? _ _ q89
          simp only [] at y89
          have q90 := kept hb2 (p := ⟨w.heap.size + 1, 1, none⟩) (v := .int .i64 d) (by first | ((repeat' first | with_reducible assumption | with_reducible refine cellA ?_ | with_reducible refine cellD ?_); done) | (simp [go_sem]; done) | (simp [go_sem, *]; done))
          have q91 := kept hb2 (p := ⟨w.heap.size + 1 + 1, 0, none⟩) (v := .int .i64 0) (by first | ((repeat' first | with_reducible assumption | with_reducible refine cellA ?_ | with_reducible refine cellD ?_); done) | (simp [go_sem]; done) | (simp [go_sem, *]; done))
          have y91 := World.block_lt_of_cell? _ _ q91
          simp only [] at y91
          have z91 := keptF hb2 (p := ⟨w.heap.size + 1 + 1, 0, none⟩) (v := .int .i64 0) (by first | ((repeat' first | with_reducible assumption | with_reducible refine cellA ?_ | with_reducible refine cellD ?_); done) | (simp [go_sem]; done) | (simp [go_sem, *]; done)) (by first | ((repeat' first | with_reducible assumption | with_reducible refine frozA (v := .int .i64 0) (by first | ((repeat' first | with_reducible assumption | with_reducible refine cellA ?_ | with_reducible refine cellD ?_); done) | (simp [go_sem]; done) | (simp [go_sem, *]; done)) ?_ | with_reducible refine frozD ?_); done) | (simp [go_sem]; done) | (simp [go_sem, *]; done))
          have q92 := kept hb2 (p := ⟨w.heap.size + 1 + 1, 1, none⟩) (v := .int .i64 0) (by first | ((repeat' first | with_reducible assumption | with_reducible refine cellA ?_ | with_reducible refine cellD ?_); done) | (simp [go_sem]; done) | (simp [go_sem, *]; done))
          have z92 := keptF hb2 (p := ⟨w.heap.size + 1 + 1, 1, none⟩) (v := .int .i64 0) (by first | ((repeat' first | with_reducible assumption | with_reducible refine cellA ?_ | with_reducible refine cellD ?_); done) | (simp [go_sem]; done) | (simp [go_sem, *]; done)) (by first | ((repeat' first | with_reducible assumption | with_reducible refine frozA (v := .int .i64 0) (by first | ((repeat' first | with_reducible assumption | with_reducible refine cellA ?_ | with_reducible refine cellD ?_); done) | (simp [go_sem]; done) | (simp [go_sem, *]; done)) ?_ | with_reducible refine frozD ?_); done) | (simp [go_sem]; done) | (simp [go_sem, *]; done))
          have s2 := hb2.size
          go_wp2
          ((try simp only [Exit.inBlock, Exit.then]); refine bodyPost_ret (by simp [results, Try.results25, go_sem, *]; try rfl) rfl ?_)
          exact ⟨rfl, by (repeat' first | exact Below.refl _ _ | with_reducible refine Below.drew ?_ | with_reducible refine Below.drewN ?_ _ | with_reducible refine Below.alloc' ?_ _ | with_reducible refine Below.setCell ?_ (by first | exact Nat.le_refl _ | (simp; done) | (simp; omega)) _ | with_reducible refine Below.after ?_ ‹_›)⟩
        · rw [if_neg hlt] at e1
          rw [e1]
          clear e1
          go_enter Try.func25, Try.ntmps25
          go_wp2_with fail
          refine (rValid_yes _ _ _ H.out).mono ?_
          rintro e w1 ⟨rfl, hb1⟩
          have q93 := kept hb1 (p := ⟨w.heap.size, 0, none⟩) (v := .int .i64 a) (by first | ((repeat' first | with_reducible assumption | with_reducible refine cellA ?_ | with_reducible refine cellD ?_); done) | (simp [go_sem]; done) | (simp [go_sem, *]; done))
          have y93 := World.block_lt_of_cell? _ _ q93
          simp only [] at y93
          have q94 := kept hb1 (p := ⟨w.heap.size, 1, none⟩) (v := .int .i64 b) (by first | ((repeat' first | with_reducible assumption | with_reducible refine cellA ?_ | with_reducible refine cellD ?_); done) | (simp [go_sem]; done) | (simp [go_sem, *]; done))
          have q95 := kept hb1 (p := ⟨w.heap.size + 1, 0, none⟩) (v := .int .i64 c) (by first | ((repeat' first | with_reducible assumption | with_reducible refine cellA ?_ | with_reducible refine cellD ?_); done) | (simp [go_sem]; done) | (simp [go_sem, *]; done))
          have y95 := World.block_lt_of_cell? _ _ q95
          simp only [] at y95
          have q96 := kept hb1 (p := ⟨w.heap.size + 1, 1, none⟩) (v := .int .i64 d) (by first | ((repeat' first | with_reducible assumption | with_reducible refine cellA ?_ | with_reducible refine cellD ?_); done) | (simp [go_sem]; done) | (simp [go_sem, *]; done))
          have q97 := kept hb1 (p := ⟨w.heap.size + 1 + 1, 0, none⟩) (v := .int .i64 0) (by first | ((repeat' first | with_reducible assumption | with_reducible refine cellA ?_ | with_reducible refine cellD ?_); done) | (simp [go_sem]; done) | (simp [go_sem, *]; done))
          have y97 := World.block_lt_of_cell? _ _ q97
          simp only [] at y97
          have z97 := keptF hb1 (p := ⟨w.heap.size + 1 + 1, 0, none⟩) (v := .int .i64 0) (by first | ((repeat' first | with_reducible assumption | with_reducible refine cellA ?_ | with_reducible refine cellD ?_); done) | (simp [go_sem]; done) | (simp [go_sem, *]; done)) (by first | ((repeat' first | with_reducible assumption | with_reducible refine frozA (v := .int .i64 0) (by first | ((repeat' first | with_reducible assumption | with_reducible refine cellA ?_ | with_reducible refine cellD ?_); done) | (simp [go_sem]; done) | (simp [go_sem, *]; done)) ?_ | with_reducible refine frozD ?_); done) | (simp [go_sem]; done) | (simp [go_sem, *]; done))
          have q98 := kept hb1 (p := ⟨w.heap.size + 1 + 1, 1, none⟩) (v := .int .i64 0) (by first | ((repeat' first | with_reducible assumption | with_reducible refine cellA ?_ | with_reducible refine cellD ?_); done) | (simp [go_sem]; done) | (simp [go_sem, *]; done))
          have z98 := keptF hb1 (p := ⟨w.heap.size + 1 + 1, 1, none⟩) (v := .int .i64 0) (by first | ((repeat' first | with_reducible assumption | with_reducible refine cellA ?_ | with_reducible refine cellD ?_); done) | (simp [go_sem]; done) | (simp [go_sem, *]; done)) (by first | ((repeat' first | with_reducible assumption | with_reducible refine frozA (v := .int .i64 0) (by first | ((repeat' first | with_reducible assumption | with_reducible refine cellA ?_ | with_reducible refine cellD ?_); done) | (simp [go_sem]; done) | (simp [go_sem, *]; done)) ?_ | with_reducible refine frozD ?_); done) | (simp [go_sem]; done) | (simp [go_sem, *]; done))
          have s1 := hb1.size
          simp at s1
          go_wp2_with fail
          refine (rValid_yes _ _ _ H2.out).mono ?_
          rintro e w2 ⟨rfl, hb2⟩
          have q99 := kept hb2 (p := ⟨w.heap.size, 0, none⟩) (v := .int .i64 a) (by first | ((repeat' first | with_reducible assumption | with_reducible refine cellA ?_ | with_reducible refine cellD ?_); done) | (simp [go_sem]; done) | (simp [go_sem, *]; done))
          have y99 := World.block_lt_of_cell? _ _ q99
          simp only [] at y99
          have q100 := kept hb2 (p := ⟨w.heap.size, 1, none⟩) (v := .int .i64 b) (by first | ((repeat' first | with_reducible assumption | with_reducible refine cellA ?_ | with_reducible refine cellD ?_); done) | (simp [go_sem]; done) | (simp [go_sem, *]; done))
          have q101 := kept hb2 (p := ⟨w.heap.size + 1, 0, none⟩) (v := .int .i64 c) (by first | ((repeat' first | with_reducible assumption | with_reducible refine cellA ?_ | with_reducible refine cellD ?_); done) | (simp [go_sem]; done) | (simp [go_sem, *]; done))
          have y101 := World.block_lt_of_cell? _ _ q101
          simp only [] at y101
          have q102 := kept hb2 (p := ⟨w.heap.size + 1, 1, none⟩) (v := .int .i64 d) (by first | ((repeat' first | with_reducible assumption | with_reducible refine cellA ?_ | with_reducible refine cellD ?_); done) | (simp [go_sem]; done) | (simp [go_sem, *]; done))
          have q103 := kept hb2 (p := ⟨w.heap.size + 1 + 1, 0, none⟩) (v := .int .i64 0) (by first | ((repeat' first | with_reducible assumption | with_reducible refine cellA ?_ | with_reducible refine cellD ?_); done) | (simp [go_sem]; done) | (simp [go_sem, *]; done))
          have y103 := World.block_lt_of_cell? _ _ q103
          simp only [] at y103
          have z103 := keptF hb2 (p := ⟨w.heap.size + 1 + 1, 0, none⟩) (v := .int .i64 0) (by first | ((repeat' first | with_reducible assumption | with_reducible refine cellA ?_ | with_reducible refine cellD ?_); done) | (simp [go_sem]; done) | (simp [go_sem, *]; done)) (by first | ((repeat' first | with_reducible assumption | with_reducible refine frozA (v := .int .i64 0) (by first | ((repeat' first | with_reducible assumption | with_reducible refine cellA ?_ | with_reducible refine cellD ?_); done) | (simp [go_sem]; done) | (simp [go_sem, *]; done)) ?_ | with_reducible refine frozD ?_); done) | (simp [go_sem]; done) | (simp [go_sem, *]; done))
          have q104 := kept hb2 (p := ⟨w.heap.size + 1 + 1, 1, none⟩) (v := .int .i64 0) (by first | ((repeat' first | with_reducible assumption | with_reducible refine cellA ?_ | with_reducible refine cellD ?_); done) | (simp [go_sem]; done) | (simp [go_sem, *]; done))
          have z104 := keptF hb2 (p := ⟨w.heap.size + 1 + 1, 1, none⟩) (v := .int .i64 0) (by first | ((repeat' first | with_reducible assumption | with_reducible refine cellA ?_ | with_reducible refine cellD ?_); done) | (simp [go_sem]; done) | (simp [go_sem, *]; done)) (by first | ((repeat' first | with_reducible assumption | with_reducible refine frozA (v := .int .i64 0) (by first | ((repeat' first | with_reducible assumption | with_reducible refine cellA ?_ | with_reducible refine cellD ?_); done) | (simp [go_sem]; done) | (simp [go_sem, *]; done)) ?_ | with_reducible refine frozD ?_); done) | (simp [go_sem]; done) | (simp [go_sem, *]; done))
          have s2 := hb2.size
          go_wp2
          ((try simp only [Exit.inBlock, Exit.then]); refine bodyPost_ret (by simp [results, Try.results25, go_sem, *]; try rfl) rfl ?_)
          exact ⟨rfl, by (repeat' first | exact Below.refl _ _ | with_reducible refine Below.drew ?_ | with_reducible refine Below.drewN ?_ _ | with_reducible refine Below.alloc' ?_ _ | with_reducible refine Below.setCell ?_ (by first | exact Nat.le_refl _ | (simp; done) | (simp; omega)) _ | with_reducible refine Below.after ?_ ‹_›)⟩
end Go.Proofs.Ytnehmkdcifgpnaa
