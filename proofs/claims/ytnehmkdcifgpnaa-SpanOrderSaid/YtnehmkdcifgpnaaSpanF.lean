/-
  Walks over package span: Meet, Hull, Widen, Part.
-/
import Derived.Test.YtnehmkdcifgpnaaSpanD
namespace Go.Proofs.Ytnehmkdcifgpnaa
open Go.RowKit

/-- what Meet returns -/
def meetV (a b c d : Int) : Int × Int × Int := if vB a b && vB c d then (if min b d < max a c then (0, 0, 10) else (max a c, min b d, 0)) else (0, 0, 1)

set_option maxHeartbeats 1000000 in
theorem meet_any (a b c d : Int) (w : World) :
    Calls Try.prog 24 #[.agg #[.int .i64 a, .int .i64 b], .agg #[.int .i64 c, .int .i64 d]] w fun e w' => e = .returned (res (meetV a b c d)) ∧ Below w.heap.size w w' := by
  cases h : (vB a b && vB c d)
  · have e : meetV a b c d = (0, 0, 1) := by simp [meetV, h]
    rw [e]
    clear e
    have H := Lib.hid h
    clear h
    go_enter Try.func24, Try.ntmps24
    go_wp2_with fail
    refine (allValid_two _ _ _ _ _ _ _ (by simp) _ H.out).mono ?_
    rintro e w1 ⟨rfl, hb1⟩
    have q1 := kept hb1 (p := ⟨w.heap.size + 1 + 1, 0, none⟩) (v := .int .i64 0) (by first | ((repeat' first | with_reducible assumption | with_reducible refine cellA ?_ | with_reducible refine cellD ?_); done) | (simp [go_sem]; done) | (simp [go_sem, *]; done))
    have y1 := World.block_lt_of_cell? _ _ q1
    simp only [] at y1
    have z1 := keptF hb1 (p := ⟨w.heap.size + 1 + 1, 0, none⟩) (v := .int .i64 0) (by first | ((repeat' first | with_reducible assumption | with_reducible refine cellA ?_ | with_reducible refine cellD ?_); done) | (simp [go_sem]; done) | (simp [go_sem, *]; done)) (by first | ((repeat' first | with_reducible assumption | with_reducible refine frozA (v := .int .i64 0) (by first | ((repeat' first | with_reducible assumption | with_reducible refine cellA ?_ | with_reducible refine cellD ?_); done) | (simp [go_sem]; done) | (simp [go_sem, *]; done)) ?_ | with_reducible refine frozD ?_); done) | (simp [go_sem]; done) | (simp [go_sem, *]; done))
    have q2 := kept hb1 (p := ⟨w.heap.size + 1 + 1, 1, none⟩) (v := .int .i64 0) (by first | ((repeat' first | with_reducible assumption | with_reducible refine cellA ?_ | with_reducible refine cellD ?_); done) | (simp [go_sem]; done) | (simp [go_sem, *]; done))
    have z2 := keptF hb1 (p := ⟨w.heap.size + 1 + 1, 1, none⟩) (v := .int .i64 0) (by first | ((repeat' first | with_reducible assumption | with_reducible refine cellA ?_ | with_reducible refine cellD ?_); done) | (simp [go_sem]; done) | (simp [go_sem, *]; done)) (by first | ((repeat' first | with_reducible assumption | with_reducible refine frozA (v := .int .i64 0) (by first | ((repeat' first | with_reducible assumption | with_reducible refine cellA ?_ | with_reducible refine cellD ?_); done) | (simp [go_sem]; done) | (simp [go_sem, *]; done)) ?_ | with_reducible refine frozD ?_); done) | (simp [go_sem]; done) | (simp [go_sem, *]; done))
    have s1 := hb1.size
    go_wp2
    ((try simp only [Exit.inBlock, Exit.then]); refine bodyPost_ret (by simp [results, Try.results24, go_sem, *]; try rfl) rfl ?_)
    exact ⟨rfl, by (repeat' first | exact Below.refl _ _ | with_reducible refine Below.drew ?_ | with_reducible refine Below.drewN ?_ _ | with_reducible refine Below.alloc' ?_ _ | with_reducible refine Below.setCell ?_ (by first | exact Nat.le_refl _ | (simp; done) | (simp; omega)) _ | with_reducible refine Below.after ?_ ‹_›)⟩
  · have H := Lib.hid h
    by_cases h1 : min b d < max a c
    · have e : meetV a b c d = (0, 0, 10) := by unfold meetV; rw [if_pos h, if_pos h1]
      rw [e]
      have e1 : decide (min b d < max a c) = true := by simpa using h1
      clear e h h1
      go_enter Try.func24, Try.ntmps24
      go_wp2_with fail
      refine (allValid_two _ _ _ _ _ _ _ (by simp) _ H.out).mono ?_
      rintro e w1 ⟨rfl, hb1⟩
      have q3 := kept hb1 (p := ⟨w.heap.size, 0, none⟩) (v := .int .i64 a) (by first | ((repeat' first | with_reducible assumption | with_reducible refine cellA ?_ | with_reducible refine cellD ?_); done) | (simp [go_sem]; done) | (simp [go_sem, *]; done))
      have y3 := World.block_lt_of_cell? _ _ q3
      simp only [] at y3
      have q4 := kept hb1 (p := ⟨w.heap.size, 1, none⟩) (v := .int .i64 b) (by first | ((repeat' first | with_reducible assumption | with_reducible refine cellA ?_ | with_reducible refine cellD ?_); done) | (simp [go_sem]; done) | (simp [go_sem, *]; done))
      have q5 := kept hb1 (p := ⟨w.heap.size + 1, 0, none⟩) (v := .int .i64 c) (by first | ((repeat' first | with_reducible assumption | with_reducible refine cellA ?_ | with_reducible refine cellD ?_); done) | (simp [go_sem]; done) | (simp [go_sem, *]; done))
      have y5 := World.block_lt_of_cell? _ _ q5
      simp only [] at y5
      have q6 := kept hb1 (p := ⟨w.heap.size + 1, 1, none⟩) (v := .int .i64 d) (by first | ((repeat' first | with_reducible assumption | with_reducible refine cellA ?_ | with_reducible refine cellD ?_); done) | (simp [go_sem]; done) | (simp [go_sem, *]; done))
      have q7 := kept hb1 (p := ⟨w.heap.size + 1 + 1, 0, none⟩) (v := .int .i64 0) (by first | ((repeat' first | with_reducible assumption | with_reducible refine cellA ?_ | with_reducible refine cellD ?_); done) | (simp [go_sem]; done) | (simp [go_sem, *]; done))
      have y7 := World.block_lt_of_cell? _ _ q7
      simp only [] at y7
      have z7 := keptF hb1 (p := ⟨w.heap.size + 1 + 1, 0, none⟩) (v := .int .i64 0) (by first | ((repeat' first | with_reducible assumption | with_reducible refine cellA ?_ | with_reducible refine cellD ?_); done) | (simp [go_sem]; done) | (simp [go_sem, *]; done)) (by first | ((repeat' first | with_reducible assumption | with_reducible refine frozA (v := .int .i64 0) (by first | ((repeat' first | with_reducible assumption | with_reducible refine cellA ?_ | with_reducible refine cellD ?_); done) | (simp [go_sem]; done) | (simp [go_sem, *]; done)) ?_ | with_reducible refine frozD ?_); done) | (simp [go_sem]; done) | (simp [go_sem, *]; done))
      have q8 := kept hb1 (p := ⟨w.heap.size + 1 + 1, 1, none⟩) (v := .int .i64 0) (by first | ((repeat' first | with_reducible assumption | with_reducible refine cellA ?_ | with_reducible refine cellD ?_); done) | (simp [go_sem]; done) | (simp [go_sem, *]; done))
      have z8 := keptF hb1 (p := ⟨w.heap.size + 1 + 1, 1, none⟩) (v := .int .i64 0) (by first | ((repeat' first | with_reducible assumption | with_reducible refine cellA ?_ | with_reducible refine cellD ?_); done) | (simp [go_sem]; done) | (simp [go_sem, *]; done)) (by first | ((repeat' first | with_reducible assumption | with_reducible refine frozA (v := .int .i64 0) (by first | ((repeat' first | with_reducible assumption | with_reducible refine cellA ?_ | with_reducible refine cellD ?_); done) | (simp [go_sem]; done) | (simp [go_sem, *]; done)) ?_ | with_reducible refine frozD ?_); done) | (simp [go_sem]; done) | (simp [go_sem, *]; done))
      have s1 := hb1.size
      simp at s1
      go_wp2_with fail
      refine (common_any _ _ _ _ _).mono ?_
      rintro e w2 ⟨rfl, hb2⟩
      have q9 := kept hb2 (p := ⟨w.heap.size + 1 + 1, 0, none⟩) (v := .int .i64 0) (by first | ((repeat' first | with_reducible assumption | with_reducible refine cellA ?_ | with_reducible refine cellD ?_); done) | (simp [go_sem]; done) | (simp [go_sem, *]; done))
      have y9 := World.block_lt_of_cell? _ _ q9
      simp only [] at y9
      have z9 := keptF hb2 (p := ⟨w.heap.size + 1 + 1, 0, none⟩) (v := .int .i64 0) (by first | ((repeat' first | with_reducible assumption | with_reducible refine cellA ?_ | with_reducible refine cellD ?_); done) | (simp [go_sem]; done) | (simp [go_sem, *]; done)) (by first | ((repeat' first | with_reducible assumption | with_reducible refine frozA (v := .int .i64 0) (by first | ((repeat' first | with_reducible assumption | with_reducible refine cellA ?_ | with_reducible refine cellD ?_); done) | (simp [go_sem]; done) | (simp [go_sem, *]; done)) ?_ | with_reducible refine frozD ?_); done) | (simp [go_sem]; done) | (simp [go_sem, *]; done))
      have q10 := kept hb2 (p := ⟨w.heap.size + 1 + 1, 1, none⟩) (v := .int .i64 0) (by first | ((repeat' first | with_reducible assumption | with_reducible refine cellA ?_ | with_reducible refine cellD ?_); done) | (simp [go_sem]; done) | (simp [go_sem, *]; done))
      have z10 := keptF hb2 (p := ⟨w.heap.size + 1 + 1, 1, none⟩) (v := .int .i64 0) (by first | ((repeat' first | with_reducible assumption | with_reducible refine cellA ?_ | with_reducible refine cellD ?_); done) | (simp [go_sem]; done) | (simp [go_sem, *]; done)) (by first | ((repeat' first | with_reducible assumption | with_reducible refine frozA (v := .int .i64 0) (by first | ((repeat' first | with_reducible assumption | with_reducible refine cellA ?_ | with_reducible refine cellD ?_); done) | (simp [go_sem]; done) | (simp [go_sem, *]; done)) ?_ | with_reducible refine frozD ?_); done) | (simp [go_sem]; done) | (simp [go_sem, *]; done))
      have s2 := hb2.size
      go_wp2
      ((try simp only [Exit.inBlock, Exit.then]); refine bodyPost_ret (by simp [results, Try.results24, go_sem, *]; try rfl) rfl ?_)
      exact ⟨rfl, by (repeat' first | exact Below.refl _ _ | with_reducible refine Below.drew ?_ | with_reducible refine Below.drewN ?_ _ | with_reducible refine Below.alloc' ?_ _ | with_reducible refine Below.setCell ?_ (by first | exact Nat.le_refl _ | (simp; done) | (simp; omega)) _ | with_reducible refine Below.after ?_ ‹_›)⟩
    · have e : meetV a b c d = (max a c, min b d, 0) := by unfold meetV; rw [if_pos h, if_neg h1]
      rw [e]
      have e1 : decide (min b d < max a c) = false := by simpa using h1
      clear e h h1
      go_enter Try.func24, Try.ntmps24
      go_wp2_with fail
      refine (allValid_two _ _ _ _ _ _ _ (by simp) _ H.out).mono ?_
      rintro e w1 ⟨rfl, hb1⟩
      have q11 := kept hb1 (p := ⟨w.heap.size, 0, none⟩) (v := .int .i64 a) (by first | ((repeat' first | with_reducible assumption | with_reducible refine cellA ?_ | with_reducible refine cellD ?_); done) | (simp [go_sem]; done) | (simp [go_sem, *]; done))
      have y11 := World.block_lt_of_cell? _ _ q11
      simp only [] at y11
      have q12 := kept hb1 (p := ⟨w.heap.size, 1, none⟩) (v := .int .i64 b) (by first | ((repeat' first | with_reducible assumption | with_reducible refine cellA ?_ | with_reducible refine cellD ?_); done) | (simp [go_sem]; done) | (simp [go_sem, *]; done))
      have q13 := kept hb1 (p := ⟨w.heap.size + 1, 0, none⟩) (v := .int .i64 c) (by first | ((repeat' first | with_reducible assumption | with_reducible refine cellA ?_ | with_reducible refine cellD ?_); done) | (simp [go_sem]; done) | (simp [go_sem, *]; done))
      have y13 := World.block_lt_of_cell? _ _ q13
      simp only [] at y13
      have q14 := kept hb1 (p := ⟨w.heap.size + 1, 1, none⟩) (v := .int .i64 d) (by first | ((repeat' first | with_reducible assumption | with_reducible refine cellA ?_ | with_reducible refine cellD ?_); done) | (simp [go_sem]; done) | (simp [go_sem, *]; done))
      have q15 := kept hb1 (p := ⟨w.heap.size + 1 + 1, 0, none⟩) (v := .int .i64 0) (by first | ((repeat' first | with_reducible assumption | with_reducible refine cellA ?_ | with_reducible refine cellD ?_); done) | (simp [go_sem]; done) | (simp [go_sem, *]; done))
      have y15 := World.block_lt_of_cell? _ _ q15
      simp only [] at y15
      have z15 := keptF hb1 (p := ⟨w.heap.size + 1 + 1, 0, none⟩) (v := .int .i64 0) (by first | ((repeat' first | with_reducible assumption | with_reducible refine cellA ?_ | with_reducible refine cellD ?_); done) | (simp [go_sem]; done) | (simp [go_sem, *]; done)) (by first | ((repeat' first | with_reducible assumption | with_reducible refine frozA (v := .int .i64 0) (by first | ((repeat' first | with_reducible assumption | with_reducible refine cellA ?_ | with_reducible refine cellD ?_); done) | (simp [go_sem]; done) | (simp [go_sem, *]; done)) ?_ | with_reducible refine frozD ?_); done) | (simp [go_sem]; done) | (simp [go_sem, *]; done))
      have q16 := kept hb1 (p := ⟨w.heap.size + 1 + 1, 1, none⟩) (v := .int .i64 0) (by first | ((repeat' first | with_reducible assumption | with_reducible refine cellA ?_ | with_reducible refine cellD ?_); done) | (simp [go_sem]; done) | (simp [go_sem, *]; done))
      have z16 := keptF hb1 (p := ⟨w.heap.size + 1 + 1, 1, none⟩) (v := .int .i64 0) (by first | ((repeat' first | with_reducible assumption | with_reducible refine cellA ?_ | with_reducible refine cellD ?_); done) | (simp [go_sem]; done) | (simp [go_sem, *]; done)) (by first | ((repeat' first | with_reducible assumption | with_reducible refine frozA (v := .int .i64 0) (by first | ((repeat' first | with_reducible assumption | with_reducible refine cellA ?_ | with_reducible refine cellD ?_); done) | (simp [go_sem]; done) | (simp [go_sem, *]; done)) ?_ | with_reducible refine frozD ?_); done) | (simp [go_sem]; done) | (simp [go_sem, *]; done))
      have s1 := hb1.size
      simp at s1
      go_wp2_with fail
      refine (common_any _ _ _ _ _).mono ?_
      rintro e w2 ⟨rfl, hb2⟩
      have q17 := kept hb2 (p := ⟨w.heap.size + 1 + 1, 0, none⟩) (v := .int .i64 0) (by first | ((repeat' first | with_reducible assumption | with_reducible refine cellA ?_ | with_reducible refine cellD ?_); done) | (simp [go_sem]; done) | (simp [go_sem, *]; done))
      have y17 := World.block_lt_of_cell? _ _ q17
      simp only [] at y17
      have z17 := keptF hb2 (p := ⟨w.heap.size + 1 + 1, 0, none⟩) (v := .int .i64 0) (by first | ((repeat' first | with_reducible assumption | with_reducible refine cellA ?_ | with_reducible refine cellD ?_); done) | (simp [go_sem]; done) | (simp [go_sem, *]; done)) (by first | ((repeat' first | with_reducible assumption | with_reducible refine frozA (v := .int .i64 0) (by first | ((repeat' first | with_reducible assumption | with_reducible refine cellA ?_ | with_reducible refine cellD ?_); done) | (simp [go_sem]; done) | (simp [go_sem, *]; done)) ?_ | with_reducible refine frozD ?_); done) | (simp [go_sem]; done) | (simp [go_sem, *]; done))
      have q18 := kept hb2 (p := ⟨w.heap.size + 1 + 1, 1, none⟩) (v := .int .i64 0) (by first | ((repeat' first | with_reducible assumption | with_reducible refine cellA ?_ | with_reducible refine cellD ?_); done) | (simp [go_sem]; done) | (simp [go_sem, *]; done))
      have z18 := keptF hb2 (p := ⟨w.heap.size + 1 + 1, 1, none⟩) (v := .int .i64 0) (by first | ((repeat' first | with_reducible assumption | with_reducible refine cellA ?_ | with_reducible refine cellD ?_); done) | (simp [go_sem]; done) | (simp [go_sem, *]; done)) (by first | ((repeat' first | with_reducible assumption | with_reducible refine frozA (v := .int .i64 0) (by first | ((repeat' first | with_reducible assumption | with_reducible refine cellA ?_ | with_reducible refine cellD ?_); done) | (simp [go_sem]; done) | (simp [go_sem, *]; done)) ?_ | with_reducible refine frozD ?_); done) | (simp [go_sem]; done) | (simp [go_sem, *]; done))
      have s2 := hb2.size
      go_wp2
      ((try simp only [Exit.inBlock, Exit.then]); refine bodyPost_ret (by simp [results, Try.results24, go_sem, *]; try rfl) rfl ?_)
      exact ⟨rfl, by (repeat' first | exact Below.refl _ _ | with_reducible refine Below.drew ?_ | with_reducible refine Below.drewN ?_ _ | with_reducible refine Below.alloc' ?_ _ | with_reducible refine Below.setCell ?_ (by first | exact Nat.le_refl _ | (simp; done) | (simp; omega)) _ | with_reducible refine Below.after ?_ ‹_›)⟩
end Go.Proofs.Ytnehmkdcifgpnaa
