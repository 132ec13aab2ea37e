/-
  Walks over package span and its reference: Hull, Widen; the reference's Add, Sub, Sum, Meet, Hull, Widen.
-/
import Derived.Test.YtnehmkdcifgpnaaSpanE
import Derived.Test.YtnehmkdcifgpnaaSpanF
namespace Go.Proofs.Ytnehmkdcifgpnaa
open Go.RowKit

/-- what Hull returns -/
def hullV (a b c d : Int) : Int × Int × Int := if vB a b && vB c d then (min a c, max b d, 0) else (0, 0, 1)

set_option maxHeartbeats 1000000 in
theorem hull_any (a b c d : Int) (w : World) :
    Calls Try.prog 26 #[.agg #[.int .i64 a, .int .i64 b], .agg #[.int .i64 c, .int .i64 d]] w fun e w' => e = .returned (res (hullV a b c d)) ∧ Below w.heap.size w w' := by
  cases h : (vB a b && vB c d)
  · have e : hullV a b c d = (0, 0, 1) := by simp [hullV, h]
    rw [e]
    clear e
    have H := Lib.hid h
    clear h
    go_enter Try.func26, Try.ntmps26
    go_wp2_with fail
    refine (allValid_two _ _ _ _ _ _ _ (by simp) _ H.out).mono ?_
    rintro e w1 ⟨rfl, hb1⟩
    have q1 := kept hb1 (p := ⟨w.heap.size + 1 + 1, 0, none⟩) (v := .int .i64 0) (by first | ((repeat' first | with_reducible assumption | with_reducible refine cellA ?_ | with_reducible refine cellD ?_); done) | (simp [go_sem]; done) | (simp [go_sem, *]; done))
    have y1 := World.block_lt_of_cell? _ _ q1
    simp only [] at y1
    have z1 := keptF hb1 (p := ⟨w.heap.size + 1 + 1, 0, none⟩) (v := .int .i64 0) (by first | ((repeat' first | with_reducible assumption | with_reducible refine cellA ?_ | with_reducible refine cellD ?_); done) | (simp [go_sem]; done) | (simp [go_sem, *]; done)) (by first | ((repeat' first | with_reducible assumption | with_reducible refine frozA (v := .int .i64 0) (by first | ((repeat' first | with_reducible assumption | with_reducible refine cellA ?_ | with_reducible refine cellD ?_); done) | (simp [go_sem]; done) | (simp [go_sem, *]; done)) ?_ | with_reducible refine frozD ?_); done) | (simp [go_sem]; done) | (simp [go_sem, *]; done))
    have q2 := kept hb1 (p := ⟨w.heap.size + 1 + 1, 1, none⟩) (v := .int .i64 0) (by first | ((repeat' first | with_reducible assumption | with_reducible refine cellA ?_ | with_reducible refine cellD ?_); done) | (simp [go_sem]; done) | (simp [go_sem, *]; done))
    have z2 := keptF hb1 (p := ⟨w.heap.size + 1 + 1, 1, none⟩) (v := .int .i64 0) (by first | ((repeat' first | with_reducible assumption | with_reducible refine cellA ?_ | with_reducible refine cellD ?_); done) | (simp [go_sem]; done) | (simp [go_sem, *]; done)) (by first | ((repeat' first | with_reducible assumption | with_reducible refine frozA (v := .int .i64 0) (by first | ((repeat' first | with_reducible assumption | with_reducible refine cellA ?_ | with_reducible refine cellD ?_); done) | (simp [go_sem]; done) | (simp [go_sem, *]; done)) ?_ | with_reducible refine frozD ?_); done) | (simp [go_sem]; done) | (simp [go_sem, *]; done))
    have s1 := hb1.size
    go_wp2
    ((try simp only [Exit.inBlock, Exit.then]); refine bodyPost_ret (by simp [results, Try.results26, go_sem, *]; try rfl) rfl ?_)
    exact ⟨rfl, by (repeat' first | exact Below.refl _ _ | with_reducible refine Below.drew ?_ | with_reducible refine Below.drewN ?_ _ | with_reducible refine Below.alloc' ?_ _ | with_reducible refine Below.setCell ?_ (by first | exact Nat.le_refl _ | (simp; done) | (simp; omega)) _ | with_reducible refine Below.after ?_ ‹_›)⟩
  · have H := Lib.hid h
    have e : hullV a b c d = (min a c, max b d, 0) := by unfold hullV; rw [if_pos h]
    rw [e]
    clear e h
    go_enter Try.func26, Try.ntmps26
    go_wp2_with fail
    refine (allValid_two _ _ _ _ _ _ _ (by simp) _ H.out).mono ?_
    rintro e w1 ⟨rfl, hb1⟩
    have q3 := kept hb1 (p := ⟨w.heap.size, 0, none⟩) (v := .int .i64 a) (by first | ((repeat' first | with_reducible assumption | with_reducible refine cellA ?_ | with_reducible refine cellD ?_); done) | (simp [go_sem]; done) | (simp [go_sem, *]; done))
    have y3 := World.block_lt_of_cell? _ _ q3
    simp only [] at y3
    have q4 := kept hb1 (p := ⟨w.heap.size, 1, none⟩) (v := .int .i64 b) (by first | ((repeat' first | with_reducible assumption | with_reducible refine cellA ?_ | with_reducible refine cellD ?_); done) | (simp [go_sem]; done) | (simp [go_sem, *]; done))
    have q5 := kept hb1 (p := ⟨w.heap.size + 1, 0, none⟩) (v := .int .i64 c) (by first | ((repeat' first | with_reducible assumption | with_reducible refine cellA ?_ | with_reducible refine cellD ?_); done) | (simp [go_sem]; done) | (simp [go_sem, *]; done))
    have y5 := World.block_lt_of_cell? _ _ q5
    simp only [] at y5
    have q6 := kept hb1 (p := ⟨w.heap.size + 1, 1, none⟩) (v := .int .i64 d) (by first | ((repeat' first | with_reducible assumption | with_reducible refine cellA ?_ | with_reducible refine cellD ?_); done) | (simp [go_sem]; done) | (simp [go_sem, *]; done))
    have q7 := kept hb1 (p := ⟨w.heap.size + 1 + 1, 0, none⟩) (v := .int .i64 0) (by first | ((repeat' first | with_reducible assumption | with_reducible refine cellA ?_ | with_reducible refine cellD ?_); done) | (simp [go_sem]; done) | (simp [go_sem, *]; done))
    have y7 := World.block_lt_of_cell? _ _ q7
    simp only [] at y7
    have z7 := keptF hb1 (p := ⟨w.heap.size + 1 + 1, 0, none⟩) (v := .int .i64 0) (by first | ((repeat' first | with_reducible assumption | with_reducible refine cellA ?_ | with_reducible refine cellD ?_); done) | (simp [go_sem]; done) | (simp [go_sem, *]; done)) (by first | ((repeat' first | with_reducible assumption | with_reducible refine frozA (v := .int .i64 0) (by first | ((repeat' first | with_reducible assumption | with_reducible refine cellA ?_ | with_reducible refine cellD ?_); done) | (simp [go_sem]; done) | (simp [go_sem, *]; done)) ?_ | with_reducible refine frozD ?_); done) | (simp [go_sem]; done) | (simp [go_sem, *]; done))
    have q8 := kept hb1 (p := ⟨w.heap.size + 1 + 1, 1, none⟩) (v := .int .i64 0) (by first | ((repeat' first | with_reducible assumption | with_reducible refine cellA ?_ | with_reducible refine cellD ?_); done) | (simp [go_sem]; done) | (simp [go_sem, *]; done))
    have z8 := keptF hb1 (p := ⟨w.heap.size + 1 + 1, 1, none⟩) (v := .int .i64 0) (by first | ((repeat' first | with_reducible assumption | with_reducible refine cellA ?_ | with_reducible refine cellD ?_); done) | (simp [go_sem]; done) | (simp [go_sem, *]; done)) (by first | ((repeat' first | with_reducible assumption | with_reducible refine frozA (v := .int .i64 0) (by first | ((repeat' first | with_reducible assumption | with_reducible refine cellA ?_ | with_reducible refine cellD ?_); done) | (simp [go_sem]; done) | (simp [go_sem, *]; done)) ?_ | with_reducible refine frozD ?_); done) | (simp [go_sem]; done) | (simp [go_sem, *]; done))
    have s1 := hb1.size
    simp at s1
    go_wp2_with fail
    refine (joinEnds_one _ _ _ _ _ _ _ (by rfl)).mono ?_
    rintro e w2 ⟨rfl, hb2⟩
    have q9 := kept hb2 (p := ⟨w.heap.size + 1 + 1, 0, none⟩) (v := .int .i64 0) (by first | ((repeat' first | with_reducible assumption | with_reducible refine cellA ?_ | with_reducible refine cellD ?_); done) | (simp [go_sem]; done) | (simp [go_sem, *]; done))
    have y9 := World.block_lt_of_cell? _ _ q9
    simp only [] at y9
    have z9 := keptF hb2 (p := ⟨w.heap.size + 1 + 1, 0, none⟩) (v := .int .i64 0) (by first | ((repeat' first | with_reducible assumption | with_reducible refine cellA ?_ | with_reducible refine cellD ?_); done) | (simp [go_sem]; done) | (simp [go_sem, *]; done)) (by first | ((repeat' first | with_reducible assumption | with_reducible refine frozA (v := .int .i64 0) (by first | ((repeat' first | with_reducible assumption | with_reducible refine cellA ?_ | with_reducible refine cellD ?_); done) | (simp [go_sem]; done) | (simp [go_sem, *]; done)) ?_ | with_reducible refine frozD ?_); done) | (simp [go_sem]; done) | (simp [go_sem, *]; done))
    have q10 := kept hb2 (p := ⟨w.heap.size + 1 + 1, 1, none⟩) (v := .int .i64 0) (by first | ((repeat' first | with_reducible assumption | with_reducible refine cellA ?_ | with_reducible refine cellD ?_); done) | (simp [go_sem]; done) | (simp [go_sem, *]; done))
    have z10 := keptF hb2 (p := ⟨w.heap.size + 1 + 1, 1, none⟩) (v := .int .i64 0) (by first | ((repeat' first | with_reducible assumption | with_reducible refine cellA ?_ | with_reducible refine cellD ?_); done) | (simp [go_sem]; done) | (simp [go_sem, *]; done)) (by first | ((repeat' first | with_reducible assumption | with_reducible refine frozA (v := .int .i64 0) (by first | ((repeat' first | with_reducible assumption | with_reducible refine cellA ?_ | with_reducible refine cellD ?_); done) | (simp [go_sem]; done) | (simp [go_sem, *]; done)) ?_ | with_reducible refine frozD ?_); done) | (simp [go_sem]; done) | (simp [go_sem, *]; done))
    have s2 := hb2.size
    go_wp2
    ((try simp only [Exit.inBlock, Exit.then]); refine bodyPost_ret (by simp [results, Try.results26, go_sem, *]; try rfl) rfl ?_)
    exact ⟨rfl, by (repeat' first | exact Below.refl _ _ | with_reducible refine Below.drew ?_ | with_reducible refine Below.drewN ?_ _ | with_reducible refine Below.alloc' ?_ _ | with_reducible refine Below.setCell ?_ (by first | exact Nat.le_refl _ | (simp; done) | (simp; omega)) _ | with_reducible refine Below.after ?_ ‹_›)⟩

def byB (y : Int) : Bool := decide (0 ≤ y) && decide (y ≤ 70368744177664)
/-- what Widen returns -/
def widenV (a b y : Int) : Int × Int × Int := if vB a b && byB y then chkV (a - y) (b + y) else (0, 0, 1)

set_option maxHeartbeats 1000000 in
theorem widen_any (a b y : Int) (w : World) :
    Calls Try.prog 28 #[.agg #[.int .i64 a, .int .i64 b], .int .i64 y] w fun e w' => e = .returned (res (widenV a b y)) ∧ Below w.heap.size w w' := by
  cases h : vB a b
  · have e : widenV a b y = (0, 0, 1) := by simp [widenV, h]
    rw [e]
    have H := Lib.hid h
    clear e h
    go_enter Try.func28, Try.ntmps28
    go_wp2_with fail
    refine (valid_no _ _ _ H.out).mono ?_
    rintro e w1 ⟨rfl, hb1⟩
    have q11 := kept hb1 (p := ⟨w.heap.size + 1, 0, none⟩) (v := .int .i64 0) (by first | ((repeat' first | with_reducible assumption | with_reducible refine cellA ?_ | with_reducible refine cellD ?_); done) | (simp [go_sem]; done) | (simp [go_sem, *]; done))
    have y11 := World.block_lt_of_cell? _ _ q11
    simp only [] at y11
    have z11 := keptF hb1 (p := ⟨w.heap.size + 1, 0, none⟩) (v := .int .i64 0) (by first | ((repeat' first | with_reducible assumption | with_reducible refine cellA ?_ | with_reducible refine cellD ?_); done) | (simp [go_sem]; done) | (simp [go_sem, *]; done)) (by first | ((repeat' first | with_reducible assumption | with_reducible refine frozA (v := .int .i64 0) (by first | ((repeat' first | with_reducible assumption | with_reducible refine cellA ?_ | with_reducible refine cellD ?_); done) | (simp [go_sem]; done) | (simp [go_sem, *]; done)) ?_ | with_reducible refine frozD ?_); done) | (simp [go_sem]; done) | (simp [go_sem, *]; done))
    have q12 := kept hb1 (p := ⟨w.heap.size + 1, 1, none⟩) (v := .int .i64 0) (by first | ((repeat' first | with_reducible assumption | with_reducible refine cellA ?_ | with_reducible refine cellD ?_); done) | (simp [go_sem]; done) | (simp [go_sem, *]; done))
    have z12 := keptF hb1 (p := ⟨w.heap.size + 1, 1, none⟩) (v := .int .i64 0) (by first | ((repeat' first | with_reducible assumption | with_reducible refine cellA ?_ | with_reducible refine cellD ?_); done) | (simp [go_sem]; done) | (simp [go_sem, *]; done)) (by first | ((repeat' first | with_reducible assumption | with_reducible refine frozA (v := .int .i64 0) (by first | ((repeat' first | with_reducible assumption | with_reducible refine cellA ?_ | with_reducible refine cellD ?_); done) | (simp [go_sem]; done) | (simp [go_sem, *]; done)) ?_ | with_reducible refine frozD ?_); done) | (simp [go_sem]; done) | (simp [go_sem, *]; done))
    have s1 := hb1.size
    go_wp2
    ((try simp only [Exit.inBlock, Exit.then]); refine bodyPost_ret (by simp [results, Try.results28, go_sem, *]; try rfl) rfl ?_)
    exact ⟨rfl, by (repeat' first | exact Below.refl _ _ | with_reducible refine Below.drew ?_ | with_reducible refine Below.drewN ?_ _ | with_reducible refine Below.alloc' ?_ _ | with_reducible refine Below.setCell ?_ (by first | exact Nat.le_refl _ | (simp; done) | (simp; omega)) _ | with_reducible refine Below.after ?_ ‹_›)⟩
  · have H := Lib.hid h
    cases hp : byB y
    · have e : widenV a b y = (0, 0, 1) := by simp [widenV, hp]
      rw [e]
      have hc : y < 0 ∨ (0 ≤ y ∧ 70368744177664 < y) := by
        simp [byB] at hp
        omega
      clear e h hp
      rcases hc with hc | ⟨hc0, hc⟩
      all_goals
        go_enter Try.func28, Try.ntmps28
        go_wp2_with fail
        refine (valid_yes _ _ _ H.out).mono ?_
        rintro e w1 ⟨rfl, hb1⟩
        have q13 := kept hb1 (p := ⟨w.heap.size + 1, 0, none⟩) (v := .int .i64 0) (by first | ((repeat' first | with_reducible assumption | with_reducible refine cellA ?_ | with_reducible refine cellD ?_); done) | (simp [go_sem]; done) | (simp [go_sem, *]; done))
        have y13 := World.block_lt_of_cell? _ _ q13
        simp only [] at y13
        have z13 := keptF hb1 (p := ⟨w.heap.size + 1, 0, none⟩) (v := .int .i64 0) (by first | ((repeat' first | with_reducible assumption | with_reducible refine cellA ?_ | with_reducible refine cellD ?_); done) | (simp [go_sem]; done) | (simp [go_sem, *]; done)) (by first | ((repeat' first | with_reducible assumption | with_reducible refine frozA (v := .int .i64 0) (by first | ((repeat' first | with_reducible assumption | with_reducible refine cellA ?_ | with_reducible refine cellD ?_); done) | (simp [go_sem]; done) | (simp [go_sem, *]; done)) ?_ | with_reducible refine frozD ?_); done) | (simp [go_sem]; done) | (simp [go_sem, *]; done))
        have q14 := kept hb1 (p := ⟨w.heap.size + 1, 1, none⟩) (v := .int .i64 0) (by first | ((repeat' first | with_reducible assumption | with_reducible refine cellA ?_ | with_reducible refine cellD ?_); done) | (simp [go_sem]; done) | (simp [go_sem, *]; done))
        have z14 := keptF hb1 (p := ⟨w.heap.size + 1, 1, none⟩) (v := .int .i64 0) (by first | ((repeat' first | with_reducible assumption | with_reducible refine cellA ?_ | with_reducible refine cellD ?_); done) | (simp [go_sem]; done) | (simp [go_sem, *]; done)) (by first | ((repeat' first | with_reducible assumption | with_reducible refine frozA (v := .int .i64 0) (by first | ((repeat' first | with_reducible assumption | with_reducible refine cellA ?_ | with_reducible refine cellD ?_); done) | (simp [go_sem]; done) | (simp [go_sem, *]; done)) ?_ | with_reducible refine frozD ?_); done) | (simp [go_sem]; done) | (simp [go_sem, *]; done))
        have s1 := hb1.size
        go_wp2
        ((try simp only [Exit.inBlock, Exit.then]); refine bodyPost_ret (by simp [results, Try.results28, go_sem, *]; try rfl) rfl ?_)
        exact ⟨rfl, by (repeat' first | exact Below.refl _ _ | with_reducible refine Below.drew ?_ | with_reducible refine Below.drewN ?_ _ | with_reducible refine Below.alloc' ?_ _ | with_reducible refine Below.setCell ?_ (by first | exact Nat.le_refl _ | (simp; done) | (simp; omega)) _ | with_reducible refine Below.after ?_ ‹_›)⟩
    · have e : widenV a b y = chkV (a - y) (b + y) := by simp [widenV, h, hp]
      rw [e]
      have hab := vB_true.1 h
      have hc : 0 ≤ y ∧ y ≤ 70368744177664 := by simpa [byB] using hp
      have La : -70368744177664 ≤ a ∧ a ≤ 70368744177664 := by omega
      have Lb : -70368744177664 ≤ b ∧ b ≤ 70368744177664 := by omega
      clear e h hp hab
      go_enter Try.func28, Try.ntmps28
      go_wp2_with fail
      refine (valid_yes _ _ _ H.out).mono ?_
      rintro e w1 ⟨rfl, hb1⟩
      have q15 := kept hb1 (p := ⟨w.heap.size, 0, none⟩) (v := .int .i64 a) (by first | ((repeat' first | with_reducible assumption | with_reducible refine cellA ?_ | with_reducible refine cellD ?_); done) | (simp [go_sem]; done) | (simp [go_sem, *]; done))
      have y15 := World.block_lt_of_cell? _ _ q15
      simp only [] at y15
      have q16 := kept hb1 (p := ⟨w.heap.size, 1, none⟩) (v := .int .i64 b) (by first | ((repeat' first | with_reducible assumption | with_reducible refine cellA ?_ | with_reducible refine cellD ?_); done) | (simp [go_sem]; done) | (simp [go_sem, *]; done))
      have q17 := kept hb1 (p := ⟨w.heap.size + 1, 0, none⟩) (v := .int .i64 0) (by first | ((repeat' first | with_reducible assumption | with_reducible refine cellA ?_ | with_reducible refine cellD ?_); done) | (simp [go_sem]; done) | (simp [go_sem, *]; done))
      have y17 := World.block_lt_of_cell? _ _ q17
      simp only [] at y17
      have z17 := keptF hb1 (p := ⟨w.heap.size + 1, 0, none⟩) (v := .int .i64 0) (by first | ((repeat' first | with_reducible assumption | with_reducible refine cellA ?_ | with_reducible refine cellD ?_); done) | (simp [go_sem]; done) | (simp [go_sem, *]; done)) (by first | ((repeat' first | with_reducible assumption | with_reducible refine frozA (v := .int .i64 0) (by first | ((repeat' first | with_reducible assumption | with_reducible refine cellA ?_ | with_reducible refine cellD ?_); done) | (simp [go_sem]; done) | (simp [go_sem, *]; done)) ?_ | with_reducible refine frozD ?_); done) | (simp [go_sem]; done) | (simp [go_sem, *]; done))
      have q18 := kept hb1 (p := ⟨w.heap.size + 1, 1, none⟩) (v := .int .i64 0) (by first | ((repeat' first | with_reducible assumption | with_reducible refine cellA ?_ | with_reducible refine cellD ?_); done) | (simp [go_sem]; done) | (simp [go_sem, *]; done))
      have z18 := keptF hb1 (p := ⟨w.heap.size + 1, 1, none⟩) (v := .int .i64 0) (by first | ((repeat' first | with_reducible assumption | with_reducible refine cellA ?_ | with_reducible refine cellD ?_); done) | (simp [go_sem]; done) | (simp [go_sem, *]; done)) (by first | ((repeat' first | with_reducible assumption | with_reducible refine frozA (v := .int .i64 0) (by first | ((repeat' first | with_reducible assumption | with_reducible refine cellA ?_ | with_reducible refine cellD ?_); done) | (simp [go_sem]; done) | (simp [go_sem, *]; done)) ?_ | with_reducible refine frozD ?_); done) | (simp [go_sem]; done) | (simp [go_sem, *]; done))
      have s1 := hb1.size
      simp at s1
      go_wp2_with fail
      refine (checkResult_any _ _ _).mono ?_
      rintro e w2 ⟨rfl, hb2⟩
      have q19 := kept hb2 (p := ⟨w.heap.size + 1, 0, none⟩) (v := .int .i64 0) (by first | ((repeat' first | with_reducible assumption | with_reducible refine cellA ?_ | with_reducible refine cellD ?_); done) | (simp [go_sem]; done) | (simp [go_sem, *]; done))
      have y19 := World.block_lt_of_cell? _ _ q19
      simp only [] at y19
      have z19 := keptF hb2 (p := ⟨w.heap.size + 1, 0, none⟩) (v := .int .i64 0) (by first | ((repeat' first | with_reducible assumption | with_reducible refine cellA ?_ | with_reducible refine cellD ?_); done) | (simp [go_sem]; done) | (simp [go_sem, *]; done)) (by first | ((repeat' first | with_reducible assumption | with_reducible refine frozA (v := .int .i64 0) (by first | ((repeat' first | with_reducible assumption | with_reducible refine cellA ?_ | with_reducible refine cellD ?_); done) | (simp [go_sem]; done) | (simp [go_sem, *]; done)) ?_ | with_reducible refine frozD ?_); done) | (simp [go_sem]; done) | (simp [go_sem, *]; done))
      have q20 := kept hb2 (p := ⟨w.heap.size + 1, 1, none⟩) (v := .int .i64 0) (by first | ((repeat' first | with_reducible assumption | with_reducible refine cellA ?_ | with_reducible refine cellD ?_); done) | (simp [go_sem]; done) | (simp [go_sem, *]; done))
      have z20 := keptF hb2 (p := ⟨w.heap.size + 1, 1, none⟩) (v := .int .i64 0) (by first | ((repeat' first | with_reducible assumption | with_reducible refine cellA ?_ | with_reducible refine cellD ?_); done) | (simp [go_sem]; done) | (simp [go_sem, *]; done)) (by first | ((repeat' first | with_reducible assumption | with_reducible refine frozA (v := .int .i64 0) (by first | ((repeat' first | with_reducible assumption | with_reducible refine cellA ?_ | with_reducible refine cellD ?_); done) | (simp [go_sem]; done) | (simp [go_sem, *]; done)) ?_ | with_reducible refine frozD ?_); done) | (simp [go_sem]; done) | (simp [go_sem, *]; done))
      have s2 := hb2.size
      unfold res
      go_wp2
      ((try simp only [Exit.inBlock, Exit.then]); refine bodyPost_ret (by simp [results, Try.results28, go_sem, *]; try rfl) rfl ?_)
      exact ⟨rfl, by (repeat' first | exact Below.refl _ _ | with_reducible refine Below.drew ?_ | with_reducible refine Below.drewN ?_ _ | with_reducible refine Below.alloc' ?_ _ | with_reducible refine Below.setCell ?_ (by first | exact Nat.le_refl _ | (simp; done) | (simp; omega)) _ | with_reducible refine Below.after ?_ ‹_›)⟩

set_option maxHeartbeats 1000000 in
theorem rWiden_any (a b y : Int) (w : World) :
    Calls Try.prog 29 #[.agg #[.int .i64 a, .int .i64 b], .int .i64 y] w fun e w' => e = .returned (res (widenV a b y)) ∧ Below w.heap.size w w' := by
  cases h : vB a b
  · have e : widenV a b y = (0, 0, 1) := by simp [widenV, h]
    rw [e]
    have H := Lib.hid h
    clear e h
    go_enter Try.func29, Try.ntmps29
    go_wp2_with fail
    refine (rValid_no _ _ _ H.out).mono ?_
    rintro e w1 ⟨rfl, hb1⟩
    have q21 := kept hb1 (p := ⟨w.heap.size + 1, 0, none⟩) (v := .int .i64 0) (by first | ((repeat' first | with_reducible assumption | with_reducible refine cellA ?_ | with_reducible refine cellD ?_); done) | (simp [go_sem]; done) | (simp [go_sem, *]; done))
    have y21 := World.block_lt_of_cell? _ _ q21
    simp only [] at y21
    have z21 := keptF hb1 (p := ⟨w.heap.size + 1, 0, none⟩) (v := .int .i64 0) (by first | ((repeat' first | with_reducible assumption | with_reducible refine cellA ?_ | with_reducible refine cellD ?_); done) | (simp [go_sem]; done) | (simp [go_sem, *]; done)) (by first | ((repeat' first | with_reducible assumption | with_reducible refine frozA (v := .int .i64 0) (by first | ((repeat' first | with_reducible assumption | with_reducible refine cellA ?_ | with_reducible refine cellD ?_); done) | (simp [go_sem]; done) | (simp [go_sem, *]; done)) ?_ | with_reducible refine frozD ?_); done) | (simp [go_sem]; done) | (simp [go_sem, *]; done))
    have q22 := kept hb1 (p := ⟨w.heap.size + 1, 1, none⟩) (v := .int .i64 0) (by first | ((repeat' first | with_reducible assumption | with_reducible refine cellA ?_ | with_reducible refine cellD ?_); done) | (simp [go_sem]; done) | (simp [go_sem, *]; done))
    have z22 := keptF hb1 (p := ⟨w.heap.size + 1, 1, none⟩) (v := .int .i64 0) (by first | ((repeat' first | with_reducible assumption | with_reducible refine cellA ?_ | with_reducible refine cellD ?_); done) | (simp [go_sem]; done) | (simp [go_sem, *]; done)) (by first | ((repeat' first | with_reducible assumption | with_reducible refine frozA (v := .int .i64 0) (by first | ((repeat' first | with_reducible assumption | with_reducible refine cellA ?_ | with_reducible refine cellD ?_); done) | (simp [go_sem]; done) | (simp [go_sem, *]; done)) ?_ | with_reducible refine frozD ?_); done) | (simp [go_sem]; done) | (simp [go_sem, *]; done))
    have s1 := hb1.size
    go_wp2
    ((try simp only [Exit.inBlock, Exit.then]); refine bodyPost_ret (by simp [results, Try.results29, go_sem, *]; try rfl) rfl ?_)
    exact ⟨rfl, by (repeat' first | exact Below.refl _ _ | with_reducible refine Below.drew ?_ | with_reducible refine Below.drewN ?_ _ | with_reducible refine Below.alloc' ?_ _ | with_reducible refine Below.setCell ?_ (by first | exact Nat.le_refl _ | (simp; done) | (simp; omega)) _ | with_reducible refine Below.after ?_ ‹_›)⟩
  · have H := Lib.hid h
    cases hp : byB y
    · have e : widenV a b y = (0, 0, 1) := by simp [widenV, hp]
      rw [e]
      have hc : y < 0 ∨ (0 ≤ y ∧ 70368744177664 < y) := by
        simp [byB] at hp
        omega
      clear e h hp
      rcases hc with hc | ⟨hc0, hc⟩
      all_goals
        go_enter Try.func29, Try.ntmps29
        go_wp2_with fail
        refine (rValid_yes _ _ _ H.out).mono ?_
        rintro e w1 ⟨rfl, hb1⟩
        have q23 := kept hb1 (p := ⟨w.heap.size + 1, 0, none⟩) (v := .int .i64 0) (by first | ((repeat' first | with_reducible assumption | with_reducible refine cellA ?_ | with_reducible refine cellD ?_); done) | (simp [go_sem]; done) | (simp [go_sem, *]; done))
        have y23 := World.block_lt_of_cell? _ _ q23
        simp only [] at y23
        have z23 := keptF hb1 (p := ⟨w.heap.size + 1, 0, none⟩) (v := .int .i64 0) (by first | ((repeat' first | with_reducible assumption | with_reducible refine cellA ?_ | with_reducible refine cellD ?_); done) | (simp [go_sem]; done) | (simp [go_sem, *]; done)) (by first | ((repeat' first | with_reducible assumption | with_reducible refine frozA (v := .int .i64 0) (by first | ((repeat' first | with_reducible assumption | with_reducible refine cellA ?_ | with_reducible refine cellD ?_); done) | (simp [go_sem]; done) | (simp [go_sem, *]; done)) ?_ | with_reducible refine frozD ?_); done) | (simp [go_sem]; done) | (simp [go_sem, *]; done))
        have q24 := kept hb1 (p := ⟨w.heap.size + 1, 1, none⟩) (v := .int .i64 0) (by first | ((repeat' first | with_reducible assumption | with_reducible refine cellA ?_ | with_reducible refine cellD ?_); done) | (simp [go_sem]; done) | (simp [go_sem, *]; done))
        have z24 := keptF hb1 (p := ⟨w.heap.size + 1, 1, none⟩) (v := .int .i64 0) (by first | ((repeat' first | with_reducible assumption | with_reducible refine cellA ?_ | with_reducible refine cellD ?_); done) | (simp [go_sem]; done) | (simp [go_sem, *]; done)) (by first | ((repeat' first | with_reducible assumption | with_reducible refine frozA (v := .int .i64 0) (by first | ((repeat' first | with_reducible assumption | with_reducible refine cellA ?_ | with_reducible refine cellD ?_); done) | (simp [go_sem]; done) | (simp [go_sem, *]; done)) ?_ | with_reducible refine frozD ?_); done) | (simp [go_sem]; done) | (simp [go_sem, *]; done))
        have s1 := hb1.size
        go_wp2
        ((try simp only [Exit.inBlock, Exit.then]); refine bodyPost_ret (by simp [results, Try.results29, go_sem, *]; try rfl) rfl ?_)
        exact ⟨rfl, by (repeat' first | exact Below.refl _ _ | with_reducible refine Below.drew ?_ | with_reducible refine Below.drewN ?_ _ | with_reducible refine Below.alloc' ?_ _ | with_reducible refine Below.setCell ?_ (by first | exact Nat.le_refl _ | (simp; done) | (simp; omega)) _ | with_reducible refine Below.after ?_ ‹_›)⟩
    · have e : widenV a b y = chkV (a - y) (b + y) := by simp [widenV, h, hp]
      rw [e]
      have hab := vB_true.1 h
      have hc : 0 ≤ y ∧ y ≤ 70368744177664 := by simpa [byB] using hp
      have La : -70368744177664 ≤ a ∧ a ≤ 70368744177664 := by omega
      have Lb : -70368744177664 ≤ b ∧ b ≤ 70368744177664 := by omega
      clear e h hp hab
      go_enter Try.func29, Try.ntmps29
      go_wp2_with fail
      refine (rValid_yes _ _ _ H.out).mono ?_
      rintro e w1 ⟨rfl, hb1⟩
      have q25 := kept hb1 (p := ⟨w.heap.size, 0, none⟩) (v := .int .i64 a) (by first | ((repeat' first | with_reducible assumption | with_reducible refine cellA ?_ | with_reducible refine cellD ?_); done) | (simp [go_sem]; done) | (simp [go_sem, *]; done))
      have y25 := World.block_lt_of_cell? _ _ q25
      simp only [] at y25
      have q26 := kept hb1 (p := ⟨w.heap.size, 1, none⟩) (v := .int .i64 b) (by first | ((repeat' first | with_reducible assumption | with_reducible refine cellA ?_ | with_reducible refine cellD ?_); done) | (simp [go_sem]; done) | (simp [go_sem, *]; done))
      have q27 := kept hb1 (p := ⟨w.heap.size + 1, 0, none⟩) (v := .int .i64 0) (by first | ((repeat' first | with_reducible assumption | with_reducible refine cellA ?_ | with_reducible refine cellD ?_); done) | (simp [go_sem]; done) | (simp [go_sem, *]; done))
      have y27 := World.block_lt_of_cell? _ _ q27
      simp only [] at y27
      have z27 := keptF hb1 (p := ⟨w.heap.size + 1, 0, none⟩) (v := .int .i64 0) (by first | ((repeat' first | with_reducible assumption | with_reducible refine cellA ?_ | with_reducible refine cellD ?_); done) | (simp [go_sem]; done) | (simp [go_sem, *]; done)) (by first | ((repeat' first | with_reducible assumption | with_reducible refine frozA (v := .int .i64 0) (by first | ((repeat' first | with_reducible assumption | with_reducible refine cellA ?_ | with_reducible refine cellD ?_); done) | (simp [go_sem]; done) | (simp [go_sem, *]; done)) ?_ | with_reducible refine frozD ?_); done) | (simp [go_sem]; done) | (simp [go_sem, *]; done))
      have q28 := kept hb1 (p := ⟨w.heap.size + 1, 1, none⟩) (v := .int .i64 0) (by first | ((repeat' first | with_reducible assumption | with_reducible refine cellA ?_ | with_reducible refine cellD ?_); done) | (simp [go_sem]; done) | (simp [go_sem, *]; done))
      have z28 := keptF hb1 (p := ⟨w.heap.size + 1, 1, none⟩) (v := .int .i64 0) (by first | ((repeat' first | with_reducible assumption | with_reducible refine cellA ?_ | with_reducible refine cellD ?_); done) | (simp [go_sem]; done) | (simp [go_sem, *]; done)) (by first | ((repeat' first | with_reducible assumption | with_reducible refine frozA (v := .int .i64 0) (by first | ((repeat' first | with_reducible assumption | with_reducible refine cellA ?_ | with_reducible refine cellD ?_); done) | (simp [go_sem]; done) | (simp [go_sem, *]; done)) ?_ | with_reducible refine frozD ?_); done) | (simp [go_sem]; done) | (simp [go_sem, *]; done))
      have s1 := hb1.size
      simp at s1
      go_wp2_with fail
      refine (rChecked_any _ _ _).mono ?_
      rintro e w2 ⟨rfl, hb2⟩
      have q29 := kept hb2 (p := ⟨w.heap.size + 1, 0, none⟩) (v := .int .i64 0) (by first | ((repeat' first | with_reducible assumption | with_reducible refine cellA ?_ | with_reducible refine cellD ?_); done) | (simp [go_sem]; done) | (simp [go_sem, *]; done))
      have y29 := World.block_lt_of_cell? _ _ q29
      simp only [] at y29
      have z29 := keptF hb2 (p := ⟨w.heap.size + 1, 0, none⟩) (v := .int .i64 0) (by first | ((repeat' first | with_reducible assumption | with_reducible refine cellA ?_ | with_reducible refine cellD ?_); done) | (simp [go_sem]; done) | (simp [go_sem, *]; done)) (by first | ((repeat' first | with_reducible assumption | with_reducible refine frozA (v := .int .i64 0) (by first | ((repeat' first | with_reducible assumption | with_reducible refine cellA ?_ | with_reducible refine cellD ?_); done) | (simp [go_sem]; done) | (simp [go_sem, *]; done)) ?_ | with_reducible refine frozD ?_); done) | (simp [go_sem]; done) | (simp [go_sem, *]; done))
      have q30 := kept hb2 (p := ⟨w.heap.size + 1, 1, none⟩) (v := .int .i64 0) (by first | ((repeat' first | with_reducible assumption | with_reducible refine cellA ?_ | with_reducible refine cellD ?_); done) | (simp [go_sem]; done) | (simp [go_sem, *]; done))
      have z30 := keptF hb2 (p := ⟨w.heap.size + 1, 1, none⟩) (v := .int .i64 0) (by first | ((repeat' first | with_reducible assumption | with_reducible refine cellA ?_ | with_reducible refine cellD ?_); done) | (simp [go_sem]; done) | (simp [go_sem, *]; done)) (by first | ((repeat' first | with_reducible assumption | with_reducible refine frozA (v := .int .i64 0) (by first | ((repeat' first | with_reducible assumption | with_reducible refine cellA ?_ | with_reducible refine cellD ?_); done) | (simp [go_sem]; done) | (simp [go_sem, *]; done)) ?_ | with_reducible refine frozD ?_); done) | (simp [go_sem]; done) | (simp [go_sem, *]; done))
      have s2 := hb2.size
      unfold res
      go_wp2
      ((try simp only [Exit.inBlock, Exit.then]); refine bodyPost_ret (by simp [results, Try.results29, go_sem, *]; try rfl) rfl ?_)
      exact ⟨rfl, by (repeat' first | exact Below.refl _ _ | with_reducible refine Below.drew ?_ | with_reducible refine Below.drewN ?_ _ | with_reducible refine Below.alloc' ?_ _ | with_reducible refine Below.setCell ?_ (by first | exact Nat.le_refl _ | (simp; done) | (simp; omega)) _ | with_reducible refine Below.after ?_ ‹_›)⟩

set_option maxHeartbeats 1000000 in
theorem rAdd_any (a b c d : Int) (w : World) :
    Calls Try.prog 19 #[.agg #[.int .i64 a, .int .i64 b], .agg #[.int .i64 c, .int .i64 d]] w fun e w' => e = .returned (res (addV a b c d)) ∧ Below w.heap.size w w' := by
  cases ha : vB a b
  · have e : addV a b c d = (0, 0, 1) := by simp [addV, ha]
    rw [e]
    have H := Lib.hid ha
    clear e ha
    go_enter Try.func19, Try.ntmps19
    go_wp2_with fail
    refine (rValid_no _ _ _ H.out).mono ?_
    rintro e w1 ⟨rfl, hb1⟩
    have q31 := kept hb1 (p := ⟨w.heap.size + 1 + 1, 0, none⟩) (v := .int .i64 0) (by first | ((repeat' first | with_reducible assumption | with_reducible refine cellA ?_ | with_reducible refine cellD ?_); done) | (simp [go_sem]; done) | (simp [go_sem, *]; done))
    have y31 := World.block_lt_of_cell? _ _ q31
    simp only [] at y31
    have z31 := keptF hb1 (p := ⟨w.heap.size + 1 + 1, 0, none⟩) (v := .int .i64 0) (by first | ((repeat' first | with_reducible assumption | with_reducible refine cellA ?_ | with_reducible refine cellD ?_); done) | (simp [go_sem]; done) | (simp [go_sem, *]; done)) (by first | ((repeat' first | with_reducible assumption | with_reducible refine frozA (v := .int .i64 0) (by first | ((repeat' first | with_reducible assumption | with_reducible refine cellA ?_ | with_reducible refine cellD ?_); done) | (simp [go_sem]; done) | (simp [go_sem, *]; done)) ?_ | with_reducible refine frozD ?_); done) | (simp [go_sem]; done) | (simp [go_sem, *]; done))
    have q32 := kept hb1 (p := ⟨w.heap.size + 1 + 1, 1, none⟩) (v := .int .i64 0) (by first | ((repeat' first | with_reducible assumption | with_reducible refine cellA ?_ | with_reducible refine cellD ?_); done) | (simp [go_sem]; done) | (simp [go_sem, *]; done))
    have z32 := keptF hb1 (p := ⟨w.heap.size + 1 + 1, 1, none⟩) (v := .int .i64 0) (by first | ((repeat' first | with_reducible assumption | with_reducible refine cellA ?_ | with_reducible refine cellD ?_); done) | (simp [go_sem]; done) | (simp [go_sem, *]; done)) (by first | ((repeat' first | with_reducible assumption | with_reducible refine frozA (v := .int .i64 0) (by first | ((repeat' first | with_reducible assumption | with_reducible refine cellA ?_ | with_reducible refine cellD ?_); done) | (simp [go_sem]; done) | (simp [go_sem, *]; done)) ?_ | with_reducible refine frozD ?_); done) | (simp [go_sem]; done) | (simp [go_sem, *]; done))
    have s1 := hb1.size
    go_wp2
    ((try simp only [Exit.inBlock, Exit.then]); refine bodyPost_ret (by simp [results, Try.results19, go_sem, *]; try rfl) rfl ?_)
    exact ⟨rfl, by (repeat' first | exact Below.refl _ _ | with_reducible refine Below.drew ?_ | with_reducible refine Below.drewN ?_ _ | with_reducible refine Below.alloc' ?_ _ | with_reducible refine Below.setCell ?_ (by first | exact Nat.le_refl _ | (simp; done) | (simp; omega)) _ | with_reducible refine Below.after ?_ ‹_›)⟩
  · have H := Lib.hid ha
    cases hc : vB c d
    · have e : addV a b c d = (0, 0, 1) := by simp [addV, hc]
      rw [e]
      have H2 := Lib.hid hc
      clear e ha hc
      go_enter Try.func19, Try.ntmps19
      go_wp2_with fail
      refine (rValid_yes _ _ _ H.out).mono ?_
      rintro e w1 ⟨rfl, hb1⟩
      have q33 := kept hb1 (p := ⟨w.heap.size + 1, 0, none⟩) (v := .int .i64 c) (by first | ((repeat' first | with_reducible assumption | with_reducible refine cellA ?_ | with_reducible refine cellD ?_); done) | (simp [go_sem]; done) | (simp [go_sem, *]; done))
      have y33 := World.block_lt_of_cell? _ _ q33
      simp only [] at y33
      have q34 := kept hb1 (p := ⟨w.heap.size + 1, 1, none⟩) (v := .int .i64 d) (by first | ((repeat' first | with_reducible assumption | with_reducible refine cellA ?_ | with_reducible refine cellD ?_); done) | (simp [go_sem]; done) | (simp [go_sem, *]; done))
      have q35 := kept hb1 (p := ⟨w.heap.size + 1 + 1, 0, none⟩) (v := .int .i64 0) (by first | ((repeat' first | with_reducible assumption | with_reducible refine cellA ?_ | with_reducible refine cellD ?_); done) | (simp [go_sem]; done) | (simp [go_sem, *]; done))
      have y35 := World.block_lt_of_cell? _ _ q35
      simp only [] at y35
      have z35 := keptF hb1 (p := ⟨w.heap.size + 1 + 1, 0, none⟩) (v := .int .i64 0) (by first | ((repeat' first | with_reducible assumption | with_reducible refine cellA ?_ | with_reducible refine cellD ?_); done) | (simp [go_sem]; done) | (simp [go_sem, *]; done)) (by first | ((repeat' first | with_reducible assumption | with_reducible refine frozA (v := .int .i64 0) (by first | ((repeat' first | with_reducible assumption | with_reducible refine cellA ?_ | with_reducible refine cellD ?_); done) | (simp [go_sem]; done) | (simp [go_sem, *]; done)) ?_ | with_reducible refine frozD ?_); done) | (simp [go_sem]; done) | (simp [go_sem, *]; done))
      have q36 := kept hb1 (p := ⟨w.heap.size + 1 + 1, 1, none⟩) (v := .int .i64 0) (by first | ((repeat' first | with_reducible assumption | with_reducible refine cellA ?_ | with_reducible refine cellD ?_); done) | (simp [go_sem]; done) | (simp [go_sem, *]; done))
      have z36 := keptF hb1 (p := ⟨w.heap.size + 1 + 1, 1, none⟩) (v := .int .i64 0) (by first | ((repeat' first | with_reducible assumption | with_reducible refine cellA ?_ | with_reducible refine cellD ?_); done) | (simp [go_sem]; done) | (simp [go_sem, *]; done)) (by first | ((repeat' first | with_reducible assumption | with_reducible refine frozA (v := .int .i64 0) (by first | ((repeat' first | with_reducible assumption | with_reducible refine cellA ?_ | with_reducible refine cellD ?_); done) | (simp [go_sem]; done) | (simp [go_sem, *]; done)) ?_ | with_reducible refine frozD ?_); done) | (simp [go_sem]; done) | (simp [go_sem, *]; done))
      have s1 := hb1.size
      simp at s1
      go_wp2_with fail
      refine (rValid_no _ _ _ H2.out).mono ?_
      rintro e w2 ⟨rfl, hb2⟩
      have q37 := kept hb2 (p := ⟨w.heap.size + 1 + 1, 0, none⟩) (v := .int .i64 0) (by first | ((repeat' first | with_reducible assumption | with_reducible refine cellA ?_ | with_reducible refine cellD ?_); done) | (simp [go_sem]; done) | (simp [go_sem, *]; done))
      have y37 := World.block_lt_of_cell? _ _ q37
      simp only [] at y37
      have z37 := keptF hb2 (p := ⟨w.heap.size + 1 + 1, 0, none⟩) (v := .int .i64 0) (by first | ((repeat' first | with_reducible assumption | with_reducible refine cellA ?_ | with_reducible refine cellD ?_); done) | (simp [go_sem]; done) | (simp [go_sem, *]; done)) (by first | ((repeat' first | with_reducible assumption | with_reducible refine frozA (v := .int .i64 0) (by first | ((repeat' first | with_reducible assumption | with_reducible refine cellA ?_ | with_reducible refine cellD ?_); done) | (simp [go_sem]; done) | (simp [go_sem, *]; done)) ?_ | with_reducible refine frozD ?_); done) | (simp [go_sem]; done) | (simp [go_sem, *]; done))
      have q38 := kept hb2 (p := ⟨w.heap.size + 1 + 1, 1, none⟩) (v := .int .i64 0) (by first | ((repeat' first | with_reducible assumption | with_reducible refine cellA ?_ | with_reducible refine cellD ?_); done) | (simp [go_sem]; done) | (simp [go_sem, *]; done))
      have z38 := keptF hb2 (p := ⟨w.heap.size + 1 + 1, 1, none⟩) (v := .int .i64 0) (by first | ((repeat' first | with_reducible assumption | with_reducible refine cellA ?_ | with_reducible refine cellD ?_); done) | (simp [go_sem]; done) | (simp [go_sem, *]; done)) (by first | ((repeat' first | with_reducible assumption | with_reducible refine frozA (v := .int .i64 0) (by first | ((repeat' first | with_reducible assumption | with_reducible refine cellA ?_ | with_reducible refine cellD ?_); done) | (simp [go_sem]; done) | (simp [go_sem, *]; done)) ?_ | with_reducible refine frozD ?_); done) | (simp [go_sem]; done) | (simp [go_sem, *]; done))
      have s2 := hb2.size
      go_wp2
      ((try simp only [Exit.inBlock, Exit.then]); refine bodyPost_ret (by simp [results, Try.results19, go_sem, *]; try rfl) rfl ?_)
      exact ⟨rfl, by (repeat' first | exact Below.refl _ _ | with_reducible refine Below.drew ?_ | with_reducible refine Below.drewN ?_ _ | with_reducible refine Below.alloc' ?_ _ | with_reducible refine Below.setCell ?_ (by first | exact Nat.le_refl _ | (simp; done) | (simp; omega)) _ | with_reducible refine Below.after ?_ ‹_›)⟩
    · have H2 := Lib.hid hc
      have La := vB_true.1 ha
      have Lc := vB_true.1 hc
      have L1 : a ≤ 70368744177664 := by omega
      have L2 : -70368744177664 ≤ b := by omega
      have L3 : c ≤ 70368744177664 := by omega
      have L4 : -70368744177664 ≤ d := by omega
      have e0 : (vB a b && vB c d) = true := by rw [ha, hc]; rfl
      clear ha hc
      have e : addV a b c d = chkV (a + c) (b + d) := by unfold addV; rw [if_pos e0]
      rw [e]
      clear e e0
      go_enter Try.func19, Try.ntmps19
      go_wp2_with fail
      refine (rValid_yes _ _ _ H.out).mono ?_
      rintro e w1 ⟨rfl, hb1⟩
      have q39 := kept hb1 (p := ⟨w.heap.size, 0, none⟩) (v := .int .i64 a) (by first | ((repeat' first | with_reducible assumption | with_reducible refine cellA ?_ | with_reducible refine cellD ?_); done) | (simp [go_sem]; done) | (simp [go_sem, *]; done))
      have y39 := World.block_lt_of_cell? _ _ q39
      simp only [] at y39
      have q40 := kept hb1 (p := ⟨w.heap.size, 1, none⟩) (v := .int .i64 b) (by first | ((repeat' first | with_reducible assumption | with_reducible refine cellA ?_ | with_reducible refine cellD ?_); done) | (simp [go_sem]; done) | (simp [go_sem, *]; done))
      have q41 := kept hb1 (p := ⟨w.heap.size + 1, 0, none⟩) (v := .int .i64 c) (by first | ((repeat' first | with_reducible assumption | with_reducible refine cellA ?_ | with_reducible refine cellD ?_); done) | (simp [go_sem]; done) | (simp [go_sem, *]; done))
      have y41 := World.block_lt_of_cell? _ _ q41
      simp only [] at y41
      have q42 := kept hb1 (p := ⟨w.heap.size + 1, 1, none⟩) (v := .int .i64 d) (by first | ((repeat' first | with_reducible assumption | with_reducible refine cellA ?_ | with_reducible refine cellD ?_); done) | (simp [go_sem]; done) | (simp [go_sem, *]; done))
      have q43 := kept hb1 (p := ⟨w.heap.size + 1 + 1, 0, none⟩) (v := .int .i64 0) (by first | ((repeat' first | with_reducible assumption | with_reducible refine cellA ?_ | with_reducible refine cellD ?_); done) | (simp [go_sem]; done) | (simp [go_sem, *]; done))
      have y43 := World.block_lt_of_cell? _ _ q43
      simp only [] at y43
      have z43 := keptF hb1 (p := ⟨w.heap.size + 1 + 1, 0, none⟩) (v := .int .i64 0) (by first | ((repeat' first | with_reducible assumption | with_reducible refine cellA ?_ | with_reducible refine cellD ?_); done) | (simp [go_sem]; done) | (simp [go_sem, *]; done)) (by first | ((repeat' first | with_reducible assumption | with_reducible refine frozA (v := .int .i64 0) (by first | ((repeat' first | with_reducible assumption | with_reducible refine cellA ?_ | with_reducible refine cellD ?_); done) | (simp [go_sem]; done) | (simp [go_sem, *]; done)) ?_ | with_reducible refine frozD ?_); done) | (simp [go_sem]; done) | (simp [go_sem, *]; done))
      have q44 := kept hb1 (p := ⟨w.heap.size + 1 + 1, 1, none⟩) (v := .int .i64 0) (by first | ((repeat' first | with_reducible assumption | with_reducible refine cellA ?_ | with_reducible refine cellD ?_); done) | (simp [go_sem]; done) | (simp [go_sem, *]; done))
      have z44 := keptF hb1 (p := ⟨w.heap.size + 1 + 1, 1, none⟩) (v := .int .i64 0) (by first | ((repeat' first | with_reducible assumption | with_reducible refine cellA ?_ | with_reducible refine cellD ?_); done) | (simp [go_sem]; done) | (simp [go_sem, *]; done)) (by first | ((repeat' first | with_reducible assumption | with_reducible refine frozA (v := .int .i64 0) (by first | ((repeat' first | with_reducible assumption | with_reducible refine cellA ?_ | with_reducible refine cellD ?_); done) | (simp [go_sem]; done) | (simp [go_sem, *]; done)) ?_ | with_reducible refine frozD ?_); done) | (simp [go_sem]; done) | (simp [go_sem, *]; done))
      have s1 := hb1.size
      simp at s1
      go_wp2_with fail
      refine (rValid_yes _ _ _ H2.out).mono ?_
      rintro e w2 ⟨rfl, hb2⟩
      have q45 := kept hb2 (p := ⟨w.heap.size, 0, none⟩) (v := .int .i64 a) (by first | ((repeat' first | with_reducible assumption | with_reducible refine cellA ?_ | with_reducible refine cellD ?_); done) | (simp [go_sem]; done) | (simp [go_sem, *]; done))
      have y45 := World.block_lt_of_cell? _ _ q45
      simp only [] at y45
      have q46 := kept hb2 (p := ⟨w.heap.size, 1, none⟩) (v := .int .i64 b) (by first | ((repeat' first | with_reducible assumption | with_reducible refine cellA ?_ | with_reducible refine cellD ?_); done) | (simp [go_sem]; done) | (simp [go_sem, *]; done))
      have q47 := kept hb2 (p := ⟨w.heap.size + 1, 0, none⟩) (v := .int .i64 c) (by first | ((repeat' first | with_reducible assumption | with_reducible refine cellA ?_ | with_reducible refine cellD ?_); done) | (simp [go_sem]; done) | (simp [go_sem, *]; done))
      have y47 := World.block_lt_of_cell? _ _ q47
      simp only [] at y47
      have q48 := kept hb2 (p := ⟨w.heap.size + 1, 1, none⟩) (v := .int .i64 d) (by first | ((repeat' first | with_reducible assumption | with_reducible refine cellA ?_ | with_reducible refine cellD ?_); done) | (simp [go_sem]; done) | (simp [go_sem, *]; done))
      have q49 := kept hb2 (p := ⟨w.heap.size + 1 + 1, 0, none⟩) (v := .int .i64 0) (by first | ((repeat' first | with_reducible assumption | with_reducible refine cellA ?_ | with_reducible refine cellD ?_); done) | (simp [go_sem]; done) | (simp [go_sem, *]; done))
      have y49 := World.block_lt_of_cell? _ _ q49
      simp only [] at y49
      have z49 := keptF hb2 (p := ⟨w.heap.size + 1 + 1, 0, none⟩) (v := .int .i64 0) (by first | ((repeat' first | with_reducible assumption | with_reducible refine cellA ?_ | with_reducible refine cellD ?_); done) | (simp [go_sem]; done) | (simp [go_sem, *]; done)) (by first | ((repeat' first | with_reducible assumption | with_reducible refine frozA (v := .int .i64 0) (by first | ((repeat' first | with_reducible assumption | with_reducible refine cellA ?_ | with_reducible refine cellD ?_); done) | (simp [go_sem]; done) | (simp [go_sem, *]; done)) ?_ | with_reducible refine frozD ?_); done) | (simp [go_sem]; done) | (simp [go_sem, *]; done))
      have q50 := kept hb2 (p := ⟨w.heap.size + 1 + 1, 1, none⟩) (v := .int .i64 0) (by first | ((repeat' first | with_reducible assumption | with_reducible refine cellA ?_ | with_reducible refine cellD ?_); done) | (simp [go_sem]; done) | (simp [go_sem, *]; done))
      have z50 := keptF hb2 (p := ⟨w.heap.size + 1 + 1, 1, none⟩) (v := .int .i64 0) (by first | ((repeat' first | with_reducible assumption | with_reducible refine cellA ?_ | with_reducible refine cellD ?_); done) | (simp [go_sem]; done) | (simp [go_sem, *]; done)) (by first | ((repeat' first | with_reducible assumption | with_reducible refine frozA (v := .int .i64 0) (by first | ((repeat' first | with_reducible assumption | with_reducible refine cellA ?_ | with_reducible refine cellD ?_); done) | (simp [go_sem]; done) | (simp [go_sem, *]; done)) ?_ | with_reducible refine frozD ?_); done) | (simp [go_sem]; done) | (simp [go_sem, *]; done))
      have s2 := hb2.size
      go_wp2_with fail
      refine (rChecked_any _ _ _).mono ?_
      rintro e w3 ⟨rfl, hb3⟩
      have q51 := kept hb3 (p := ⟨w.heap.size + 1 + 1, 0, none⟩) (v := .int .i64 0) (by first | ((repeat' first | with_reducible assumption | with_reducible refine cellA ?_ | with_reducible refine cellD ?_); done) | (simp [go_sem]; done) | (simp [go_sem, *]; done))
      have y51 := World.block_lt_of_cell? _ _ q51
      simp only [] at y51
      have z51 := keptF hb3 (p := ⟨w.heap.size + 1 + 1, 0, none⟩) (v := .int .i64 0) (by first | ((repeat' first | with_reducible assumption | with_reducible refine cellA ?_ | with_reducible refine cellD ?_); done) | (simp [go_sem]; done) | (simp [go_sem, *]; done)) (by first | ((repeat' first | with_reducible assumption | with_reducible refine frozA (v := .int .i64 0) (by first | ((repeat' first | with_reducible assumption | with_reducible refine cellA ?_ | with_reducible refine cellD ?_); done) | (simp [go_sem]; done) | (simp [go_sem, *]; done)) ?_ | with_reducible refine frozD ?_); done) | (simp [go_sem]; done) | (simp [go_sem, *]; done))
      have q52 := kept hb3 (p := ⟨w.heap.size + 1 + 1, 1, none⟩) (v := .int .i64 0) (by first | ((repeat' first | with_reducible assumption | with_reducible refine cellA ?_ | with_reducible refine cellD ?_); done) | (simp [go_sem]; done) | (simp [go_sem, *]; done))
      have z52 := keptF hb3 (p := ⟨w.heap.size + 1 + 1, 1, none⟩) (v := .int .i64 0) (by first | ((repeat' first | with_reducible assumption | with_reducible refine cellA ?_ | with_reducible refine cellD ?_); done) | (simp [go_sem]; done) | (simp [go_sem, *]; done)) (by first | ((repeat' first | with_reducible assumption | with_reducible refine frozA (v := .int .i64 0) (by first | ((repeat' first | with_reducible assumption | with_reducible refine cellA ?_ | with_reducible refine cellD ?_); done) | (simp [go_sem]; done) | (simp [go_sem, *]; done)) ?_ | with_reducible refine frozD ?_); done) | (simp [go_sem]; done) | (simp [go_sem, *]; done))
      have s3 := hb3.size
      unfold res
      go_wp2
      ((try simp only [Exit.inBlock, Exit.then]); refine bodyPost_ret (by simp [results, Try.results19, go_sem, *]; try rfl) rfl ?_)
      exact ⟨rfl, by (repeat' first | exact Below.refl _ _ | with_reducible refine Below.drew ?_ | with_reducible refine Below.drewN ?_ _ | with_reducible refine Below.alloc' ?_ _ | with_reducible refine Below.setCell ?_ (by first | exact Nat.le_refl _ | (simp; done) | (simp; omega)) _ | with_reducible refine Below.after ?_ ‹_›)⟩

set_option maxHeartbeats 1000000 in
theorem rSub_any (a b c d : Int) (w : World) :
    Calls Try.prog 21 #[.agg #[.int .i64 a, .int .i64 b], .agg #[.int .i64 c, .int .i64 d]] w fun e w' => e = .returned (res (subV a b c d)) ∧ Below w.heap.size w w' := by
  cases ha : vB a b
  · have e : subV a b c d = (0, 0, 1) := by simp [subV, ha]
    rw [e]
    have H := Lib.hid ha
    clear e ha
    go_enter Try.func21, Try.ntmps21
    go_wp2_with fail
    refine (rValid_no _ _ _ H.out).mono ?_
    rintro e w1 ⟨rfl, hb1⟩
    have q53 := kept hb1 (p := ⟨w.heap.size + 1 + 1, 0, none⟩) (v := .int .i64 0) (by first | ((repeat' first | with_reducible assumption | with_reducible refine cellA ?_ | with_reducible refine cellD ?_); done) | (simp [go_sem]; done) | (simp [go_sem, *]; done))
    have y53 := World.block_lt_of_cell? _ _ q53
    simp only [] at y53
    have z53 := keptF hb1 (p := ⟨w.heap.size + 1 + 1, 0, none⟩) (v := .int .i64 0) (by first | ((repeat' first | with_reducible assumption | with_reducible refine cellA ?_ | with_reducible refine cellD ?_); done) | (simp [go_sem]; done) | (simp [go_sem, *]; done)) (by first | ((repeat' first | with_reducible assumption | with_reducible refine frozA (v := .int .i64 0) (by first | ((repeat' first | with_reducible assumption | with_reducible refine cellA ?_ | with_reducible refine cellD ?_); done) | (simp [go_sem]; done) | (simp [go_sem, *]; done)) ?_ | with_reducible refine frozD ?_); done) | (simp [go_sem]; done) | (simp [go_sem, *]; done))
    have q54 := kept hb1 (p := ⟨w.heap.size + 1 + 1, 1, none⟩) (v := .int .i64 0) (by first | ((repeat' first | with_reducible assumption | with_reducible refine cellA ?_ | with_reducible refine cellD ?_); done) | (simp [go_sem]; done) | (simp [go_sem, *]; done))
    have z54 := keptF hb1 (p := ⟨w.heap.size + 1 + 1, 1, none⟩) (v := .int .i64 0) (by first | ((repeat' first | with_reducible assumption | with_reducible refine cellA ?_ | with_reducible refine cellD ?_); done) | (simp [go_sem]; done) | (simp [go_sem, *]; done)) (by first | ((repeat' first | with_reducible assumption | with_reducible refine frozA (v := .int .i64 0) (by first | ((repeat' first | with_reducible assumption | with_reducible refine cellA ?_ | with_reducible refine cellD ?_); done) | (simp [go_sem]; done) | (simp [go_sem, *]; done)) ?_ | with_reducible refine frozD ?_); done) | (simp [go_sem]; done) | (simp [go_sem, *]; done))
    have s1 := hb1.size
    go_wp2
    ((try simp only [Exit.inBlock, Exit.then]); refine bodyPost_ret (by simp [results, Try.results21, go_sem, *]; try rfl) rfl ?_)
    exact ⟨rfl, by (repeat' first | exact Below.refl _ _ | with_reducible refine Below.drew ?_ | with_reducible refine Below.drewN ?_ _ | with_reducible refine Below.alloc' ?_ _ | with_reducible refine Below.setCell ?_ (by first | exact Nat.le_refl _ | (simp; done) | (simp; omega)) _ | with_reducible refine Below.after ?_ ‹_›)⟩
  · have H := Lib.hid ha
    cases hc : vB c d
    · have e : subV a b c d = (0, 0, 1) := by simp [subV, hc]
      rw [e]
      have H2 := Lib.hid hc
      clear e ha hc
      go_enter Try.func21, Try.ntmps21
      go_wp2_with fail
      refine (rValid_yes _ _ _ H.out).mono ?_
      rintro e w1 ⟨rfl, hb1⟩
      have q55 := kept hb1 (p := ⟨w.heap.size + 1, 0, none⟩) (v := .int .i64 c) (by first | ((repeat' first | with_reducible assumption | with_reducible refine cellA ?_ | with_reducible refine cellD ?_); done) | (simp [go_sem]; done) | (simp [go_sem, *]; done))
      have y55 := World.block_lt_of_cell? _ _ q55
      simp only [] at y55
      have q56 := kept hb1 (p := ⟨w.heap.size + 1, 1, none⟩) (v := .int .i64 d) (by first | ((repeat' first | with_reducible assumption | with_reducible refine cellA ?_ | with_reducible refine cellD ?_); done) | (simp [go_sem]; done) | (simp [go_sem, *]; done))
      have q57 := kept hb1 (p := ⟨w.heap.size + 1 + 1, 0, none⟩) (v := .int .i64 0) (by first | ((repeat' first | with_reducible assumption | with_reducible refine cellA ?_ | with_reducible refine cellD ?_); done) | (simp [go_sem]; done) | (simp [go_sem, *]; done))
      have y57 := World.block_lt_of_cell? _ _ q57
      simp only [] at y57
      have z57 := keptF hb1 (p := ⟨w.heap.size + 1 + 1, 0, none⟩) (v := .int .i64 0) (by first | ((repeat' first | with_reducible assumption | with_reducible refine cellA ?_ | with_reducible refine cellD ?_); done) | (simp [go_sem]; done) | (simp [go_sem, *]; done)) (by first | ((repeat' first | with_reducible assumption | with_reducible refine frozA (v := .int .i64 0) (by first | ((repeat' first | with_reducible assumption | with_reducible refine cellA ?_ | with_reducible refine cellD ?_); done) | (simp [go_sem]; done) | (simp [go_sem, *]; done)) ?_ | with_reducible refine frozD ?_); done) | (simp [go_sem]; done) | (simp [go_sem, *]; done))
      have q58 := kept hb1 (p := ⟨w.heap.size + 1 + 1, 1, none⟩) (v := .int .i64 0) (by first | ((repeat' first | with_reducible assumption | with_reducible refine cellA ?_ | with_reducible refine cellD ?_); done) | (simp [go_sem]; done) | (simp [go_sem, *]; done))
      have z58 := keptF hb1 (p := ⟨w.heap.size + 1 + 1, 1, none⟩) (v := .int .i64 0) (by first | ((repeat' first | with_reducible assumption | with_reducible refine cellA ?_ | with_reducible refine cellD ?_); done) | (simp [go_sem]; done) | (simp [go_sem, *]; done)) (by first | ((repeat' first | with_reducible assumption | with_reducible refine frozA (v := .int .i64 0) (by first | ((repeat' first | with_reducible assumption | with_reducible refine cellA ?_ | with_reducible refine cellD ?_); done) | (simp [go_sem]; done) | (simp [go_sem, *]; done)) ?_ | with_reducible refine frozD ?_); done) | (simp [go_sem]; done) | (simp [go_sem, *]; done))
      have s1 := hb1.size
      simp at s1
      go_wp2_with fail
      refine (rValid_no _ _ _ H2.out).mono ?_
      rintro e w2 ⟨rfl, hb2⟩
      have q59 := kept hb2 (p := ⟨w.heap.size + 1 + 1, 0, none⟩) (v := .int .i64 0) (by first | ((repeat' first | with_reducible assumption | with_reducible refine cellA ?_ | with_reducible refine cellD ?_); done) | (simp [go_sem]; done) | (simp [go_sem, *]; done))
      have y59 := World.block_lt_of_cell? _ _ q59
      simp only [] at y59
      have z59 := keptF hb2 (p := ⟨w.heap.size + 1 + 1, 0, none⟩) (v := .int .i64 0) (by first | ((repeat' first | with_reducible assumption | with_reducible refine cellA ?_ | with_reducible refine cellD ?_); done) | (simp [go_sem]; done) | (simp [go_sem, *]; done)) (by first | ((repeat' first | with_reducible assumption | with_reducible refine frozA (v := .int .i64 0) (by first | ((repeat' first | with_reducible assumption | with_reducible refine cellA ?_ | with_reducible refine cellD ?_); done) | (simp [go_sem]; done) | (simp [go_sem, *]; done)) ?_ | with_reducible refine frozD ?_); done) | (simp [go_sem]; done) | (simp [go_sem, *]; done))
      have q60 := kept hb2 (p := ⟨w.heap.size + 1 + 1, 1, none⟩) (v := .int .i64 0) (by first | ((repeat' first | with_reducible assumption | with_reducible refine cellA ?_ | with_reducible refine cellD ?_); done) | (simp [go_sem]; done) | (simp [go_sem, *]; done))
      have z60 := keptF hb2 (p := ⟨w.heap.size + 1 + 1, 1, none⟩) (v := .int .i64 0) (by first | ((repeat' first | with_reducible assumption | with_reducible refine cellA ?_ | with_reducible refine cellD ?_); done) | (simp [go_sem]; done) | (simp [go_sem, *]; done)) (by first | ((repeat' first | with_reducible assumption | with_reducible refine frozA (v := .int .i64 0) (by first | ((repeat' first | with_reducible assumption | with_reducible refine cellA ?_ | with_reducible refine cellD ?_); done) | (simp [go_sem]; done) | (simp [go_sem, *]; done)) ?_ | with_reducible refine frozD ?_); done) | (simp [go_sem]; done) | (simp [go_sem, *]; done))
      have s2 := hb2.size
      go_wp2
      ((try simp only [Exit.inBlock, Exit.then]); refine bodyPost_ret (by simp [results, Try.results21, go_sem, *]; try rfl) rfl ?_)
      exact ⟨rfl, by (repeat' first | exact Below.refl _ _ | with_reducible refine Below.drew ?_ | with_reducible refine Below.drewN ?_ _ | with_reducible refine Below.alloc' ?_ _ | with_reducible refine Below.setCell ?_ (by first | exact Nat.le_refl _ | (simp; done) | (simp; omega)) _ | with_reducible refine Below.after ?_ ‹_›)⟩
    · have H2 := Lib.hid hc
      have La := vB_true.1 ha
      have Lc := vB_true.1 hc
      have L1 : a ≤ 70368744177664 := by omega
      have L2 : -70368744177664 ≤ b := by omega
      have L3 : c ≤ 70368744177664 := by omega
      have L4 : -70368744177664 ≤ d := by omega
      have e0 : (vB a b && vB c d) = true := by rw [ha, hc]; rfl
      clear ha hc
      have e : subV a b c d = chkV (a - d) (b - c) := by unfold subV; rw [if_pos e0]
      rw [e]
      clear e e0
      go_enter Try.func21, Try.ntmps21
      go_wp2_with fail
      refine (rValid_yes _ _ _ H.out).mono ?_
      rintro e w1 ⟨rfl, hb1⟩
      have q61 := kept hb1 (p := ⟨w.heap.size, 0, none⟩) (v := .int .i64 a) (by first | ((repeat' first | with_reducible assumption | with_reducible refine cellA ?_ | with_reducible refine cellD ?_); done) | (simp [go_sem]; done) | (simp [go_sem, *]; done))
      have y61 := World.block_lt_of_cell? _ _ q61
      simp only [] at y61
      have q62 := kept hb1 (p := ⟨w.heap.size, 1, none⟩) (v := .int .i64 b) (by first | ((repeat' first | with_reducible assumption | with_reducible refine cellA ?_ | with_reducible refine cellD ?_); done) | (simp [go_sem]; done) | (simp [go_sem, *]; done))
      have q63 := kept hb1 (p := ⟨w.heap.size + 1, 0, none⟩) (v := .int .i64 c) (by first | ((repeat' first | with_reducible assumption | with_reducible refine cellA ?_ | with_reducible refine cellD ?_); done) | (simp [go_sem]; done) | (simp [go_sem, *]; done))
      have y63 := World.block_lt_of_cell? _ _ q63
      simp only [] at y63
      have q64 := kept hb1 (p := ⟨w.heap.size + 1, 1, none⟩) (v := .int .i64 d) (by first | ((repeat' first | with_reducible assumption | with_reducible refine cellA ?_ | with_reducible refine cellD ?_); done) | (simp [go_sem]; done) | (simp [go_sem, *]; done))
      have q65 := kept hb1 (p := ⟨w.heap.size + 1 + 1, 0, none⟩) (v := .int .i64 0) (by first | ((repeat' first | with_reducible assumption | with_reducible refine cellA ?_ | with_reducible refine cellD ?_); done) | (simp [go_sem]; done) | (simp [go_sem, *]; done))
      have y65 := World.block_lt_of_cell? _ _ q65
      simp only [] at y65
      have z65 := keptF hb1 (p := ⟨w.heap.size + 1 + 1, 0, none⟩) (v := .int .i64 0) (by first | ((repeat' first | with_reducible assumption | with_reducible refine cellA ?_ | with_reducible refine cellD ?_); done) | (simp [go_sem]; done) | (simp [go_sem, *]; done)) (by first | ((repeat' first | with_reducible assumption | with_reducible refine frozA (v := .int .i64 0) (by first | ((repeat' first | with_reducible assumption | with_reducible refine cellA ?_ | with_reducible refine cellD ?_); done) | (simp [go_sem]; done) | (simp [go_sem, *]; done)) ?_ | with_reducible refine frozD ?_); done) | (simp [go_sem]; done) | (simp [go_sem, *]; done))
      have q66 := kept hb1 (p := ⟨w.heap.size + 1 + 1, 1, none⟩) (v := .int .i64 0) (by first | ((repeat' first | with_reducible assumption | with_reducible refine cellA ?_ | with_reducible refine cellD ?_); done) | (simp [go_sem]; done) | (simp [go_sem, *]; done))
      have z66 := keptF hb1 (p := ⟨w.heap.size + 1 + 1, 1, none⟩) (v := .int .i64 0) (by first | ((repeat' first | with_reducible assumption | with_reducible refine cellA ?_ | with_reducible refine cellD ?_); done) | (simp [go_sem]; done) | (simp [go_sem, *]; done)) (by first | ((repeat' first | with_reducible assumption | with_reducible refine frozA (v := .int .i64 0) (by first | ((repeat' first | with_reducible assumption | with_reducible refine cellA ?_ | with_reducible refine cellD ?_); done) | (simp [go_sem]; done) | (simp [go_sem, *]; done)) ?_ | with_reducible refine frozD ?_); done) | (simp [go_sem]; done) | (simp [go_sem, *]; done))
      have s1 := hb1.size
      simp at s1
      go_wp2_with fail
      refine (rValid_yes _ _ _ H2.out).mono ?_
      rintro e w2 ⟨rfl, hb2⟩
      have q67 := kept hb2 (p := ⟨w.heap.size, 0, none⟩) (v := .int .i64 a) (by first | ((repeat' first | with_reducible assumption | with_reducible refine cellA ?_ | with_reducible refine cellD ?_); done) | (simp [go_sem]; done) | (simp [go_sem, *]; done))
      have y67 := World.block_lt_of_cell? _ _ q67
      simp only [] at y67
      have q68 := kept hb2 (p := ⟨w.heap.size, 1, none⟩) (v := .int .i64 b) (by first | ((repeat' first | with_reducible assumption | with_reducible refine cellA ?_ | with_reducible refine cellD ?_); done) | (simp [go_sem]; done) | (simp [go_sem, *]; done))
      have q69 := kept hb2 (p := ⟨w.heap.size + 1, 0, none⟩) (v := .int .i64 c) (by first | ((repeat' first | with_reducible assumption | with_reducible refine cellA ?_ | with_reducible refine cellD ?_); done) | (simp [go_sem]; done) | (simp [go_sem, *]; done))
      have y69 := World.block_lt_of_cell? _ _ q69
      simp only [] at y69
      have q70 := kept hb2 (p := ⟨w.heap.size + 1, 1, none⟩) (v := .int .i64 d) (by first | ((repeat' first | with_reducible assumption | with_reducible refine cellA ?_ | with_reducible refine cellD ?_); done) | (simp [go_sem]; done) | (simp [go_sem, *]; done))
      have q71 := kept hb2 (p := ⟨w.heap.size + 1 + 1, 0, none⟩) (v := .int .i64 0) (by first | ((repeat' first | with_reducible assumption | with_reducible refine cellA ?_ | with_reducible refine cellD ?_); done) | (simp [go_sem]; done) | (simp [go_sem, *]; done))
      have y71 := World.block_lt_of_cell? _ _ q71
      simp only [] at y71
      have z71 := keptF hb2 (p := ⟨w.heap.size + 1 + 1, 0, none⟩) (v := .int .i64 0) (by first | ((repeat' first | with_reducible assumption | with_reducible refine cellA ?_ | with_reducible refine cellD ?_); done) | (simp [go_sem]; done) | (simp [go_sem, *]; done)) (by first | ((repeat' first | with_reducible assumption | with_reducible refine frozA (v := .int .i64 0) (by first | ((repeat' first | with_reducible assumption | with_reducible refine cellA ?_ | with_reducible refine cellD ?_); done) | (simp [go_sem]; done) | (simp [go_sem, *]; done)) ?_ | with_reducible refine frozD ?_); done) | (simp [go_sem]; done) | (simp [go_sem, *]; done))
      have q72 := kept hb2 (p := ⟨w.heap.size + 1 + 1, 1, none⟩) (v := .int .i64 0) (by first | ((repeat' first | with_reducible assumption | with_reducible refine cellA ?_ | with_reducible refine cellD ?_); done) | (simp [go_sem]; done) | (simp [go_sem, *]; done))
      have z72 := keptF hb2 (p := ⟨w.heap.size + 1 + 1, 1, none⟩) (v := .int .i64 0) (by first | ((repeat' first | with_reducible assumption | with_reducible refine cellA ?_ | with_reducible refine cellD ?_); done) | (simp [go_sem]; done) | (simp [go_sem, *]; done)) (by first | ((repeat' first | with_reducible assumption | with_reducible refine frozA (v := .int .i64 0) (by first | ((repeat' first | with_reducible assumption | with_reducible refine cellA ?_ | with_reducible refine cellD ?_); done) | (simp [go_sem]; done) | (simp [go_sem, *]; done)) ?_ | with_reducible refine frozD ?_); done) | (simp [go_sem]; done) | (simp [go_sem, *]; done))
      have s2 := hb2.size
      go_wp2_with fail
      refine (rChecked_any _ _ _).mono ?_
      rintro e w3 ⟨rfl, hb3⟩
      have q73 := kept hb3 (p := ⟨w.heap.size + 1 + 1, 0, none⟩) (v := .int .i64 0) (by first | ((repeat' first | with_reducible assumption | with_reducible refine cellA ?_ | with_reducible refine cellD ?_); done) | (simp [go_sem]; done) | (simp [go_sem, *]; done))
      have y73 := World.block_lt_of_cell? _ _ q73
      simp only [] at y73
      have z73 := keptF hb3 (p := ⟨w.heap.size + 1 + 1, 0, none⟩) (v := .int .i64 0) (by first | ((repeat' first | with_reducible assumption | with_reducible refine cellA ?_ | with_reducible refine cellD ?_); done) | (simp [go_sem]; done) | (simp [go_sem, *]; done)) (by first | ((repeat' first | with_reducible assumption | with_reducible refine frozA (v := .int .i64 0) (by first | ((repeat' first | with_reducible assumption | with_reducible refine cellA ?_ | with_reducible refine cellD ?_); done) | (simp [go_sem]; done) | (simp [go_sem, *]; done)) ?_ | with_reducible refine frozD ?_); done) | (simp [go_sem]; done) | (simp [go_sem, *]; done))
      have q74 := kept hb3 (p := ⟨w.heap.size + 1 + 1, 1, none⟩) (v := .int .i64 0) (by first | ((repeat' first | with_reducible assumption | with_reducible refine cellA ?_ | with_reducible refine cellD ?_); done) | (simp [go_sem]; done) | (simp [go_sem, *]; done))
      have z74 := keptF hb3 (p := ⟨w.heap.size + 1 + 1, 1, none⟩) (v := .int .i64 0) (by first | ((repeat' first | with_reducible assumption | with_reducible refine cellA ?_ | with_reducible refine cellD ?_); done) | (simp [go_sem]; done) | (simp [go_sem, *]; done)) (by first | ((repeat' first | with_reducible assumption | with_reducible refine frozA (v := .int .i64 0) (by first | ((repeat' first | with_reducible assumption | with_reducible refine cellA ?_ | with_reducible refine cellD ?_); done) | (simp [go_sem]; done) | (simp [go_sem, *]; done)) ?_ | with_reducible refine frozD ?_); done) | (simp [go_sem]; done) | (simp [go_sem, *]; done))
      have s3 := hb3.size
      unfold res
      go_wp2
      ((try simp only [Exit.inBlock, Exit.then]); refine bodyPost_ret (by simp [results, Try.results21, go_sem, *]; try rfl) rfl ?_)
      exact ⟨rfl, by (repeat' first | exact Below.refl _ _ | with_reducible refine Below.drew ?_ | with_reducible refine Below.drewN ?_ _ | with_reducible refine Below.alloc' ?_ _ | with_reducible refine Below.setCell ?_ (by first | exact Nat.le_refl _ | (simp; done) | (simp; omega)) _ | with_reducible refine Below.after ?_ ‹_›)⟩

set_option maxHeartbeats 1000000 in
theorem rHull_any (a b c d : Int) (w : World) :
    Calls Try.prog 27 #[.agg #[.int .i64 a, .int .i64 b], .agg #[.int .i64 c, .int .i64 d]] w fun e w' => e = .returned (res (hullV a b c d)) ∧ Below w.heap.size w w' := by
  cases ha : vB a b
  · have e : hullV a b c d = (0, 0, 1) := by simp [hullV, ha]
    rw [e]
    have H := Lib.hid ha
    clear e ha
    go_enter Try.func27, Try.ntmps27
    go_wp2_with fail
    refine (rValid_no _ _ _ H.out).mono ?_
    rintro e w1 ⟨rfl, hb1⟩
    have q75 := kept hb1 (p := ⟨w.heap.size + 1 + 1, 0, none⟩) (v := .int .i64 0) (by first | ((repeat' first | with_reducible assumption | with_reducible refine cellA ?_ | with_reducible refine cellD ?_); done) | (simp [go_sem]; done) | (simp [go_sem, *]; done))
    have y75 := World.block_lt_of_cell? _ _ q75
    simp only [] at y75
    have z75 := keptF hb1 (p := ⟨w.heap.size + 1 + 1, 0, none⟩) (v := .int .i64 0) (by first | ((repeat' first | with_reducible assumption | with_reducible refine cellA ?_ | with_reducible refine cellD ?_); done) | (simp [go_sem]; done) | (simp [go_sem, *]; done)) (by first | ((repeat' first | with_reducible assumption | with_reducible refine frozA (v := .int .i64 0) (by first | ((repeat' first | with_reducible assumption | with_reducible refine cellA ?_ | with_reducible refine cellD ?_); done) | (simp [go_sem]; done) | (simp [go_sem, *]; done)) ?_ | with_reducible refine frozD ?_); done) | (simp [go_sem]; done) | (simp [go_sem, *]; done))
    have q76 := kept hb1 (p := ⟨w.heap.size + 1 + 1, 1, none⟩) (v := .int .i64 0) (by first | ((repeat' first | with_reducible assumption | with_reducible refine cellA ?_ | with_reducible refine cellD ?_); done) | (simp [go_sem]; done) | (simp [go_sem, *]; done))
    have z76 := keptF hb1 (p := ⟨w.heap.size + 1 + 1, 1, none⟩) (v := .int .i64 0) (by first | ((repeat' first | with_reducible assumption | with_reducible refine cellA ?_ | with_reducible refine cellD ?_); done) | (simp [go_sem]; done) | (simp [go_sem, *]; done)) (by first | ((repeat' first | with_reducible assumption | with_reducible refine frozA (v := .int .i64 0) (by first | ((repeat' first | with_reducible assumption | with_reducible refine cellA ?_ | with_reducible refine cellD ?_); done) | (simp [go_sem]; done) | (simp [go_sem, *]; done)) ?_ | with_reducible refine frozD ?_); done) | (simp [go_sem]; done) | (simp [go_sem, *]; done))
    have s1 := hb1.size
    go_wp2
    ((try simp only [Exit.inBlock, Exit.then]); refine bodyPost_ret (by simp [results, Try.results27, go_sem, *]; try rfl) rfl ?_)
    exact ⟨rfl, by (repeat' first | exact Below.refl _ _ | with_reducible refine Below.drew ?_ | with_reducible refine Below.drewN ?_ _ | with_reducible refine Below.alloc' ?_ _ | with_reducible refine Below.setCell ?_ (by first | exact Nat.le_refl _ | (simp; done) | (simp; omega)) _ | with_reducible refine Below.after ?_ ‹_›)⟩
  · have H := Lib.hid ha
    cases hc : vB c d
    · have e : hullV a b c d = (0, 0, 1) := by simp [hullV, hc]
      rw [e]
      have H2 := Lib.hid hc
      clear e ha hc
      go_enter Try.func27, Try.ntmps27
      go_wp2_with fail
      refine (rValid_yes _ _ _ H.out).mono ?_
      rintro e w1 ⟨rfl, hb1⟩
      have q77 := kept hb1 (p := ⟨w.heap.size + 1, 0, none⟩) (v := .int .i64 c) (by first | ((repeat' first | with_reducible assumption | with_reducible refine cellA ?_ | with_reducible refine cellD ?_); done) | (simp [go_sem]; done) | (simp [go_sem, *]; done))
      have y77 := World.block_lt_of_cell? _ _ q77
      simp only [] at y77
      have q78 := kept hb1 (p := ⟨w.heap.size + 1, 1, none⟩) (v := .int .i64 d) (by first | ((repeat' first | with_reducible assumption | with_reducible refine cellA ?_ | with_reducible refine cellD ?_); done) | (simp [go_sem]; done) | (simp [go_sem, *]; done))
      have q79 := kept hb1 (p := ⟨w.heap.size + 1 + 1, 0, none⟩) (v := .int .i64 0) (by first | ((repeat' first | with_reducible assumption | with_reducible refine cellA ?_ | with_reducible refine cellD ?_); done) | (simp [go_sem]; done) | (simp [go_sem, *]; done))
      have y79 := World.block_lt_of_cell? _ _ q79
      simp only [] at y79
      have z79 := keptF hb1 (p := ⟨w.heap.size + 1 + 1, 0, none⟩) (v := .int .i64 0) (by first | ((repeat' first | with_reducible assumption | with_reducible refine cellA ?_ | with_reducible refine cellD ?_); done) | (simp [go_sem]; done) | (simp [go_sem, *]; done)) (by first | ((repeat' first | with_reducible assumption | with_reducible refine frozA (v := .int .i64 0) (by first | ((repeat' first | with_reducible assumption | with_reducible refine cellA ?_ | with_reducible refine cellD ?_); done) | (simp [go_sem]; done) | (simp [go_sem, *]; done)) ?_ | with_reducible refine frozD ?_); done) | (simp [go_sem]; done) | (simp [go_sem, *]; done))
      have q80 := kept hb1 (p := ⟨w.heap.size + 1 + 1, 1, none⟩) (v := .int .i64 0) (by first | ((repeat' first | with_reducible assumption | with_reducible refine cellA ?_ | with_reducible refine cellD ?_); done) | (simp [go_sem]; done) | (simp [go_sem, *]; done))
      have z80 := keptF hb1 (p := ⟨w.heap.size + 1 + 1, 1, none⟩) (v := .int .i64 0) (by first | ((repeat' first | with_reducible assumption | with_reducible refine cellA ?_ | with_reducible refine cellD ?_); done) | (simp [go_sem]; done) | (simp [go_sem, *]; done)) (by first | ((repeat' first | with_reducible assumption | with_reducible refine frozA (v := .int .i64 0) (by first | ((repeat' first | with_reducible assumption | with_reducible refine cellA ?_ | with_reducible refine cellD ?_); done) | (simp [go_sem]; done) | (simp [go_sem, *]; done)) ?_ | with_reducible refine frozD ?_); done) | (simp [go_sem]; done) | (simp [go_sem, *]; done))
      have s1 := hb1.size
      simp at s1
      go_wp2_with fail
      refine (rValid_no _ _ _ H2.out).mono ?_
      rintro e w2 ⟨rfl, hb2⟩
      have q81 := kept hb2 (p := ⟨w.heap.size + 1 + 1, 0, none⟩) (v := .int .i64 0) (by first | ((repeat' first | with_reducible assumption | with_reducible refine cellA ?_ | with_reducible refine cellD ?_); done) | (simp [go_sem]; done) | (simp [go_sem, *]; done))
      have y81 := World.block_lt_of_cell? _ _ q81
      simp only [] at y81
      have z81 := keptF hb2 (p := ⟨w.heap.size + 1 + 1, 0, none⟩) (v := .int .i64 0) (by first | ((repeat' first | with_reducible assumption | with_reducible refine cellA ?_ | with_reducible refine cellD ?_); done) | (simp [go_sem]; done) | (simp [go_sem, *]; done)) (by first | ((repeat' first | with_reducible assumption | with_reducible refine frozA (v := .int .i64 0) (by first | ((repeat' first | with_reducible assumption | with_reducible refine cellA ?_ | with_reducible refine cellD ?_); done) | (simp [go_sem]; done) | (simp [go_sem, *]; done)) ?_ | with_reducible refine frozD ?_); done) | (simp [go_sem]; done) | (simp [go_sem, *]; done))
      have q82 := kept hb2 (p := ⟨w.heap.size + 1 + 1, 1, none⟩) (v := .int .i64 0) (by first | ((repeat' first | with_reducible assumption | with_reducible refine cellA ?_ | with_reducible refine cellD ?_); done) | (simp [go_sem]; done) | (simp [go_sem, *]; done))
      have z82 := keptF hb2 (p := ⟨w.heap.size + 1 + 1, 1, none⟩) (v := .int .i64 0) (by first | ((repeat' first | with_reducible assumption | with_reducible refine cellA ?_ | with_reducible refine cellD ?_); done) | (simp [go_sem]; done) | (simp [go_sem, *]; done)) (by first | ((repeat' first | with_reducible assumption | with_reducible refine frozA (v := .int .i64 0) (by first | ((repeat' first | with_reducible assumption | with_reducible refine cellA ?_ | with_reducible refine cellD ?_); done) | (simp [go_sem]; done) | (simp [go_sem, *]; done)) ?_ | with_reducible refine frozD ?_); done) | (simp [go_sem]; done) | (simp [go_sem, *]; done))
      have s2 := hb2.size
      go_wp2
      ((try simp only [Exit.inBlock, Exit.then]); refine bodyPost_ret (by simp [results, Try.results27, go_sem, *]; try rfl) rfl ?_)
      exact ⟨rfl, by (repeat' first | exact Below.refl _ _ | with_reducible refine Below.drew ?_ | with_reducible refine Below.drewN ?_ _ | with_reducible refine Below.alloc' ?_ _ | with_reducible refine Below.setCell ?_ (by first | exact Nat.le_refl _ | (simp; done) | (simp; omega)) _ | with_reducible refine Below.after ?_ ‹_›)⟩
    · have H2 := Lib.hid hc
      have La := vB_true.1 ha
      have Lc := vB_true.1 hc
      have L1 : a ≤ 70368744177664 := by omega
      have L2 : -70368744177664 ≤ b := by omega
      have L3 : c ≤ 70368744177664 := by omega
      have L4 : -70368744177664 ≤ d := by omega
      have e0 : (vB a b && vB c d) = true := by rw [ha, hc]; rfl
      clear ha hc
      have e : hullV a b c d = (min a c, max b d, 0) := by unfold hullV; rw [if_pos e0]
      rw [e]
      clear e e0
      go_enter Try.func27, Try.ntmps27
      go_wp2_with fail
      refine (rValid_yes _ _ _ H.out).mono ?_
      rintro e w1 ⟨rfl, hb1⟩
      have q83 := kept hb1 (p := ⟨w.heap.size, 0, none⟩) (v := .int .i64 a) (by first | ((repeat' first | with_reducible assumption | with_reducible refine cellA ?_ | with_reducible refine cellD ?_); done) | (simp [go_sem]; done) | (simp [go_sem, *]; done))
      have y83 := World.block_lt_of_cell? _ _ q83
      simp only [] at y83
      have q84 := kept hb1 (p := ⟨w.heap.size, 1, none⟩) (v := .int .i64 b) (by first | ((repeat' first | with_reducible assumption | with_reducible refine cellA ?_ | with_reducible refine cellD ?_); done) | (simp [go_sem]; done) | (simp [go_sem, *]; done))
      have q85 := kept hb1 (p := ⟨w.heap.size + 1, 0, none⟩) (v := .int .i64 c) (by first | ((repeat' first | with_reducible assumption | with_reducible refine cellA ?_ | with_reducible refine cellD ?_); done) | (simp [go_sem]; done) | (simp [go_sem, *]; done))
      have y85 := World.block_lt_of_cell? _ _ q85
      simp only [] at y85
      have q86 := kept hb1 (p := ⟨w.heap.size + 1, 1, none⟩) (v := .int .i64 d) (by first | ((repeat' first | with_reducible assumption | with_reducible refine cellA ?_ | with_reducible refine cellD ?_); done) | (simp [go_sem]; done) | (simp [go_sem, *]; done))
      have q87 := kept hb1 (p := ⟨w.heap.size + 1 + 1, 0, none⟩) (v := .int .i64 0) (by first | ((repeat' first | with_reducible assumption | with_reducible refine cellA ?_ | with_reducible refine cellD ?_); done) | (simp [go_sem]; done) | (simp [go_sem, *]; done))
      have y87 := World.block_lt_of_cell? _ _ q87
      simp only [] at y87
      have z87 := keptF hb1 (p := ⟨w.heap.size + 1 + 1, 0, none⟩) (v := .int .i64 0) (by first | ((repeat' first | with_reducible assumption | with_reducible refine cellA ?_ | with_reducible refine cellD ?_); done) | (simp [go_sem]; done) | (simp [go_sem, *]; done)) (by first | ((repeat' first | with_reducible assumption | with_reducible refine frozA (v := .int .i64 0) (by first | ((repeat' first | with_reducible assumption | with_reducible refine cellA ?_ | with_reducible refine cellD ?_); done) | (simp [go_sem]; done) | (simp [go_sem, *]; done)) ?_ | with_reducible refine frozD ?_); done) | (simp [go_sem]; done) | (simp [go_sem, *]; done))
      have q88 := kept hb1 (p := ⟨w.heap.size + 1 + 1, 1, none⟩) (v := .int .i64 0) (by first | ((repeat' first | with_reducible assumption | with_reducible refine cellA ?_ | with_reducible refine cellD ?_); done) | (simp [go_sem]; done) | (simp [go_sem, *]; done))
      have z88 := keptF hb1 (p := ⟨w.heap.size + 1 + 1, 1, none⟩) (v := .int .i64 0) (by first | ((repeat' first | with_reducible assumption | with_reducible refine cellA ?_ | with_reducible refine cellD ?_); done) | (simp [go_sem]; done) | (simp [go_sem, *]; done)) (by first | ((repeat' first | with_reducible assumption | with_reducible refine frozA (v := .int .i64 0) (by first | ((repeat' first | with_reducible assumption | with_reducible refine cellA ?_ | with_reducible refine cellD ?_); done) | (simp [go_sem]; done) | (simp [go_sem, *]; done)) ?_ | with_reducible refine frozD ?_); done) | (simp [go_sem]; done) | (simp [go_sem, *]; done))
      have s1 := hb1.size
      simp at s1
      go_wp2_with fail
      refine (rValid_yes _ _ _ H2.out).mono ?_
      rintro e w2 ⟨rfl, hb2⟩
      have q89 := kept hb2 (p := ⟨w.heap.size, 0, none⟩) (v := .int .i64 a) (by first | ((repeat' first | with_reducible assumption | with_reducible refine cellA ?_ | with_reducible refine cellD ?_); done) | (simp [go_sem]; done) | (simp [go_sem, *]; done))
      have y89 := World.block_lt_of_cell? _ _ q89
      simp only [] at y89
      have q90 := kept hb2 (p := ⟨w.heap.size, 1, none⟩) (v := .int .i64 b) (by first | ((repeat' first | with_reducible assumption | with_reducible refine cellA ?_ | with_reducible refine cellD ?_); done) | (simp [go_sem]; done) | (simp [go_sem, *]; done))
      have q91 := kept hb2 (p := ⟨w.heap.size + 1, 0, none⟩) (v := .int .i64 c) (by first | ((repeat' first | with_reducible assumption | with_reducible refine cellA ?_ | with_reducible refine cellD ?_); done) | (simp [go_sem]; done) | (simp [go_sem, *]; done))
      have y91 := World.block_lt_of_cell? _ _ q91
      simp only [] at y91
      have q92 := kept hb2 (p := ⟨w.heap.size + 1, 1, none⟩) (v := .int .i64 d) (by first | ((repeat' first | with_reducible assumption | with_reducible refine cellA ?_ | with_reducible refine cellD ?_); done) | (simp [go_sem]; done) | (simp [go_sem, *]; done))
      have q93 := kept hb2 (p := ⟨w.heap.size + 1 + 1, 0, none⟩) (v := .int .i64 0) (by first | ((repeat' first | with_reducible assumption | with_reducible refine cellA ?_ | with_reducible refine cellD ?_); done) | (simp [go_sem]; done) | (simp [go_sem, *]; done))
      have y93 := World.block_lt_of_cell? _ _ q93
      simp only [] at y93
      have z93 := keptF hb2 (p := ⟨w.heap.size + 1 + 1, 0, none⟩) (v := .int .i64 0) (by first | ((repeat' first | with_reducible assumption | with_reducible refine cellA ?_ | with_reducible refine cellD ?_); done) | (simp [go_sem]; done) | (simp [go_sem, *]; done)) (by first | ((repeat' first | with_reducible assumption | with_reducible refine frozA (v := .int .i64 0) (by first | ((repeat' first | with_reducible assumption | with_reducible refine cellA ?_ | with_reducible refine cellD ?_); done) | (simp [go_sem]; done) | (simp [go_sem, *]; done)) ?_ | with_reducible refine frozD ?_); done) | (simp [go_sem]; done) | (simp [go_sem, *]; done))
      have q94 := kept hb2 (p := ⟨w.heap.size + 1 + 1, 1, none⟩) (v := .int .i64 0) (by first | ((repeat' first | with_reducible assumption | with_reducible refine cellA ?_ | with_reducible refine cellD ?_); done) | (simp [go_sem]; done) | (simp [go_sem, *]; done))
      have z94 := keptF hb2 (p := ⟨w.heap.size + 1 + 1, 1, none⟩) (v := .int .i64 0) (by first | ((repeat' first | with_reducible assumption | with_reducible refine cellA ?_ | with_reducible refine cellD ?_); done) | (simp [go_sem]; done) | (simp [go_sem, *]; done)) (by first | ((repeat' first | with_reducible assumption | with_reducible refine frozA (v := .int .i64 0) (by first | ((repeat' first | with_reducible assumption | with_reducible refine cellA ?_ | with_reducible refine cellD ?_); done) | (simp [go_sem]; done) | (simp [go_sem, *]; done)) ?_ | with_reducible refine frozD ?_); done) | (simp [go_sem]; done) | (simp [go_sem, *]; done))
      have s2 := hb2.size
      go_wp2
      all_goals ((try simp only [Exit.inBlock, Exit.then]); refine bodyPost_ret (by simp [results, Try.results27, go_sem, *]; try rfl) rfl ?_)
      · exact ⟨by rw [min_right_of ‹_›, max_right_of ‹_›]; rfl, by (repeat' first | exact Below.refl _ _ | with_reducible refine Below.drew ?_ | with_reducible refine Below.drewN ?_ _ | with_reducible refine Below.alloc' ?_ _ | with_reducible refine Below.setCell ?_ (by first | exact Nat.le_refl _ | (simp; done) | (simp; omega)) _ | with_reducible refine Below.after ?_ ‹_›)⟩
      · exact ⟨by rw [min_right_of ‹_›, max_left_of ‹_›]; rfl, by (repeat' first | exact Below.refl _ _ | with_reducible refine Below.drew ?_ | with_reducible refine Below.drewN ?_ _ | with_reducible refine Below.alloc' ?_ _ | with_reducible refine Below.setCell ?_ (by first | exact Nat.le_refl _ | (simp; done) | (simp; omega)) _ | with_reducible refine Below.after ?_ ‹_›)⟩
      · exact ⟨by rw [min_left_of ‹_›, max_right_of ‹_›]; rfl, by (repeat' first | exact Below.refl _ _ | with_reducible refine Below.drew ?_ | with_reducible refine Below.drewN ?_ _ | with_reducible refine Below.alloc' ?_ _ | with_reducible refine Below.setCell ?_ (by first | exact Nat.le_refl _ | (simp; done) | (simp; omega)) _ | with_reducible refine Below.after ?_ ‹_›)⟩
      · exact ⟨by rw [min_left_of ‹_›, max_left_of ‹_›]; rfl, by (repeat' first | exact Below.refl _ _ | with_reducible refine Below.drew ?_ | with_reducible refine Below.drewN ?_ _ | with_reducible refine Below.alloc' ?_ _ | with_reducible refine Below.setCell ?_ (by first | exact Nat.le_refl _ | (simp; done) | (simp; omega)) _ | with_reducible refine Below.after ?_ ‹_›)⟩
end Go.Proofs.Ytnehmkdcifgpnaa
