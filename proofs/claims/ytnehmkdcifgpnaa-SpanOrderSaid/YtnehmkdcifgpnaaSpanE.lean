/-
  Walks over package span: Add, Sub, Sum.
-/
import Derived.Test.YtnehmkdcifgpnaaSpanD
namespace Go.Proofs.Ytnehmkdcifgpnaa
open Go.RowKit

/-- what Add returns -/
def addV (a b c d : Int) : Int × Int × Int := if vB a b && vB c d then chkV (a + c) (b + d) else (0, 0, 1)

set_option maxHeartbeats 1000000 in
theorem add_any (a b c d : Int) (w : World) :
    Calls Try.prog 18 #[.agg #[.int .i64 a, .int .i64 b], .agg #[.int .i64 c, .int .i64 d]] w fun e w' => e = .returned (res (addV a b c d)) ∧ Below w.heap.size w w' := by
  cases h : (vB a b && vB c d)
  · have e : addV a b c d = (0, 0, 1) := by simp [addV, h]
    rw [e]
    clear e
    have H := Lib.hid h
    clear h
    go_enter Try.func18, Try.ntmps18
    go_wp2_with fail
    refine (allValid_two _ _ _ _ _ _ _ (by simp) _ H.out).mono ?_
    rintro e w1 ⟨rfl, hb1⟩
    have q1 := kept hb1 (p := ⟨w.heap.size + 1 + 1, 0, none⟩) (v := .int .i64 0) (by first | ((repeat' first | with_reducible assumption | with_reducible refine cellA ?_ | with_reducible refine cellD ?_); done) | (simp [go_sem]; done) | (simp [go_sem, *]; done))
    have y1 := World.block_lt_of_cell? _ _ q1
    simp only [] at y1
    have z1 := keptF hb1 (p := ⟨w.heap.size + 1 + 1, 0, none⟩) (v := .int .i64 0) (by first | ((repeat' first | with_reducible assumption | with_reducible refine cellA ?_ | with_reducible refine cellD ?_); done) | (simp [go_sem]; done) | (simp [go_sem, *]; done)) (by first | ((repeat' first | with_reducible assumption | with_reducible refine frozA (v := .int .i64 0) (by first | ((repeat' first | with_reducible assumption | with_reducible refine cellA ?_ | with_reducible refine cellD ?_); done) | (simp [go_sem]; done) | (simp [go_sem, *]; done)) ?_ | with_reducible refine frozD ?_); done) | (simp [go_sem]; done) | (simp [go_sem, *]; done))
    have q2 := kept hb1 (p := ⟨w.heap.size + 1 + 1, 1, none⟩) (v := .int .i64 0) (by first | ((repeat' first | with_reducible assumption | with_reducible refine cellA ?_ | with_reducible refine cellD ?_); done) | (simp [go_sem]; done) | (simp [go_sem, *]; done))
    have z2 := keptF hb1 (p := ⟨w.heap.size + 1 + 1, 1, none⟩) (v := .int .i64 0) (by first | ((repeat' first | with_reducible assumption | with_reducible refine cellA ?_ | with_reducible refine cellD ?_); done) | (simp [go_sem]; done) | (simp [go_sem, *]; done)) (by first | ((repeat' first | with_reducible assumption | with_reducible refine frozA (v := .int .i64 0) (by first | ((repeat' first | with_reducible assumption | with_reducible refine cellA ?_ | with_reducible refine cellD ?_); done) | (simp [go_sem]; done) | (simp [go_sem, *]; done)) ?_ | with_reducible refine frozD ?_); done) | (simp [go_sem]; done) | (simp [go_sem, *]; done))
    have s1 := hb1.size
    go_wp2
    ((try simp only [Exit.inBlock, Exit.then]); refine bodyPost_ret (by simp [results, Try.results18, go_sem, *]; try rfl) rfl ?_)
    exact ⟨rfl, by (repeat' first | exact Below.refl _ _ | with_reducible refine Below.drew ?_ | with_reducible refine Below.drewN ?_ _ | with_reducible refine Below.alloc' ?_ _ | with_reducible refine Below.setCell ?_ (by first | exact Nat.le_refl _ | (simp; done) | (simp; omega)) _ | with_reducible refine Below.after ?_ ‹_›)⟩
  · have e : addV a b c d = chkV (a + c) (b + d) := by simp [addV, h]
    rw [e]
    clear e
    have hh : vB a b = true ∧ vB c d = true := by simpa using h
    have H := Lib.hid h
    have H1 := Lib.hid hh.1
    have H2 := Lib.hid hh.2
    clear h hh
    go_enter Try.func18, Try.ntmps18
    go_wp2_with fail
    refine (allValid_two _ _ _ _ _ _ _ (by simp) _ H.out).mono ?_
    rintro e w1 ⟨rfl, hb1⟩
    have q3 := kept hb1 (p := ⟨w.heap.size, 0, none⟩) (v := .int .i64 a) (by first | ((repeat' first | with_reducible assumption | with_reducible refine cellA ?_ | with_reducible refine cellD ?_); done) | (simp [go_sem]; done) | (simp [go_sem, *]; done))
    have y3 := World.block_lt_of_cell? _ _ q3
    simp only [] at y3
    have q4 := kept hb1 (p := ⟨w.heap.size, 1, none⟩) (v := .int .i64 b) (by first | ((repeat' first | with_reducible assumption | with_reducible refine cellA ?_ | with_reducible refine cellD ?_); done) | (simp [go_sem]; done) | (simp [go_sem, *]; done))
    have q5 := kept hb1 (p := ⟨w.heap.size + 1, 0, none⟩) (v := .int .i64 c) (by first | ((repeat' first | with_reducible assumption | with_reducible refine cellA ?_ | with_reducible refine cellD ?_); done) | (simp [go_sem]; done) | (simp [go_sem, *]; done))
    have y5 := World.block_lt_of_cell? _ _ q5
    simp only [] at y5
    have q6 := kept hb1 (p := ⟨w.heap.size + 1, 1, none⟩) (v := .int .i64 d) (by first | ((repeat' first | with_reducible assumption | with_reducible refine cellA ?_ | with_reducible refine cellD ?_); done) | (simp [go_sem]; done) | (simp [go_sem, *]; done))
    have q7 := kept hb1 (p := ⟨w.heap.size + 1 + 1, 0, none⟩) (v := .int .i64 0) (by first | ((repeat' first | with_reducible assumption | with_reducible refine cellA ?_ | with_reducible refine cellD ?_); done) | (simp [go_sem]; done) | (simp [go_sem, *]; done))
    have y7 := World.block_lt_of_cell? _ _ q7
    simp only [] at y7
    have z7 := keptF hb1 (p := ⟨w.heap.size + 1 + 1, 0, none⟩) (v := .int .i64 0) (by first | ((repeat' first | with_reducible assumption | with_reducible refine cellA ?_ | with_reducible refine cellD ?_); done) | (simp [go_sem]; done) | (simp [go_sem, *]; done)) (by first | ((repeat' first | with_reducible assumption | with_reducible refine frozA (v := .int .i64 0) (by first | ((repeat' first | with_reducible assumption | with_reducible refine cellA ?_ | with_reducible refine cellD ?_); done) | (simp [go_sem]; done) | (simp [go_sem, *]; done)) ?_ | with_reducible refine frozD ?_); done) | (simp [go_sem]; done) | (simp [go_sem, *]; done))
    have q8 := kept hb1 (p := ⟨w.heap.size + 1 + 1, 1, none⟩) (v := .int .i64 0) (by first | ((repeat' first | with_reducible assumption | with_reducible refine cellA ?_ | with_reducible refine cellD ?_); done) | (simp [go_sem]; done) | (simp [go_sem, *]; done))
    have z8 := keptF hb1 (p := ⟨w.heap.size + 1 + 1, 1, none⟩) (v := .int .i64 0) (by first | ((repeat' first | with_reducible assumption | with_reducible refine cellA ?_ | with_reducible refine cellD ?_); done) | (simp [go_sem]; done) | (simp [go_sem, *]; done)) (by first | ((repeat' first | with_reducible assumption | with_reducible refine frozA (v := .int .i64 0) (by first | ((repeat' first | with_reducible assumption | with_reducible refine cellA ?_ | with_reducible refine cellD ?_); done) | (simp [go_sem]; done) | (simp [go_sem, *]; done)) ?_ | with_reducible refine frozD ?_); done) | (simp [go_sem]; done) | (simp [go_sem, *]; done))
    have s1 := hb1.size
    simp at s1
    go_wp2_with fail
    refine (joinPlus_one _ _ _ _ _ _ _ (by rfl) H1.out H2.out).mono ?_
    rintro e w2 ⟨rfl, hb2⟩
    have q9 := kept hb2 (p := ⟨w.heap.size + 1 + 1, 0, none⟩) (v := .int .i64 0) (by first | ((repeat' first | with_reducible assumption | with_reducible refine cellA ?_ | with_reducible refine cellD ?_); done) | (simp [go_sem]; done) | (simp [go_sem, *]; done))
    have y9 := World.block_lt_of_cell? _ _ q9
    simp only [] at y9
    have z9 := keptF hb2 (p := ⟨w.heap.size + 1 + 1, 0, none⟩) (v := .int .i64 0) (by first | ((repeat' first | with_reducible assumption | with_reducible refine cellA ?_ | with_reducible refine cellD ?_); done) | (simp [go_sem]; done) | (simp [go_sem, *]; done)) (by first | ((repeat' first | with_reducible assumption | with_reducible refine frozA (v := .int .i64 0) (by first | ((repeat' first | with_reducible assumption | with_reducible refine cellA ?_ | with_reducible refine cellD ?_); done) | (simp [go_sem]; done) | (simp [go_sem, *]; done)) ?_ | with_reducible refine frozD ?_); done) | (simp [go_sem]; done) | (simp [go_sem, *]; done))
    have q10 := kept hb2 (p := ⟨w.heap.size + 1 + 1, 1, none⟩) (v := .int .i64 0) (by first | ((repeat' first | with_reducible assumption | with_reducible refine cellA ?_ | with_reducible refine cellD ?_); done) | (simp [go_sem]; done) | (simp [go_sem, *]; done))
    have z10 := keptF hb2 (p := ⟨w.heap.size + 1 + 1, 1, none⟩) (v := .int .i64 0) (by first | ((repeat' first | with_reducible assumption | with_reducible refine cellA ?_ | with_reducible refine cellD ?_); done) | (simp [go_sem]; done) | (simp [go_sem, *]; done)) (by first | ((repeat' first | with_reducible assumption | with_reducible refine frozA (v := .int .i64 0) (by first | ((repeat' first | with_reducible assumption | with_reducible refine cellA ?_ | with_reducible refine cellD ?_); done) | (simp [go_sem]; done) | (simp [go_sem, *]; done)) ?_ | with_reducible refine frozD ?_); done) | (simp [go_sem]; done) | (simp [go_sem, *]; done))
    have s2 := hb2.size
    simp at s2
    go_wp2_with fail
    refine (checkResult_any _ _ _).mono ?_
    rintro e w3 ⟨rfl, hb3⟩
    have q11 := kept hb3 (p := ⟨w.heap.size + 1 + 1, 0, none⟩) (v := .int .i64 0) (by first | ((repeat' first | with_reducible assumption | with_reducible refine cellA ?_ | with_reducible refine cellD ?_); done) | (simp [go_sem]; done) | (simp [go_sem, *]; done))
    have y11 := World.block_lt_of_cell? _ _ q11
    simp only [] at y11
    have z11 := keptF hb3 (p := ⟨w.heap.size + 1 + 1, 0, none⟩) (v := .int .i64 0) (by first | ((repeat' first | with_reducible assumption | with_reducible refine cellA ?_ | with_reducible refine cellD ?_); done) | (simp [go_sem]; done) | (simp [go_sem, *]; done)) (by first | ((repeat' first | with_reducible assumption | with_reducible refine frozA (v := .int .i64 0) (by first | ((repeat' first | with_reducible assumption | with_reducible refine cellA ?_ | with_reducible refine cellD ?_); done) | (simp [go_sem]; done) | (simp [go_sem, *]; done)) ?_ | with_reducible refine frozD ?_); done) | (simp [go_sem]; done) | (simp [go_sem, *]; done))
    have q12 := kept hb3 (p := ⟨w.heap.size + 1 + 1, 1, none⟩) (v := .int .i64 0) (by first | ((repeat' first | with_reducible assumption | with_reducible refine cellA ?_ | with_reducible refine cellD ?_); done) | (simp [go_sem]; done) | (simp [go_sem, *]; done))
    have z12 := keptF hb3 (p := ⟨w.heap.size + 1 + 1, 1, none⟩) (v := .int .i64 0) (by first | ((repeat' first | with_reducible assumption | with_reducible refine cellA ?_ | with_reducible refine cellD ?_); done) | (simp [go_sem]; done) | (simp [go_sem, *]; done)) (by first | ((repeat' first | with_reducible assumption | with_reducible refine frozA (v := .int .i64 0) (by first | ((repeat' first | with_reducible assumption | with_reducible refine cellA ?_ | with_reducible refine cellD ?_); done) | (simp [go_sem]; done) | (simp [go_sem, *]; done)) ?_ | with_reducible refine frozD ?_); done) | (simp [go_sem]; done) | (simp [go_sem, *]; done))
    have s3 := hb3.size
    unfold res
    go_wp2
    ((try simp only [Exit.inBlock, Exit.then]); refine bodyPost_ret (by simp [results, Try.results18, go_sem, *]; try rfl) rfl ?_)
    exact ⟨rfl, by (repeat' first | exact Below.refl _ _ | with_reducible refine Below.drew ?_ | with_reducible refine Below.drewN ?_ _ | with_reducible refine Below.alloc' ?_ _ | with_reducible refine Below.setCell ?_ (by first | exact Nat.le_refl _ | (simp; done) | (simp; omega)) _ | with_reducible refine Below.after ?_ ‹_›)⟩

/-- what Sub returns -/
def subV (a b c d : Int) : Int × Int × Int := if vB a b && vB c d then chkV (a - d) (b - c) else (0, 0, 1)

set_option maxHeartbeats 1000000 in
theorem sub_any (a b c d : Int) (w : World) :
    Calls Try.prog 20 #[.agg #[.int .i64 a, .int .i64 b], .agg #[.int .i64 c, .int .i64 d]] w fun e w' => e = .returned (res (subV a b c d)) ∧ Below w.heap.size w w' := by
  cases h : (vB a b && vB c d)
  · have e : subV a b c d = (0, 0, 1) := by simp [subV, h]
    rw [e]
    clear e
    have H := Lib.hid h
    clear h
    go_enter Try.func20, Try.ntmps20
    go_wp2_with fail
    refine (allValid_two _ _ _ _ _ _ _ (by simp) _ H.out).mono ?_
    rintro e w1 ⟨rfl, hb1⟩
    have q13 := kept hb1 (p := ⟨w.heap.size + 1 + 1, 0, none⟩) (v := .int .i64 0) (by first | ((repeat' first | with_reducible assumption | with_reducible refine cellA ?_ | with_reducible refine cellD ?_); done) | (simp [go_sem]; done) | (simp [go_sem, *]; done))
    have y13 := World.block_lt_of_cell? _ _ q13
    simp only [] at y13
    have z13 := keptF hb1 (p := ⟨w.heap.size + 1 + 1, 0, none⟩) (v := .int .i64 0) (by first | ((repeat' first | with_reducible assumption | with_reducible refine cellA ?_ | with_reducible refine cellD ?_); done) | (simp [go_sem]; done) | (simp [go_sem, *]; done)) (by first | ((repeat' first | with_reducible assumption | with_reducible refine frozA (v := .int .i64 0) (by first | ((repeat' first | with_reducible assumption | with_reducible refine cellA ?_ | with_reducible refine cellD ?_); done) | (simp [go_sem]; done) | (simp [go_sem, *]; done)) ?_ | with_reducible refine frozD ?_); done) | (simp [go_sem]; done) | (simp [go_sem, *]; done))
    have q14 := kept hb1 (p := ⟨w.heap.size + 1 + 1, 1, none⟩) (v := .int .i64 0) (by first | ((repeat' first | with_reducible assumption | with_reducible refine cellA ?_ | with_reducible refine cellD ?_); done) | (simp [go_sem]; done) | (simp [go_sem, *]; done))
    have z14 := keptF hb1 (p := ⟨w.heap.size + 1 + 1, 1, none⟩) (v := .int .i64 0) (by first | ((repeat' first | with_reducible assumption | with_reducible refine cellA ?_ | with_reducible refine cellD ?_); done) | (simp [go_sem]; done) | (simp [go_sem, *]; done)) (by first | ((repeat' first | with_reducible assumption | with_reducible refine frozA (v := .int .i64 0) (by first | ((repeat' first | with_reducible assumption | with_reducible refine cellA ?_ | with_reducible refine cellD ?_); done) | (simp [go_sem]; done) | (simp [go_sem, *]; done)) ?_ | with_reducible refine frozD ?_); done) | (simp [go_sem]; done) | (simp [go_sem, *]; done))
    have s1 := hb1.size
    go_wp2
    ((try simp only [Exit.inBlock, Exit.then]); refine bodyPost_ret (by simp [results, Try.results20, go_sem, *]; try rfl) rfl ?_)
    exact ⟨rfl, by (repeat' first | exact Below.refl _ _ | with_reducible refine Below.drew ?_ | with_reducible refine Below.drewN ?_ _ | with_reducible refine Below.alloc' ?_ _ | with_reducible refine Below.setCell ?_ (by first | exact Nat.le_refl _ | (simp; done) | (simp; omega)) _ | with_reducible refine Below.after ?_ ‹_›)⟩
  · have e : subV a b c d = chkV (a - d) (b - c) := by simp [subV, h]
    rw [e]
    clear e
    have hh : vB a b = true ∧ vB c d = true := by simpa using h
    have H := Lib.hid h
    have H1 := vB_true.1 hh.1
    have H2 := vB_true.1 hh.2
    have L1 : a ≤ 70368744177664 := by omega
    have L2 : -70368744177664 ≤ b := by omega
    have L3 : c ≤ 70368744177664 := by omega
    have L4 : -70368744177664 ≤ d := by omega
    clear h hh
    go_enter Try.func20, Try.ntmps20
    go_wp2_with fail
    refine (allValid_two _ _ _ _ _ _ _ (by simp) _ H.out).mono ?_
    rintro e w1 ⟨rfl, hb1⟩
    have q15 := kept hb1 (p := ⟨w.heap.size, 0, none⟩) (v := .int .i64 a) (by first | ((repeat' first | with_reducible assumption | with_reducible refine cellA ?_ | with_reducible refine cellD ?_); done) | (simp [go_sem]; done) | (simp [go_sem, *]; done))
    have y15 := World.block_lt_of_cell? _ _ q15
    simp only [] at y15
    have q16 := kept hb1 (p := ⟨w.heap.size, 1, none⟩) (v := .int .i64 b) (by first | ((repeat' first | with_reducible assumption | with_reducible refine cellA ?_ | with_reducible refine cellD ?_); done) | (simp [go_sem]; done) | (simp [go_sem, *]; done))
    have q17 := kept hb1 (p := ⟨w.heap.size + 1, 0, none⟩) (v := .int .i64 c) (by first | ((repeat' first | with_reducible assumption | with_reducible refine cellA ?_ | with_reducible refine cellD ?_); done) | (simp [go_sem]; done) | (simp [go_sem, *]; done))
    have y17 := World.block_lt_of_cell? _ _ q17
    simp only [] at y17
    have q18 := kept hb1 (p := ⟨w.heap.size + 1, 1, none⟩) (v := .int .i64 d) (by first | ((repeat' first | with_reducible assumption | with_reducible refine cellA ?_ | with_reducible refine cellD ?_); done) | (simp [go_sem]; done) | (simp [go_sem, *]; done))
    have q19 := kept hb1 (p := ⟨w.heap.size + 1 + 1, 0, none⟩) (v := .int .i64 0) (by first | ((repeat' first | with_reducible assumption | with_reducible refine cellA ?_ | with_reducible refine cellD ?_); done) | (simp [go_sem]; done) | (simp [go_sem, *]; done))
    have y19 := World.block_lt_of_cell? _ _ q19
    simp only [] at y19
    have z19 := keptF hb1 (p := ⟨w.heap.size + 1 + 1, 0, none⟩) (v := .int .i64 0) (by first | ((repeat' first | with_reducible assumption | with_reducible refine cellA ?_ | with_reducible refine cellD ?_); done) | (simp [go_sem]; done) | (simp [go_sem, *]; done)) (by first | ((repeat' first | with_reducible assumption | with_reducible refine frozA (v := .int .i64 0) (by first | ((repeat' first | with_reducible assumption | with_reducible refine cellA ?_ | with_reducible refine cellD ?_); done) | (simp [go_sem]; done) | (simp [go_sem, *]; done)) ?_ | with_reducible refine frozD ?_); done) | (simp [go_sem]; done) | (simp [go_sem, *]; done))
    have q20 := kept hb1 (p := ⟨w.heap.size + 1 + 1, 1, none⟩) (v := .int .i64 0) (by first | ((repeat' first | with_reducible assumption | with_reducible refine cellA ?_ | with_reducible refine cellD ?_); done) | (simp [go_sem]; done) | (simp [go_sem, *]; done))
    have z20 := keptF hb1 (p := ⟨w.heap.size + 1 + 1, 1, none⟩) (v := .int .i64 0) (by first | ((repeat' first | with_reducible assumption | with_reducible refine cellA ?_ | with_reducible refine cellD ?_); done) | (simp [go_sem]; done) | (simp [go_sem, *]; done)) (by first | ((repeat' first | with_reducible assumption | with_reducible refine frozA (v := .int .i64 0) (by first | ((repeat' first | with_reducible assumption | with_reducible refine cellA ?_ | with_reducible refine cellD ?_); done) | (simp [go_sem]; done) | (simp [go_sem, *]; done)) ?_ | with_reducible refine frozD ?_); done) | (simp [go_sem]; done) | (simp [go_sem, *]; done))
    have s1 := hb1.size
    simp at s1
    go_wp2_with fail
    refine (checkResult_any _ _ _).mono ?_
    rintro e w3 ⟨rfl, hb3⟩
    have q21 := kept hb3 (p := ⟨w.heap.size + 1 + 1, 0, none⟩) (v := .int .i64 0) (by first | ((repeat' first | with_reducible assumption | with_reducible refine cellA ?_ | with_reducible refine cellD ?_); done) | (simp [go_sem]; done) | (simp [go_sem, *]; done))
    have y21 := World.block_lt_of_cell? _ _ q21
    simp only [] at y21
    have z21 := keptF hb3 (p := ⟨w.heap.size + 1 + 1, 0, none⟩) (v := .int .i64 0) (by first | ((repeat' first | with_reducible assumption | with_reducible refine cellA ?_ | with_reducible refine cellD ?_); done) | (simp [go_sem]; done) | (simp [go_sem, *]; done)) (by first | ((repeat' first | with_reducible assumption | with_reducible refine frozA (v := .int .i64 0) (by first | ((repeat' first | with_reducible assumption | with_reducible refine cellA ?_ | with_reducible refine cellD ?_); done) | (simp [go_sem]; done) | (simp [go_sem, *]; done)) ?_ | with_reducible refine frozD ?_); done) | (simp [go_sem]; done) | (simp [go_sem, *]; done))
    have q22 := kept hb3 (p := ⟨w.heap.size + 1 + 1, 1, none⟩) (v := .int .i64 0) (by first | ((repeat' first | with_reducible assumption | with_reducible refine cellA ?_ | with_reducible refine cellD ?_); done) | (simp [go_sem]; done) | (simp [go_sem, *]; done))
    have z22 := keptF hb3 (p := ⟨w.heap.size + 1 + 1, 1, none⟩) (v := .int .i64 0) (by first | ((repeat' first | with_reducible assumption | with_reducible refine cellA ?_ | with_reducible refine cellD ?_); done) | (simp [go_sem]; done) | (simp [go_sem, *]; done)) (by first | ((repeat' first | with_reducible assumption | with_reducible refine frozA (v := .int .i64 0) (by first | ((repeat' first | with_reducible assumption | with_reducible refine cellA ?_ | with_reducible refine cellD ?_); done) | (simp [go_sem]; done) | (simp [go_sem, *]; done)) ?_ | with_reducible refine frozD ?_); done) | (simp [go_sem]; done) | (simp [go_sem, *]; done))
    have s3 := hb3.size
    unfold res
    go_wp2
    ((try simp only [Exit.inBlock, Exit.then]); refine bodyPost_ret (by simp [results, Try.results20, go_sem, *]; try rfl) rfl ?_)
    exact ⟨rfl, by (repeat' first | exact Below.refl _ _ | with_reducible refine Below.drew ?_ | with_reducible refine Below.drewN ?_ _ | with_reducible refine Below.alloc' ?_ _ | with_reducible refine Below.setCell ?_ (by first | exact Nat.le_refl _ | (simp; done) | (simp; omega)) _ | with_reducible refine Below.after ?_ ‹_›)⟩

/-- what Sum returns -/
def sumV (l : List (Int × Int)) : Int × Int × Int := if 65536 < l.length then (0, 0, 8) else if allV l then chkV (loSum l) (hiSum l) else (0, 0, 1)

set_option maxHeartbeats 1000000 in
theorem sum_any (s : Option Addr) (l : List (Int × Int)) (n cap : Nat) (w : World) (hn : l.length = n) (hb : n ≤ 1000000) (hl : Spans w s l) :
    Calls Try.prog 22 #[.slice s n cap] w fun e w' => e = .returned (res (sumV l)) ∧ Below w.heap.size w w' := by
  by_cases hbig : 65536 < n
  · have e : sumV l = (0, 0, 8) := by simp [sumV, hn, hbig]
    rw [e]
    have hbig' : (65536 : Int) < (n : Int) := by omega
    clear e hn hl hbig
    go_enter Try.func22, Try.ntmps22
    go_wp2
    ((try simp only [Exit.inBlock, Exit.then]); refine bodyPost_ret (by simp [results, Try.results22, go_sem, *]; try rfl) rfl ?_)
    exact ⟨rfl, by (repeat' first | exact Below.refl _ _ | with_reducible refine Below.drew ?_ | with_reducible refine Below.drewN ?_ _ | with_reducible refine Below.alloc' ?_ _ | with_reducible refine Below.setCell ?_ (by first | exact Nat.le_refl _ | (simp; done) | (simp; omega)) _ | with_reducible refine Below.after ?_ ‹_›)⟩
  · have hbig' : ¬ (65536 : Int) < (n : Int) := by omega
    have Hn := Lib.hid hn
    cases h : allV l
    · have e : sumV l = (0, 0, 1) := by simp [sumV, hn, hbig, h]
      rw [e]
      have H := Lib.hid h
      clear e hn h
      go_enter Try.func22, Try.ntmps22
      go_wp2_with fail
      refine (allValid_any _ _ _ _ _ Hn.out hb (hl.kept (by (repeat' first | exact Below.refl _ _ | with_reducible refine Below.drew ?_ | with_reducible refine Below.drewN ?_ _ | with_reducible refine Below.alloc' ?_ _ | with_reducible refine Below.setCell ?_ (by first | exact Nat.le_refl _ | (simp; done) | (simp; omega)) _ | with_reducible refine Below.after ?_ ‹_›)))).mono ?_
      rintro e w1 ⟨rfl, hb1⟩
      have q23 := kept hb1 (p := ⟨w.heap.size, 0, none⟩) (v := .int .i64 0) (by first | ((repeat' first | with_reducible assumption | with_reducible refine cellA ?_ | with_reducible refine cellD ?_); done) | (simp [go_sem]; done) | (simp [go_sem, *]; done))
      have y23 := World.block_lt_of_cell? _ _ q23
      simp only [] at y23
      have z23 := keptF hb1 (p := ⟨w.heap.size, 0, none⟩) (v := .int .i64 0) (by first | ((repeat' first | with_reducible assumption | with_reducible refine cellA ?_ | with_reducible refine cellD ?_); done) | (simp [go_sem]; done) | (simp [go_sem, *]; done)) (by first | ((repeat' first | with_reducible assumption | with_reducible refine frozA (v := .int .i64 0) (by first | ((repeat' first | with_reducible assumption | with_reducible refine cellA ?_ | with_reducible refine cellD ?_); done) | (simp [go_sem]; done) | (simp [go_sem, *]; done)) ?_ | with_reducible refine frozD ?_); done) | (simp [go_sem]; done) | (simp [go_sem, *]; done))
      have q24 := kept hb1 (p := ⟨w.heap.size, 1, none⟩) (v := .int .i64 0) (by first | ((repeat' first | with_reducible assumption | with_reducible refine cellA ?_ | with_reducible refine cellD ?_); done) | (simp [go_sem]; done) | (simp [go_sem, *]; done))
      have z24 := keptF hb1 (p := ⟨w.heap.size, 1, none⟩) (v := .int .i64 0) (by first | ((repeat' first | with_reducible assumption | with_reducible refine cellA ?_ | with_reducible refine cellD ?_); done) | (simp [go_sem]; done) | (simp [go_sem, *]; done)) (by first | ((repeat' first | with_reducible assumption | with_reducible refine frozA (v := .int .i64 0) (by first | ((repeat' first | with_reducible assumption | with_reducible refine cellA ?_ | with_reducible refine cellD ?_); done) | (simp [go_sem]; done) | (simp [go_sem, *]; done)) ?_ | with_reducible refine frozD ?_); done) | (simp [go_sem]; done) | (simp [go_sem, *]; done))
      have s1 := hb1.size
      rw [H.out]
      go_wp2
      ((try simp only [Exit.inBlock, Exit.then]); refine bodyPost_ret (by simp [results, Try.results22, go_sem, *]; try rfl) rfl ?_)
      exact ⟨rfl, by (repeat' first | exact Below.refl _ _ | with_reducible refine Below.drew ?_ | with_reducible refine Below.drewN ?_ _ | with_reducible refine Below.alloc' ?_ _ | with_reducible refine Below.setCell ?_ (by first | exact Nat.le_refl _ | (simp; done) | (simp; omega)) _ | with_reducible refine Below.after ?_ ‹_›)⟩
    · have e : sumV l = chkV (loSum l) (hiSum l) := by simp [sumV, hn, hbig, h]
      rw [e]
      have H := Lib.hid h
      clear e hn h
      go_enter Try.func22, Try.ntmps22
      go_wp2_with fail
      refine (allValid_any _ _ _ _ _ Hn.out hb (hl.kept (by (repeat' first | exact Below.refl _ _ | with_reducible refine Below.drew ?_ | with_reducible refine Below.drewN ?_ _ | with_reducible refine Below.alloc' ?_ _ | with_reducible refine Below.setCell ?_ (by first | exact Nat.le_refl _ | (simp; done) | (simp; omega)) _ | with_reducible refine Below.after ?_ ‹_›)))).mono ?_
      rintro e w1 ⟨rfl, hb1⟩
      have q25 := kept hb1 (p := ⟨w.heap.size, 0, none⟩) (v := .int .i64 0) (by first | ((repeat' first | with_reducible assumption | with_reducible refine cellA ?_ | with_reducible refine cellD ?_); done) | (simp [go_sem]; done) | (simp [go_sem, *]; done))
      have y25 := World.block_lt_of_cell? _ _ q25
      simp only [] at y25
      have z25 := keptF hb1 (p := ⟨w.heap.size, 0, none⟩) (v := .int .i64 0) (by first | ((repeat' first | with_reducible assumption | with_reducible refine cellA ?_ | with_reducible refine cellD ?_); done) | (simp [go_sem]; done) | (simp [go_sem, *]; done)) (by first | ((repeat' first | with_reducible assumption | with_reducible refine frozA (v := .int .i64 0) (by first | ((repeat' first | with_reducible assumption | with_reducible refine cellA ?_ | with_reducible refine cellD ?_); done) | (simp [go_sem]; done) | (simp [go_sem, *]; done)) ?_ | with_reducible refine frozD ?_); done) | (simp [go_sem]; done) | (simp [go_sem, *]; done))
      have q26 := kept hb1 (p := ⟨w.heap.size, 1, none⟩) (v := .int .i64 0) (by first | ((repeat' first | with_reducible assumption | with_reducible refine cellA ?_ | with_reducible refine cellD ?_); done) | (simp [go_sem]; done) | (simp [go_sem, *]; done))
      have z26 := keptF hb1 (p := ⟨w.heap.size, 1, none⟩) (v := .int .i64 0) (by first | ((repeat' first | with_reducible assumption | with_reducible refine cellA ?_ | with_reducible refine cellD ?_); done) | (simp [go_sem]; done) | (simp [go_sem, *]; done)) (by first | ((repeat' first | with_reducible assumption | with_reducible refine frozA (v := .int .i64 0) (by first | ((repeat' first | with_reducible assumption | with_reducible refine cellA ?_ | with_reducible refine cellD ?_); done) | (simp [go_sem]; done) | (simp [go_sem, *]; done)) ?_ | with_reducible refine frozD ?_); done) | (simp [go_sem]; done) | (simp [go_sem, *]; done))
      have s1 := hb1.size
      have hl1 : Spans w1 s l := hl.kept (by (repeat' first | exact Below.refl _ _ | with_reducible refine Below.drew ?_ | with_reducible refine Below.drewN ?_ _ | with_reducible refine Below.alloc' ?_ _ | with_reducible refine Below.setCell ?_ (by first | exact Nat.le_refl _ | (simp; done) | (simp; omega)) _ | with_reducible refine Below.after ?_ ‹_›))
      rw [H.out]
      go_wp2_with fail
      refine (joinPlus_any 0 0 _ _ _ _ _ Hn.out (by omega) hl1 H.out (by rfl)).mono ?_
      rintro e w2 ⟨rfl, hb2⟩
      have q27 := kept hb2 (p := ⟨w.heap.size, 0, none⟩) (v := .int .i64 0) (by first | ((repeat' first | with_reducible assumption | with_reducible refine cellA ?_ | with_reducible refine cellD ?_); done) | (simp [go_sem]; done) | (simp [go_sem, *]; done))
      have y27 := World.block_lt_of_cell? _ _ q27
      simp only [] at y27
      have z27 := keptF hb2 (p := ⟨w.heap.size, 0, none⟩) (v := .int .i64 0) (by first | ((repeat' first | with_reducible assumption | with_reducible refine cellA ?_ | with_reducible refine cellD ?_); done) | (simp [go_sem]; done) | (simp [go_sem, *]; done)) (by first | ((repeat' first | with_reducible assumption | with_reducible refine frozA (v := .int .i64 0) (by first | ((repeat' first | with_reducible assumption | with_reducible refine cellA ?_ | with_reducible refine cellD ?_); done) | (simp [go_sem]; done) | (simp [go_sem, *]; done)) ?_ | with_reducible refine frozD ?_); done) | (simp [go_sem]; done) | (simp [go_sem, *]; done))
      have q28 := kept hb2 (p := ⟨w.heap.size, 1, none⟩) (v := .int .i64 0) (by first | ((repeat' first | with_reducible assumption | with_reducible refine cellA ?_ | with_reducible refine cellD ?_); done) | (simp [go_sem]; done) | (simp [go_sem, *]; done))
      have z28 := keptF hb2 (p := ⟨w.heap.size, 1, none⟩) (v := .int .i64 0) (by first | ((repeat' first | with_reducible assumption | with_reducible refine cellA ?_ | with_reducible refine cellD ?_); done) | (simp [go_sem]; done) | (simp [go_sem, *]; done)) (by first | ((repeat' first | with_reducible assumption | with_reducible refine frozA (v := .int .i64 0) (by first | ((repeat' first | with_reducible assumption | with_reducible refine cellA ?_ | with_reducible refine cellD ?_); done) | (simp [go_sem]; done) | (simp [go_sem, *]; done)) ?_ | with_reducible refine frozD ?_); done) | (simp [go_sem]; done) | (simp [go_sem, *]; done))
      have s2 := hb2.size
      simp only [Int.zero_add]
      go_wp2_with fail
      refine (checkResult_any _ _ _).mono ?_
      rintro e w3 ⟨rfl, hb3⟩
      have q29 := kept hb3 (p := ⟨w.heap.size, 0, none⟩) (v := .int .i64 0) (by first | ((repeat' first | with_reducible assumption | with_reducible refine cellA ?_ | with_reducible refine cellD ?_); done) | (simp [go_sem]; done) | (simp [go_sem, *]; done))
      have y29 := World.block_lt_of_cell? _ _ q29
      simp only [] at y29
      have z29 := keptF hb3 (p := ⟨w.heap.size, 0, none⟩) (v := .int .i64 0) (by first | ((repeat' first | with_reducible assumption | with_reducible refine cellA ?_ | with_reducible refine cellD ?_); done) | (simp [go_sem]; done) | (simp [go_sem, *]; done)) (by first | ((repeat' first | with_reducible assumption | with_reducible refine frozA (v := .int .i64 0) (by first | ((repeat' first | with_reducible assumption | with_reducible refine cellA ?_ | with_reducible refine cellD ?_); done) | (simp [go_sem]; done) | (simp [go_sem, *]; done)) ?_ | with_reducible refine frozD ?_); done) | (simp [go_sem]; done) | (simp [go_sem, *]; done))
      have q30 := kept hb3 (p := ⟨w.heap.size, 1, none⟩) (v := .int .i64 0) (by first | ((repeat' first | with_reducible assumption | with_reducible refine cellA ?_ | with_reducible refine cellD ?_); done) | (simp [go_sem]; done) | (simp [go_sem, *]; done))
      have z30 := keptF hb3 (p := ⟨w.heap.size, 1, none⟩) (v := .int .i64 0) (by first | ((repeat' first | with_reducible assumption | with_reducible refine cellA ?_ | with_reducible refine cellD ?_); done) | (simp [go_sem]; done) | (simp [go_sem, *]; done)) (by first | ((repeat' first | with_reducible assumption | with_reducible refine frozA (v := .int .i64 0) (by first | ((repeat' first | with_reducible assumption | with_reducible refine cellA ?_ | with_reducible refine cellD ?_); done) | (simp [go_sem]; done) | (simp [go_sem, *]; done)) ?_ | with_reducible refine frozD ?_); done) | (simp [go_sem]; done) | (simp [go_sem, *]; done))
      have s3 := hb3.size
      unfold res
      go_wp2
      ((try simp only [Exit.inBlock, Exit.then]); refine bodyPost_ret (by simp [results, Try.results22, go_sem, *]; try rfl) rfl ?_)
      exact ⟨rfl, by (repeat' first | exact Below.refl _ _ | with_reducible refine Below.drew ?_ | with_reducible refine Below.drewN ?_ _ | with_reducible refine Below.alloc' ?_ _ | with_reducible refine Below.setCell ?_ (by first | exact Nat.le_refl _ | (simp; done) | (simp; omega)) _ | with_reducible refine Below.after ?_ ‹_›)⟩
end Go.Proofs.Ytnehmkdcifgpnaa
