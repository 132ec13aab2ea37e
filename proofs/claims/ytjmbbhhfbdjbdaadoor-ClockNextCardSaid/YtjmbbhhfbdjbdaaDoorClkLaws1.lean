/-
  Walks over the laws of package clock: Dates, Formats, Opens.
-/
import Derived.Test.YtjmbbhhfbdjbdaaDoorClkLaws
namespace Go.Proofs.YtjmbbhhfbdjbdaaDoor
open Go.RowKit

set_option maxRecDepth 100000 in
set_option maxHeartbeats 4000000 in
theorem clockDates_of (K : ClkCon) (t day : Int) (w : World) (hT : Tabs w) :
    Calls Tryd.prog 3 #[.int .i64 t, .int .i64 day] w fun e w' => e = .returned (.bool true) ∧ Below w.heap.size w w' := by
  go_enter Tryd.func3, Tryd.ntmps3
  go_wp2_with fail
  refine (K.date t _).mono ?_
  rintro e w1 ⟨rfl, hb1⟩
  go_wp2_with fail
  refine (rDate_any t _).mono ?_
  rintro e w' ⟨rfl, rfl⟩
  go_wp2_with fail
  refine (K.weekday day _).mono ?_
  rintro e w2 ⟨rfl, hb2⟩
  go_wp2_with fail
  refine (rWeekday_any day _).mono ?_
  rintro e w' ⟨rfl, rfl⟩
  go_wp2_with fail
  refine (clkAwake_any K _ (hT.on (by (repeat' first | with_reducible assumption | exact Below.refl _ _ | with_reducible refine Below.drew ?_ | with_reducible refine Below.drewN ?_ _ | with_reducible refine Below.alloc' ?_ _ | with_reducible refine Below.setCell ?_ (by first | exact Nat.le_refl _ | omega | (simp; done) | (simp; omega)) _ | with_reducible refine Below.after ?_ ‹_›)))).mono ?_
  rintro e w3 ⟨rfl, hb3⟩
  go_wp2
  go_ret
  exact ⟨rfl, by (repeat' first | with_reducible assumption | exact Below.refl _ _ | with_reducible refine Below.drew ?_ | with_reducible refine Below.drewN ?_ _ | with_reducible refine Below.alloc' ?_ _ | with_reducible refine Below.setCell ?_ (by first | exact Nat.le_refl _ | omega | (simp; done) | (simp; omega)) _ | with_reducible refine Below.after ?_ ‹_›)⟩

set_option maxRecDepth 100000 in
set_option maxHeartbeats 4000000 in
theorem clockFormats_of (K : ClkCon) (t : Int) (s : ByteArray) (w : World) (hT : Tabs w) (hs : s.size ≤ 9223372036854775807) :
    Calls Tryd.prog 4 #[.int .i64 t, .string s] w fun e w' => e = .returned (.bool true) ∧ Below w.heap.size w w' := by
  by_cases hl : s.size ≤ 1000
  · go_enter Tryd.func4, Tryd.ntmps4
    go_wp2_with fail
    refine (K.format t _ (hT.on (by (repeat' first | with_reducible assumption | exact Below.refl _ _ | with_reducible refine Below.drew ?_ | with_reducible refine Below.drewN ?_ _ | with_reducible refine Below.alloc' ?_ _ | with_reducible refine Below.setCell ?_ (by first | exact Nat.le_refl _ | omega | (simp; done) | (simp; omega)) _ | with_reducible refine Below.after ?_ ‹_›)))).mono ?_
    rintro e w1 ⟨rfl, hb1⟩
    go_wp2_with fail
    refine (rFormat_any t _).mono ?_
    rintro e w2 ⟨rfl, hb2⟩
    go_wp2_with fail
    refine (K.parse s _ hl (hT.on (by (repeat' first | with_reducible assumption | exact Below.refl _ _ | with_reducible refine Below.drew ?_ | with_reducible refine Below.drewN ?_ _ | with_reducible refine Below.alloc' ?_ _ | with_reducible refine Below.setCell ?_ (by first | exact Nat.le_refl _ | omega | (simp; done) | (simp; omega)) _ | with_reducible refine Below.after ?_ ‹_›)))).mono ?_
    rintro e w3 ⟨rfl, hb3⟩
    go_wp2_with fail
    refine (rParse_any s _ hs).mono ?_
    rintro e w4 ⟨rfl, hb4⟩
    unfold str
    go_wp2_with fail
    refine (clkAwake_any K _ (hT.on (by (repeat' first | with_reducible assumption | exact Below.refl _ _ | with_reducible refine Below.drew ?_ | with_reducible refine Below.drewN ?_ _ | with_reducible refine Below.alloc' ?_ _ | with_reducible refine Below.setCell ?_ (by first | exact Nat.le_refl _ | omega | (simp; done) | (simp; omega)) _ | with_reducible refine Below.after ?_ ‹_›)))).mono ?_
    rintro e w5 ⟨rfl, hb5⟩
    go_wp2
    go_ret
    exact ⟨rfl, by (repeat' first | with_reducible assumption | exact Below.refl _ _ | with_reducible refine Below.drew ?_ | with_reducible refine Below.drewN ?_ _ | with_reducible refine Below.alloc' ?_ _ | with_reducible refine Below.setCell ?_ (by first | exact Nat.le_refl _ | omega | (simp; done) | (simp; omega)) _ | with_reducible refine Below.after ?_ ‹_›)⟩
  · go_enter Tryd.func4, Tryd.ntmps4
    go_wp2_with fail
    refine (clkAwake_any K _ (hT.on (by (repeat' first | with_reducible assumption | exact Below.refl _ _ | with_reducible refine Below.drew ?_ | with_reducible refine Below.drewN ?_ _ | with_reducible refine Below.alloc' ?_ _ | with_reducible refine Below.setCell ?_ (by first | exact Nat.le_refl _ | omega | (simp; done) | (simp; omega)) _ | with_reducible refine Below.after ?_ ‹_›)))).mono ?_
    rintro e w5 ⟨rfl, hb5⟩
    go_wp2
    go_ret
    exact ⟨rfl, by (repeat' first | with_reducible assumption | exact Below.refl _ _ | with_reducible refine Below.drew ?_ | with_reducible refine Below.drewN ?_ _ | with_reducible refine Below.alloc' ?_ _ | with_reducible refine Below.setCell ?_ (by first | exact Nat.le_refl _ | omega | (simp; done) | (simp; omega)) _ | with_reducible refine Below.after ?_ ‹_›)⟩

set_option maxRecDepth 100000 in
set_option maxHeartbeats 4000000 in
theorem clockOpens_of (K : ClkCon) (cs : Array Value) (wk : List (Int × Int)) (t : Int) (w : World) (hT : Tabs w) (h : IsWeek cs wk) :
    Calls Tryd.prog 7 #[.agg cs, .int .i64 t] w fun e w' => e = .returned (.bool true) ∧ Below w.heap.size w w' := by
  have H := Lib.hid h
  obtain ⟨a0, a1, a2, a3, a4, a5, a6, a7, a8, a9, a10, a11, a12, a13, rfl⟩ := week_cells h
  clear h
  go_enter Tryd.func7, Tryd.ntmps7
  go_wp2_with fail
  refine (K.opens _ wk t _ H.out).mono ?_
  rintro e w1 ⟨rfl, hb1⟩
  have q1 := kept hb1 (p := ⟨w.heap.size, 0, none⟩) (v := .int .i64 a0) (by first | ((repeat' first | with_reducible assumption | with_reducible refine cellA ?_ | with_reducible refine cellD ?_); done) | (simp [go_sem]; done) | (simp [go_sem, *]; done))
  have y1 := World.block_lt_of_cell? _ _ q1
  simp only [] at y1
  have q2 := kept hb1 (p := ⟨w.heap.size, 1, none⟩) (v := .int .i64 a1) (by first | ((repeat' first | with_reducible assumption | with_reducible refine cellA ?_ | with_reducible refine cellD ?_); done) | (simp [go_sem]; done) | (simp [go_sem, *]; done))
  have q3 := kept hb1 (p := ⟨w.heap.size, 2, none⟩) (v := .int .i64 a2) (by first | ((repeat' first | with_reducible assumption | with_reducible refine cellA ?_ | with_reducible refine cellD ?_); done) | (simp [go_sem]; done) | (simp [go_sem, *]; done))
  have q4 := kept hb1 (p := ⟨w.heap.size, 3, none⟩) (v := .int .i64 a3) (by first | ((repeat' first | with_reducible assumption | with_reducible refine cellA ?_ | with_reducible refine cellD ?_); done) | (simp [go_sem]; done) | (simp [go_sem, *]; done))
  have q5 := kept hb1 (p := ⟨w.heap.size, 4, none⟩) (v := .int .i64 a4) (by first | ((repeat' first | with_reducible assumption | with_reducible refine cellA ?_ | with_reducible refine cellD ?_); done) | (simp [go_sem]; done) | (simp [go_sem, *]; done))
  have q6 := kept hb1 (p := ⟨w.heap.size, 5, none⟩) (v := .int .i64 a5) (by first | ((repeat' first | with_reducible assumption | with_reducible refine cellA ?_ | with_reducible refine cellD ?_); done) | (simp [go_sem]; done) | (simp [go_sem, *]; done))
  have q7 := kept hb1 (p := ⟨w.heap.size, 6, none⟩) (v := .int .i64 a6) (by first | ((repeat' first | with_reducible assumption | with_reducible refine cellA ?_ | with_reducible refine cellD ?_); done) | (simp [go_sem]; done) | (simp [go_sem, *]; done))
  have q8 := kept hb1 (p := ⟨w.heap.size, 7, none⟩) (v := .int .i64 a7) (by first | ((repeat' first | with_reducible assumption | with_reducible refine cellA ?_ | with_reducible refine cellD ?_); done) | (simp [go_sem]; done) | (simp [go_sem, *]; done))
  have q9 := kept hb1 (p := ⟨w.heap.size, 8, none⟩) (v := .int .i64 a8) (by first | ((repeat' first | with_reducible assumption | with_reducible refine cellA ?_ | with_reducible refine cellD ?_); done) | (simp [go_sem]; done) | (simp [go_sem, *]; done))
  have q10 := kept hb1 (p := ⟨w.heap.size, 9, none⟩) (v := .int .i64 a9) (by first | ((repeat' first | with_reducible assumption | with_reducible refine cellA ?_ | with_reducible refine cellD ?_); done) | (simp [go_sem]; done) | (simp [go_sem, *]; done))
  have q11 := kept hb1 (p := ⟨w.heap.size, 10, none⟩) (v := .int .i64 a10) (by first | ((repeat' first | with_reducible assumption | with_reducible refine cellA ?_ | with_reducible refine cellD ?_); done) | (simp [go_sem]; done) | (simp [go_sem, *]; done))
  have q12 := kept hb1 (p := ⟨w.heap.size, 11, none⟩) (v := .int .i64 a11) (by first | ((repeat' first | with_reducible assumption | with_reducible refine cellA ?_ | with_reducible refine cellD ?_); done) | (simp [go_sem]; done) | (simp [go_sem, *]; done))
  have q13 := kept hb1 (p := ⟨w.heap.size, 12, none⟩) (v := .int .i64 a12) (by first | ((repeat' first | with_reducible assumption | with_reducible refine cellA ?_ | with_reducible refine cellD ?_); done) | (simp [go_sem]; done) | (simp [go_sem, *]; done))
  have q14 := kept hb1 (p := ⟨w.heap.size, 13, none⟩) (v := .int .i64 a13) (by first | ((repeat' first | with_reducible assumption | with_reducible refine cellA ?_ | with_reducible refine cellD ?_); done) | (simp [go_sem]; done) | (simp [go_sem, *]; done))
  go_wp2_with fail
  refine (rOpen_any _ wk t _ H.out).mono ?_
  rintro e w2 ⟨rfl, hb2⟩
  have q15 := kept hb2 (p := ⟨w.heap.size, 0, none⟩) (v := .int .i64 a0) (by first | ((repeat' first | with_reducible assumption | with_reducible refine cellA ?_ | with_reducible refine cellD ?_); done) | (simp [go_sem]; done) | (simp [go_sem, *]; done))
  have y15 := World.block_lt_of_cell? _ _ q15
  simp only [] at y15
  have q16 := kept hb2 (p := ⟨w.heap.size, 1, none⟩) (v := .int .i64 a1) (by first | ((repeat' first | with_reducible assumption | with_reducible refine cellA ?_ | with_reducible refine cellD ?_); done) | (simp [go_sem]; done) | (simp [go_sem, *]; done))
  have q17 := kept hb2 (p := ⟨w.heap.size, 2, none⟩) (v := .int .i64 a2) (by first | ((repeat' first | with_reducible assumption | with_reducible refine cellA ?_ | with_reducible refine cellD ?_); done) | (simp [go_sem]; done) | (simp [go_sem, *]; done))
  have q18 := kept hb2 (p := ⟨w.heap.size, 3, none⟩) (v := .int .i64 a3) (by first | ((repeat' first | with_reducible assumption | with_reducible refine cellA ?_ | with_reducible refine cellD ?_); done) | (simp [go_sem]; done) | (simp [go_sem, *]; done))
  have q19 := kept hb2 (p := ⟨w.heap.size, 4, none⟩) (v := .int .i64 a4) (by first | ((repeat' first | with_reducible assumption | with_reducible refine cellA ?_ | with_reducible refine cellD ?_); done) | (simp [go_sem]; done) | (simp [go_sem, *]; done))
  have q20 := kept hb2 (p := ⟨w.heap.size, 5, none⟩) (v := .int .i64 a5) (by first | ((repeat' first | with_reducible assumption | with_reducible refine cellA ?_ | with_reducible refine cellD ?_); done) | (simp [go_sem]; done) | (simp [go_sem, *]; done))
  have q21 := kept hb2 (p := ⟨w.heap.size, 6, none⟩) (v := .int .i64 a6) (by first | ((repeat' first | with_reducible assumption | with_reducible refine cellA ?_ | with_reducible refine cellD ?_); done) | (simp [go_sem]; done) | (simp [go_sem, *]; done))
  have q22 := kept hb2 (p := ⟨w.heap.size, 7, none⟩) (v := .int .i64 a7) (by first | ((repeat' first | with_reducible assumption | with_reducible refine cellA ?_ | with_reducible refine cellD ?_); done) | (simp [go_sem]; done) | (simp [go_sem, *]; done))
  have q23 := kept hb2 (p := ⟨w.heap.size, 8, none⟩) (v := .int .i64 a8) (by first | ((repeat' first | with_reducible assumption | with_reducible refine cellA ?_ | with_reducible refine cellD ?_); done) | (simp [go_sem]; done) | (simp [go_sem, *]; done))
  have q24 := kept hb2 (p := ⟨w.heap.size, 9, none⟩) (v := .int .i64 a9) (by first | ((repeat' first | with_reducible assumption | with_reducible refine cellA ?_ | with_reducible refine cellD ?_); done) | (simp [go_sem]; done) | (simp [go_sem, *]; done))
  have q25 := kept hb2 (p := ⟨w.heap.size, 10, none⟩) (v := .int .i64 a10) (by first | ((repeat' first | with_reducible assumption | with_reducible refine cellA ?_ | with_reducible refine cellD ?_); done) | (simp [go_sem]; done) | (simp [go_sem, *]; done))
  have q26 := kept hb2 (p := ⟨w.heap.size, 11, none⟩) (v := .int .i64 a11) (by first | ((repeat' first | with_reducible assumption | with_reducible refine cellA ?_ | with_reducible refine cellD ?_); done) | (simp [go_sem]; done) | (simp [go_sem, *]; done))
  have q27 := kept hb2 (p := ⟨w.heap.size, 12, none⟩) (v := .int .i64 a12) (by first | ((repeat' first | with_reducible assumption | with_reducible refine cellA ?_ | with_reducible refine cellD ?_); done) | (simp [go_sem]; done) | (simp [go_sem, *]; done))
  have q28 := kept hb2 (p := ⟨w.heap.size, 13, none⟩) (v := .int .i64 a13) (by first | ((repeat' first | with_reducible assumption | with_reducible refine cellA ?_ | with_reducible refine cellD ?_); done) | (simp [go_sem]; done) | (simp [go_sem, *]; done))
  go_wp2_with fail
  refine (K.next _ wk t _ H.out).mono ?_
  rintro e w3 ⟨n, x, rfl, h1, hb3⟩
  have q29 := kept hb3 (p := ⟨w.heap.size, 0, none⟩) (v := .int .i64 a0) (by first | ((repeat' first | with_reducible assumption | with_reducible refine cellA ?_ | with_reducible refine cellD ?_); done) | (simp [go_sem]; done) | (simp [go_sem, *]; done))
  have y29 := World.block_lt_of_cell? _ _ q29
  simp only [] at y29
  have q30 := kept hb3 (p := ⟨w.heap.size, 1, none⟩) (v := .int .i64 a1) (by first | ((repeat' first | with_reducible assumption | with_reducible refine cellA ?_ | with_reducible refine cellD ?_); done) | (simp [go_sem]; done) | (simp [go_sem, *]; done))
  have q31 := kept hb3 (p := ⟨w.heap.size, 2, none⟩) (v := .int .i64 a2) (by first | ((repeat' first | with_reducible assumption | with_reducible refine cellA ?_ | with_reducible refine cellD ?_); done) | (simp [go_sem]; done) | (simp [go_sem, *]; done))
  have q32 := kept hb3 (p := ⟨w.heap.size, 3, none⟩) (v := .int .i64 a3) (by first | ((repeat' first | with_reducible assumption | with_reducible refine cellA ?_ | with_reducible refine cellD ?_); done) | (simp [go_sem]; done) | (simp [go_sem, *]; done))
  have q33 := kept hb3 (p := ⟨w.heap.size, 4, none⟩) (v := .int .i64 a4) (by first | ((repeat' first | with_reducible assumption | with_reducible refine cellA ?_ | with_reducible refine cellD ?_); done) | (simp [go_sem]; done) | (simp [go_sem, *]; done))
  have q34 := kept hb3 (p := ⟨w.heap.size, 5, none⟩) (v := .int .i64 a5) (by first | ((repeat' first | with_reducible assumption | with_reducible refine cellA ?_ | with_reducible refine cellD ?_); done) | (simp [go_sem]; done) | (simp [go_sem, *]; done))
  have q35 := kept hb3 (p := ⟨w.heap.size, 6, none⟩) (v := .int .i64 a6) (by first | ((repeat' first | with_reducible assumption | with_reducible refine cellA ?_ | with_reducible refine cellD ?_); done) | (simp [go_sem]; done) | (simp [go_sem, *]; done))
  have q36 := kept hb3 (p := ⟨w.heap.size, 7, none⟩) (v := .int .i64 a7) (by first | ((repeat' first | with_reducible assumption | with_reducible refine cellA ?_ | with_reducible refine cellD ?_); done) | (simp [go_sem]; done) | (simp [go_sem, *]; done))
  have q37 := kept hb3 (p := ⟨w.heap.size, 8, none⟩) (v := .int .i64 a8) (by first | ((repeat' first | with_reducible assumption | with_reducible refine cellA ?_ | with_reducible refine cellD ?_); done) | (simp [go_sem]; done) | (simp [go_sem, *]; done))
  have q38 := kept hb3 (p := ⟨w.heap.size, 9, none⟩) (v := .int .i64 a9) (by first | ((repeat' first | with_reducible assumption | with_reducible refine cellA ?_ | with_reducible refine cellD ?_); done) | (simp [go_sem]; done) | (simp [go_sem, *]; done))
  have q39 := kept hb3 (p := ⟨w.heap.size, 10, none⟩) (v := .int .i64 a10) (by first | ((repeat' first | with_reducible assumption | with_reducible refine cellA ?_ | with_reducible refine cellD ?_); done) | (simp [go_sem]; done) | (simp [go_sem, *]; done))
  have q40 := kept hb3 (p := ⟨w.heap.size, 11, none⟩) (v := .int .i64 a11) (by first | ((repeat' first | with_reducible assumption | with_reducible refine cellA ?_ | with_reducible refine cellD ?_); done) | (simp [go_sem]; done) | (simp [go_sem, *]; done))
  have q41 := kept hb3 (p := ⟨w.heap.size, 12, none⟩) (v := .int .i64 a12) (by first | ((repeat' first | with_reducible assumption | with_reducible refine cellA ?_ | with_reducible refine cellD ?_); done) | (simp [go_sem]; done) | (simp [go_sem, *]; done))
  have q42 := kept hb3 (p := ⟨w.heap.size, 13, none⟩) (v := .int .i64 a13) (by first | ((repeat' first | with_reducible assumption | with_reducible refine cellA ?_ | with_reducible refine cellD ?_); done) | (simp [go_sem]; done) | (simp [go_sem, *]; done))
  go_wp2_with fail
  refine (rNext_any _ wk t _ H.out).mono ?_
  rintro e w4 ⟨n', x', rfl, h2, hb4⟩
  obtain ⟨rfl, rfl⟩ := next_unique h1 h2
  clear h1 h2
  go_wp2_with fail
  refine (clkAwake_any K _ (hT.on (by (repeat' first | with_reducible assumption | exact Below.refl _ _ | with_reducible refine Below.drew ?_ | with_reducible refine Below.drewN ?_ _ | with_reducible refine Below.alloc' ?_ _ | with_reducible refine Below.setCell ?_ (by first | exact Nat.le_refl _ | omega | (simp; done) | (simp; omega)) _ | with_reducible refine Below.after ?_ ‹_›)))).mono ?_
  rintro e w5 ⟨rfl, hb5⟩
  go_wp2
  go_ret
  exact ⟨rfl, by (repeat' first | with_reducible assumption | exact Below.refl _ _ | with_reducible refine Below.drew ?_ | with_reducible refine Below.drewN ?_ _ | with_reducible refine Below.alloc' ?_ _ | with_reducible refine Below.setCell ?_ (by first | exact Nat.le_refl _ | omega | (simp; done) | (simp; omega)) _ | with_reducible refine Below.after ?_ ‹_›)⟩
end Go.Proofs.YtjmbbhhfbdjbdaaDoor
