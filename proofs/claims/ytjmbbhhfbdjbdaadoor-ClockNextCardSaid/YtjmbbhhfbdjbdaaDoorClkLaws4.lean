/-
  Walks over the laws of package clock: Next.
-/
import Derived.Test.YtjmbbhhfbdjbdaaDoorClkLaws
namespace Go.Proofs.YtjmbbhhfbdjbdaaDoor
open Go.RowKit

theorem conOpen_is (K : ClkCon) {cs : Array Value} {wk : List (Int × Int)} (h : IsWeek cs wk) {t : Int} {r : Bool} {x : Int} (ho : openS wk t = (r, x)) (w : World) :
    Calls Tryd.prog 28 #[.agg cs, .int .i64 t] w fun e w' => e = .returned (.tuple #[.bool r, .int .i64 x]) ∧ Below w.heap.size w w' := by
  have := K.opens cs wk t w h
  rwa [ho] at this
theorem openS_no {wk : List (Int × Int)} {t : Int} (h : (mB t && wk.all dB) = false) : openS wk t = (false, 1) := by simp [openS, h]
theorem openS_in {wk : List (Int × Int)} {t u : Int} {r : Bool} (h : (mB t && wk.all dB) = true) (h0 : 0 ≤ u) (h1 : u ≤ 3155759999) (ho : opB wk u = r) : openS wk u = (r, 0) := by
  have hu : mB u = true := mB_true.2 ⟨h0, h1⟩
  have hd : wk.all dB = true := by simp at h; simpa using h.2
  simp [openS, hu, hd, ho]

set_option maxRecDepth 100000 in
set_option maxHeartbeats 8000000 in
theorem clockNext_of (K : ClkCon) (cs : Array Value) (wk : List (Int × Int)) (t m : Int) (w : World) (hT : Tabs w) (h : IsWeek cs wk) (hm : 0 ≤ m ∧ m < 4294967296) :
    Calls Tryd.prog 11 #[.agg cs, .int .i64 t, .int .u32 m] w fun e w' => e = .returned (.bool true) ∧ Below w.heap.size w w' := by
  have H := Lib.hid h
  obtain ⟨a0, a1, a2, a3, a4, a5, a6, a7, a8, a9, a10, a11, a12, a13, rfl⟩ := week_cells h
  clear h
  obtain ⟨m0, m1⟩ := hm
  go_enter Tryd.func11, Tryd.ntmps11
  go_wp2_with fail
  refine (K.next _ wk t _ H.out).mono ?_
  rintro e w1 ⟨n, x, rfl, hx, hb1⟩
  have q1 := kept hb1 (p := ⟨w.heap.size, 0, none⟩) (v := .int .i64 a0) (by first | ((repeat' first | with_reducible assumption | with_reducible refine cellA ?_ | with_reducible refine cellD ?_); done) | (simp [go_sem]; done) | (simp [go_sem, *]; done))
  have y1 := World.block_lt_of_cell? _ _ q1
  simp only [] at y1
  have q2 := kept hb1 (p := ⟨w.heap.size, 1, none⟩) (v := .int .i64 a1) (by first | ((repeat' first | with_reducible assumption | with_reducible refine cellA ?_ | with_reducible refine cellD ?_); done) | (simp [go_sem]; done) | (simp [go_sem, *]; done))
  have q3 := kept hb1 (p := ⟨w.heap.size, 2, none⟩) (v := .int .i64 a2) (by first | ((repeat' first | with_reducible assumption | with_reducible refine cellA ?_ | with_reducible refine cellD ?_); done) | (simp [go_sem]; done) | (simp [go_sem, *]; done))
  have q4 := kept hb1 (p := ⟨w.heap.size, 3, none⟩) (v := .int .i64 a3) (by first | ((repeat' first | with_reducible assumption | with_reducible refine cellA ?_ | with_reducible refine cellD ?_); done) | (simp [go_sem]; done) | (simp [go_sem, *]; done))
  have q5 := kept hb1 (p := ⟨w.heap.size, 4, none⟩) (v := .int .i64 a4) (by first | ((repeat' first | with_reducible assumption | with_reducible refine cellA ?_ | with_reducible refine cellD ?_); done) | (simp [go_sem]; done) | (simp [go_sem, *]; done))
  have q6 := kept hb1 (p := ⟨w.heap.size, 5, none⟩) (v := .int .i64 a5) (by first | ((repeat' first | with_reducible assumption | with_reducible refine cellA ?_ | with_reducible refine cellD ?_); done) | (simp [go_sem]; done) | (simp [go_sem, *]; done))
  have q7 := kept hb1 (p := ⟨w.heap.size, 6, none⟩) (v := .int .i64 a6) (by first | ((repeat' first | with_reducible assumption | with_reducible refine cellA ?_ | with_reducible refine cellD ?_); done) | (simp [go_sem]; done) | (simp [go_sem, *]; done))
  have q8 := kept hb1 (p := ⟨w.heap.size, 7, none⟩) (v := .int .i64 a7) (by first | ((repeat' first | with_reducible assumption | with_reducible refine cellA ?_ | with_reducible refine cellD ?_); done) | (simp [go_sem]; done) | (simp [go_sem, *]; done))
  have q9 := kept hb1 (p := ⟨w.heap.size, 8, none⟩) (v := .int .i64 a8) (by first | ((repeat' first | with_reducible assumption | with_reducible refine cellA ?_ | with_reducible refine cellD ?_); done) | (simp [go_sem]; done) | (simp [go_sem, *]; done))
  have q10 := kept hb1 (p := ⟨w.heap.size, 9, none⟩) (v := .int .i64 a9) (by first | ((repeat' first | with_reducible assumption | with_reducible refine cellA ?_ | with_reducible refine cellD ?_); done) | (simp [go_sem]; done) | (simp [go_sem, *]; done))
  have q11 := kept hb1 (p := ⟨w.heap.size, 10, none⟩) (v := .int .i64 a10) (by first | ((repeat' first | with_reducible assumption | with_reducible refine cellA ?_ | with_reducible refine cellD ?_); done) | (simp [go_sem]; done) | (simp [go_sem, *]; done))
  have q12 := kept hb1 (p := ⟨w.heap.size, 11, none⟩) (v := .int .i64 a11) (by first | ((repeat' first | with_reducible assumption | with_reducible refine cellA ?_ | with_reducible refine cellD ?_); done) | (simp [go_sem]; done) | (simp [go_sem, *]; done))
  have q13 := kept hb1 (p := ⟨w.heap.size, 12, none⟩) (v := .int .i64 a12) (by first | ((repeat' first | with_reducible assumption | with_reducible refine cellA ?_ | with_reducible refine cellD ?_); done) | (simp [go_sem]; done) | (simp [go_sem, *]; done))
  have q14 := kept hb1 (p := ⟨w.heap.size, 13, none⟩) (v := .int .i64 a13) (by first | ((repeat' first | with_reducible assumption | with_reducible refine cellA ?_ | with_reducible refine cellD ?_); done) | (simp [go_sem]; done) | (simp [go_sem, *]; done))
  rcases hx with ⟨rfl, rfl, h1⟩ | ⟨rfl, h1, h2, h3, h4, h5⟩ | ⟨rfl, rfl, h1, h2⟩
  · have HO := Lib.hid (openS_no h1)
    clear h1
    go_wp2_with fail
    refine (conOpen_is K H.out HO.out _).mono ?_
    rintro e w2 ⟨rfl, hb2⟩
    go_wp2_with fail
    refine (clkAwake_any K _ (hT.on (by (repeat' first | with_reducible assumption | exact Below.refl _ _ | with_reducible refine Below.drew ?_ | with_reducible refine Below.drewN ?_ _ | with_reducible refine Below.alloc' ?_ _ | with_reducible refine Below.setCell ?_ (by first | exact Nat.le_refl _ | omega | (simp; done) | (simp; omega)) _ | with_reducible refine Below.after ?_ ‹_›)))).mono ?_
    rintro e w3 ⟨rfl, hb3⟩
    go_wp2
    go_ret
    exact ⟨rfl, by (repeat' first | with_reducible assumption | exact Below.refl _ _ | with_reducible refine Below.drew ?_ | with_reducible refine Below.drewN ?_ _ | with_reducible refine Below.alloc' ?_ _ | with_reducible refine Below.setCell ?_ (by first | exact Nat.le_refl _ | omega | (simp; done) | (simp; omega)) _ | with_reducible refine Below.after ?_ ‹_›)⟩
  · have bt := mB_true.1 (show mB t = true by simp at h1; exact h1.1)
    have HO := Lib.hid (openS_in h1 (by omega) h3 h4)
    have H1 := Lib.hid h1
    have H5 := Lib.hid h5
    clear h1 h4 h5
    go_wp2_with fail
    refine (conOpen_is K H.out HO.out _).mono ?_
    rintro e w2 ⟨rfl, hb2⟩
    have q15 := kept hb2 (p := ⟨w.heap.size, 0, none⟩) (v := .int .i64 a0) (by first | ((repeat' first | with_reducible assumption | with_reducible refine cellA ?_ | with_reducible refine cellD ?_); done) | (simp [go_sem]; done) | (simp [go_sem, *]; done))
    have y15 := World.block_lt_of_cell? _ _ q15
    simp only [] at y15
    have q16 := kept hb2 (p := ⟨w.heap.size, 1, none⟩) (v := .int .i64 a1) (by first | ((repeat' first | with_reducible assumption | with_reducible refine cellA ?_ | with_reducible refine cellD ?_); done) | (simp [go_sem]; done) | (simp [go_sem, *]; done))
    have q17 := kept hb2 (p := ⟨w.heap.size, 2, none⟩) (v := .int .i64 a2) (by first | ((repeat' first | with_reducible assumption | with_reducible refine cellA ?_ | with_reducible refine cellD ?_); done) | (simp [go_sem]; done) | (simp [go_sem, *]; done))
    have q18 := kept hb2 (p := ⟨w.heap.size, 3, none⟩) (v := .int .i64 a3) (by first | ((repeat' first | with_reducible assumption | with_reducible refine cellA ?_ | with_reducible refine cellD ?_); done) | (simp [go_sem]; done) | (simp [go_sem, *]; done))
    have q19 := kept hb2 (p := ⟨w.heap.size, 4, none⟩) (v := .int .i64 a4) (by first | ((repeat' first | with_reducible assumption | with_reducible refine cellA ?_ | with_reducible refine cellD ?_); done) | (simp [go_sem]; done) | (simp [go_sem, *]; done))
    have q20 := kept hb2 (p := ⟨w.heap.size, 5, none⟩) (v := .int .i64 a5) (by first | ((repeat' first | with_reducible assumption | with_reducible refine cellA ?_ | with_reducible refine cellD ?_); done) | (simp [go_sem]; done) | (simp [go_sem, *]; done))
    have q21 := kept hb2 (p := ⟨w.heap.size, 6, none⟩) (v := .int .i64 a6) (by first | ((repeat' first | with_reducible assumption | with_reducible refine cellA ?_ | with_reducible refine cellD ?_); done) | (simp [go_sem]; done) | (simp [go_sem, *]; done))
    have q22 := kept hb2 (p := ⟨w.heap.size, 7, none⟩) (v := .int .i64 a7) (by first | ((repeat' first | with_reducible assumption | with_reducible refine cellA ?_ | with_reducible refine cellD ?_); done) | (simp [go_sem]; done) | (simp [go_sem, *]; done))
    have q23 := kept hb2 (p := ⟨w.heap.size, 8, none⟩) (v := .int .i64 a8) (by first | ((repeat' first | with_reducible assumption | with_reducible refine cellA ?_ | with_reducible refine cellD ?_); done) | (simp [go_sem]; done) | (simp [go_sem, *]; done))
    have q24 := kept hb2 (p := ⟨w.heap.size, 9, none⟩) (v := .int .i64 a9) (by first | ((repeat' first | with_reducible assumption | with_reducible refine cellA ?_ | with_reducible refine cellD ?_); done) | (simp [go_sem]; done) | (simp [go_sem, *]; done))
    have q25 := kept hb2 (p := ⟨w.heap.size, 10, none⟩) (v := .int .i64 a10) (by first | ((repeat' first | with_reducible assumption | with_reducible refine cellA ?_ | with_reducible refine cellD ?_); done) | (simp [go_sem]; done) | (simp [go_sem, *]; done))
    have q26 := kept hb2 (p := ⟨w.heap.size, 11, none⟩) (v := .int .i64 a11) (by first | ((repeat' first | with_reducible assumption | with_reducible refine cellA ?_ | with_reducible refine cellD ?_); done) | (simp [go_sem]; done) | (simp [go_sem, *]; done))
    have q27 := kept hb2 (p := ⟨w.heap.size, 12, none⟩) (v := .int .i64 a12) (by first | ((repeat' first | with_reducible assumption | with_reducible refine cellA ?_ | with_reducible refine cellD ?_); done) | (simp [go_sem]; done) | (simp [go_sem, *]; done))
    have q28 := kept hb2 (p := ⟨w.heap.size, 13, none⟩) (v := .int .i64 a13) (by first | ((repeat' first | with_reducible assumption | with_reducible refine cellA ?_ | with_reducible refine cellD ?_); done) | (simp [go_sem]; done) | (simp [go_sem, *]; done))
    by_cases hnt : n = t
    · subst hnt
      go_wp2_with fail
      refine (clkAwake_any K _ (hT.on (by (repeat' first | with_reducible assumption | exact Below.refl _ _ | with_reducible refine Below.drew ?_ | with_reducible refine Below.drewN ?_ _ | with_reducible refine Below.alloc' ?_ _ | with_reducible refine Below.setCell ?_ (by first | exact Nat.le_refl _ | omega | (simp; done) | (simp; omega)) _ | with_reducible refine Below.after ?_ ‹_›)))).mono ?_
      rintro e w3 ⟨rfl, hb3⟩
      go_wp2
      go_ret
      exact ⟨rfl, by (repeat' first | with_reducible assumption | exact Below.refl _ _ | with_reducible refine Below.drew ?_ | with_reducible refine Below.drewN ?_ _ | with_reducible refine Below.alloc' ?_ _ | with_reducible refine Below.setCell ?_ (by first | exact Nat.le_refl _ | omega | (simp; done) | (simp; omega)) _ | with_reducible refine Below.after ?_ ‹_›)⟩
    · have hlt : t < n := by omega
      obtain ⟨D, hD⟩ : ∃ D, n - 1 - t + 1 = D := ⟨_, rfl⟩
      have hpos : 0 < D := by omega
      have hpos2 : D ≤ 3155760000 := by omega
      have hne : ¬ D = 0 := by omega
      obtain ⟨r, hr⟩ : ∃ r, m % D = r := ⟨_, rfl⟩
      have hr2 : m.tmod D = r := by rw [Int.tmod_eq_emod_of_nonneg m0, hr]
      have r0 : 0 ≤ r := by rw [← hr]; exact Int.emod_nonneg _ (by omega)
      have r1 : r < D := by rw [← hr]; exact Int.emod_lt_of_pos _ (by omega)
      have v1 : IntKind.i64.wrap (n - 1 - t) = n - 1 - t := IntWalk.i64_in _ (by omega)
      have v2 : IntKind.i64.wrap (n - 1 - t + 1) = D := by rw [hD]; exact IntWalk.i64_in _ (by omega)
      have v3 : IntKind.i64.wrap m = m := IntWalk.i64_in _ (by omega)
      have v4 : IntKind.i64.wrap (t + r) = t + r := IntWalk.i64_in _ (by omega)
      clear hr
      have HU := Lib.hid (openS_in H1.out (u := t + r) (by omega) (by omega) (H5.out _ (by omega) (by omega)))
      clear hD
      go_wp2_with fail
      go_region_held3 (fun w' => w'.cell? ⟨w.heap.size, 0, none⟩ = some (.int .i64 a0) ∧ w'.cell? ⟨w.heap.size, 1, none⟩ = some (.int .i64 a1) ∧ w'.cell? ⟨w.heap.size, 2, none⟩ = some (.int .i64 a2) ∧ w'.cell? ⟨w.heap.size, 3, none⟩ = some (.int .i64 a3) ∧ w'.cell? ⟨w.heap.size, 4, none⟩ = some (.int .i64 a4) ∧ w'.cell? ⟨w.heap.size, 5, none⟩ = some (.int .i64 a5) ∧ w'.cell? ⟨w.heap.size, 6, none⟩ = some (.int .i64 a6) ∧ w'.cell? ⟨w.heap.size, 7, none⟩ = some (.int .i64 a7) ∧ w'.cell? ⟨w.heap.size, 8, none⟩ = some (.int .i64 a8) ∧ w'.cell? ⟨w.heap.size, 9, none⟩ = some (.int .i64 a9) ∧ w'.cell? ⟨w.heap.size, 10, none⟩ = some (.int .i64 a10) ∧ w'.cell? ⟨w.heap.size, 11, none⟩ = some (.int .i64 a11) ∧ w'.cell? ⟨w.heap.size, 12, none⟩ = some (.int .i64 a12) ∧ w'.cell? ⟨w.heap.size, 13, none⟩ = some (.int .i64 a13))
        (first | go_keep | (go_split_ands; refine ⟨?_, ?_, ?_, ?_, ?_, ?_, ?_, ?_, ?_, ?_, ?_, ?_, ?_, ?_⟩ <;> (refine kept ‹Below _ _ _› ?_; assumption)))
        (first | (go_at_call 28; refine (conOpen_is K H.out HU.out _).mono ?_; rintro e w3 ⟨rfl, hb3⟩))
      go_wp2_with fail
      refine (clkAwake_any K _ (hT.on (by (repeat' first | with_reducible assumption | exact Below.refl _ _ | with_reducible refine Below.drew ?_ | with_reducible refine Below.drewN ?_ _ | with_reducible refine Below.alloc' ?_ _ | with_reducible refine Below.setCell ?_ (by first | exact Nat.le_refl _ | omega | (simp; done) | (simp; omega)) _ | with_reducible refine Below.after ?_ ‹_›)))).mono ?_
      rintro e w4 ⟨rfl, hb4⟩
      go_wp2
      go_ret
      exact ⟨rfl, by (repeat' first | with_reducible assumption | exact Below.refl _ _ | with_reducible refine Below.drew ?_ | with_reducible refine Below.drewN ?_ _ | with_reducible refine Below.alloc' ?_ _ | with_reducible refine Below.setCell ?_ (by first | exact Nat.le_refl _ | omega | (simp; done) | (simp; omega)) _ | with_reducible refine Below.after ?_ ‹_›)⟩
  · have bt := mB_true.1 (show mB t = true by simp at h1; exact h1.1)
    have H1 := Lib.hid h1
    have H5 := Lib.hid h2
    clear h1 h2
    obtain ⟨D, hD⟩ : ∃ D, 3155759999 - t + 1 = D := ⟨_, rfl⟩
    have hpos : 0 < D := by omega
    have hpos2 : D ≤ 3155760000 := by omega
    have hne : ¬ D = 0 := by omega
    obtain ⟨r, hr⟩ : ∃ r, m % D = r := ⟨_, rfl⟩
    have hr2 : m.tmod D = r := by rw [Int.tmod_eq_emod_of_nonneg m0, hr]
    have r0 : 0 ≤ r := by rw [← hr]; exact Int.emod_nonneg _ (by omega)
    have r1 : r < D := by rw [← hr]; exact Int.emod_lt_of_pos _ (by omega)
    have v1 : IntKind.i64.wrap (3155759999 - t) = 3155759999 - t := IntWalk.i64_in _ (by omega)
    have v2 : IntKind.i64.wrap (3155759999 - t + 1) = D := by rw [hD]; exact IntWalk.i64_in _ (by omega)
    have v3 : IntKind.i64.wrap m = m := IntWalk.i64_in _ (by omega)
    have v4 : IntKind.i64.wrap (t + r) = t + r := IntWalk.i64_in _ (by omega)
    clear hr
    have HU := Lib.hid (openS_in H1.out (u := t + r) (by omega) (by omega) (H5.out _ (by omega) (by omega)))
    clear hD
    go_wp2_with fail
    go_region_held3 (fun w' => w'.cell? ⟨w.heap.size, 0, none⟩ = some (.int .i64 a0) ∧ w'.cell? ⟨w.heap.size, 1, none⟩ = some (.int .i64 a1) ∧ w'.cell? ⟨w.heap.size, 2, none⟩ = some (.int .i64 a2) ∧ w'.cell? ⟨w.heap.size, 3, none⟩ = some (.int .i64 a3) ∧ w'.cell? ⟨w.heap.size, 4, none⟩ = some (.int .i64 a4) ∧ w'.cell? ⟨w.heap.size, 5, none⟩ = some (.int .i64 a5) ∧ w'.cell? ⟨w.heap.size, 6, none⟩ = some (.int .i64 a6) ∧ w'.cell? ⟨w.heap.size, 7, none⟩ = some (.int .i64 a7) ∧ w'.cell? ⟨w.heap.size, 8, none⟩ = some (.int .i64 a8) ∧ w'.cell? ⟨w.heap.size, 9, none⟩ = some (.int .i64 a9) ∧ w'.cell? ⟨w.heap.size, 10, none⟩ = some (.int .i64 a10) ∧ w'.cell? ⟨w.heap.size, 11, none⟩ = some (.int .i64 a11) ∧ w'.cell? ⟨w.heap.size, 12, none⟩ = some (.int .i64 a12) ∧ w'.cell? ⟨w.heap.size, 13, none⟩ = some (.int .i64 a13))
      (first | go_keep | (go_split_ands; refine ⟨?_, ?_, ?_, ?_, ?_, ?_, ?_, ?_, ?_, ?_, ?_, ?_, ?_, ?_⟩ <;> (refine kept ‹Below _ _ _› ?_; assumption)))
      (first | (go_at_call 28; refine (conOpen_is K H.out HU.out _).mono ?_; rintro e w3 ⟨rfl, hb3⟩))
    go_wp2_with fail
    refine (clkAwake_any K _ (hT.on (by (repeat' first | with_reducible assumption | exact Below.refl _ _ | with_reducible refine Below.drew ?_ | with_reducible refine Below.drewN ?_ _ | with_reducible refine Below.alloc' ?_ _ | with_reducible refine Below.setCell ?_ (by first | exact Nat.le_refl _ | omega | (simp; done) | (simp; omega)) _ | with_reducible refine Below.after ?_ ‹_›)))).mono ?_
    rintro e w4 ⟨rfl, hb4⟩
    go_wp2
    go_ret
    exact ⟨rfl, by (repeat' first | with_reducible assumption | exact Below.refl _ _ | with_reducible refine Below.drew ?_ | with_reducible refine Below.drewN ?_ _ | with_reducible refine Below.alloc' ?_ _ | with_reducible refine Below.setCell ?_ (by first | exact Nat.le_refl _ | omega | (simp; done) | (simp; omega)) _ | with_reducible refine Below.after ?_ ‹_›)⟩
end Go.Proofs.YtjmbbhhfbdjbdaaDoor
