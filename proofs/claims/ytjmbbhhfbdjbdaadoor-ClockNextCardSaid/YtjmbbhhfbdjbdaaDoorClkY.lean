/-
  Walks over package clock: dateIn, hoursOf, Open, Next.
-/
import Derived.Test.YtjmbbhhfbdjbdaaDoorClkS
import Derived.Test.YtjmbbhhfbdjbdaaDoorClkV
import Derived.Test.YtjmbbhhfbdjbdaaDoorClkG
namespace Go.Proofs.YtjmbbhhfbdjbdaaDoor
open Go.RowKit

theorem vwB_d (z : Int × Int) : vwB z 86400 = dB z := rfl
theorem week_index {cs : Array Value} {k : Nat} {p q : Int} (hs : cs.size = 14) (hk : k < 7) (c0 : cs[k * 2]? = some (.int .i64 p)) (c1 : cs[k * 2 + 1]? = some (.int .i64 q)) (W : World) :
    (Instr.index 42 (.agg cs) (.int .i64 k)).run Tryd.prog W = .ok (.agg #[.int .i64 p, .int .i64 q]) W := by
  have h2 : (sizeOf 40).run Tryd.prog W = .ok 2 W := Tryd.sizeOf40 W
  simp [Instr.index, run_underlying Tryd.underlying42, asIntOf, h2, hk, go_sem]
  apply Array.ext_getElem?
  intro i
  rw [Array.getElem?_extract]
  match i with
  | 0 => rw [if_pos (by omega), Nat.add_zero, c0]; rfl
  | 1 => rw [if_pos (by omega), c1]; rfl
  | i + 2 => rw [if_neg (by omega)]; rfl
/-- what dateIn returns -/
def dinS (wk : List (Int × Int)) (t : Int) : Int × Int × Int := if mB t && wk.all dB then (t / 86400, t % 86400, 0) else (0, 0, 1)

set_option maxRecDepth 100000 in
set_option maxHeartbeats 4000000 in
theorem dateIn_any (cs : Array Value) (wk : List (Int × Int)) (t : Int) (w : World) (h : IsWeek cs wk) :
    Calls Tryd.prog 46 #[.agg cs, .int .i64 t] w fun e w' => e = .returned (.tuple #[.int .i64 (dinS wk t).1, .int .i64 (dinS wk t).2.1, .int .i64 (dinS wk t).2.2]) ∧ Below w.heap.size w w' := by
  have H := Lib.hid h
  obtain ⟨a0, a1, a2, a3, a4, a5, a6, a7, a8, a9, a10, a11, a12, a13, rfl⟩ := week_cells h
  clear h
  go_enter Tryd.func46, Tryd.ntmps46
  go_wp2
  go_loopw [8, 10] (fun _ i wr => ∃ k : Nat, k ≤ 7 ∧ i = .int .i64 k ∧ Hid ((wk.take k).all dB = true) ∧ Below w.heap.size w wr) (fun _ i _ => 7 - (intOf i).toNat)
  case atStart => exact ⟨0, Nat.zero_le _, rfl, rfl, by (repeat' first | with_reducible assumption | exact Below.refl _ _ | with_reducible refine Below.drew ?_ | with_reducible refine Below.drewN ?_ _ | with_reducible refine Below.alloc' ?_ _ | with_reducible refine Below.setCell ?_ (by first | exact Nat.le_refl _ | omega | (simp; done) | (simp; omega)) _ | with_reducible refine Below.after ?_ ‹_›)⟩
  case round =>
    obtain ⟨k, hk, rfl, Hall, hbr⟩ := hrel
    by_cases hlt : k < 7
    · obtain ⟨c0, c1⟩ := H.out.cell k hlt
      have Hlt := Lib.hid (show k < wk.length by rw [H.out.days]; exact hlt)
      have Ha := Lib.hid (all_dB_succ wk k Hlt.out)
      have Hno := Lib.hid (all_dB_not wk k Hlt.out)
      obtain ⟨⟨p, q⟩, hz⟩ : ∃ z, wk[k]?.getD (0, 0) = z := ⟨_, rfl⟩
      rw [hz] at c0 c1 Ha Hno
      simp only [] at c0 c1
      have k0 : (0 : Int) ≤ (k : Int) := by omega
      have k1 : (k : Int) < 7 := by omega
      have hix := week_index rfl hlt c0 c1
      clear hz c0 c1
      cases hv : dB (p, q)
      · have E := Lib.hid (show dinS wk t = (0, 0, 1) by unfold dinS; rw [Hno.out hv, Bool.and_false]; rfl)
        have Hv := Lib.hid hv
        clear hv
        go_wp2_with fail
        refine (valid_is (t := 86400) ((vwB_d (p, q)).trans Hv.out) _).mono ?_
        rintro e w1 ⟨rfl, hb1⟩
        have hbx : Below w.heap.size w w1 := hbr.trans (Below.mono (w := wr) (by (repeat' first | with_reducible assumption | exact Below.refl _ _ | with_reducible refine Below.drew ?_ | with_reducible refine Below.drewN ?_ _ | with_reducible refine Below.alloc' ?_ _ | with_reducible refine Below.setCell ?_ (by first | exact Nat.le_refl _ | omega | (simp; done) | (simp; omega)) _ | with_reducible refine Below.after ?_ ‹_›)) hbr.size)
        go_wp2
        go_ret3
        exact ⟨by rw [E.out]; rfl, hbx⟩
      · have E := Lib.hid (show (wk.take (k + 1)).all dB = true by rw [Ha.out, Hall.out, hv]; rfl)
        have Hv := Lib.hid hv
        clear hv
        go_wp2_with fail
        refine (valid_is (t := 86400) ((vwB_d (p, q)).trans Hv.out) _).mono ?_
        rintro e w1 ⟨rfl, hb1⟩
        have hbx : Below w.heap.size w w1 := hbr.trans (Below.mono (w := wr) (by (repeat' first | with_reducible assumption | exact Below.refl _ _ | with_reducible refine Below.drew ?_ | with_reducible refine Below.drewN ?_ _ | with_reducible refine Below.alloc' ?_ _ | with_reducible refine Below.setCell ?_ (by first | exact Nat.le_refl _ | omega | (simp; done) | (simp; omega)) _ | with_reducible refine Below.after ?_ ‹_›)) hbr.size)
        go_wp2
        go_roundw
        case rel => exact ⟨k + 1, by omega, by go_num, E.out, hbx⟩
        case measure => simp [intOf]; omega
    · have h1 := Hall.out
      rw [show k = wk.length by rw [H.out.days]; omega, List.take_length] at h1
      have E := Lib.hid (show dinS wk t = dateS t by unfold dinS dateS; rw [h1, Bool.and_true])
      clear h1
      go_wp2_with fail
      refine (date_any t _).mono ?_
      rintro e w1 ⟨rfl, rfl⟩
      go_wp2
      go_ret3
      exact ⟨by rw [E.out]; rfl, hbr⟩
theorem dateIn_is {wk : List (Int × Int)} {t d s e : Int} (h : dinS wk t = (d, s, e)) (cs : Array Value) (w : World) (hw : IsWeek cs wk) :
    Calls Tryd.prog 46 #[.agg cs, .int .i64 t] w fun r w' => r = .returned (.tuple #[.int .i64 d, .int .i64 s, .int .i64 e]) ∧ Below w.heap.size w w' := by
  have := dateIn_any cs wk t w hw
  rwa [h] at this

set_option maxRecDepth 100000 in
set_option maxHeartbeats 4000000 in
theorem hoursOf_any (cs : Array Value) (wk : List (Int × Int)) (d : Int) (w : World) (h : IsWeek cs wk) (h0 : 0 ≤ d) (h1 : d ≤ 36524) :
    Calls Tryd.prog 47 #[.agg cs, .int .i64 d] w fun e w' => e = .returned (.agg #[.int .i64 (dayW wk d).1, .int .i64 (dayW wk d).2]) ∧ Below w.heap.size w w' := by
  obtain ⟨a0, a1, a2, a3, a4, a5, a6, a7, a8, a9, a10, a11, a12, a13, rfl⟩ := week_cells h
  obtain ⟨k, hk⟩ : ∃ k : Nat, d % 7 = (k : Int) := ⟨(d % 7).toNat, by omega⟩
  have hk7 : k < 7 := by omega
  obtain ⟨c0, c1⟩ := h.cell k hk7
  have hz0 : dayW wk d = wk[k]?.getD (0, 0) := by unfold dayW; rw [hk]; rfl
  rw [← hz0] at c0 c1
  obtain ⟨⟨p, q⟩, hz⟩ : ∃ z, dayW wk d = z := ⟨_, rfl⟩
  rw [hz] at c0 c1 ⊢
  simp only [] at c0 c1 ⊢
  have k0 : (0 : Int) ≤ (k : Int) := by omega
  have k1 : (k : Int) < 7 := by omega
  clear h hz hz0
  go_enter Tryd.func47, Tryd.ntmps47
  go_wp2
  go_returns
  exact ⟨rfl, by (repeat' first | exact Below.refl _ _ | with_reducible refine Below.drew ?_ | with_reducible refine Below.drewN ?_ _ | with_reducible refine Below.alloc' ?_ _ | with_reducible refine Below.setCell ?_ (by first | exact Nat.le_refl _ | (simp; done) | (simp; omega)) _ | with_reducible refine Below.after ?_ ‹_›)⟩

set_option maxRecDepth 100000 in
set_option maxHeartbeats 4000000 in
theorem open_any (cs : Array Value) (wk : List (Int × Int)) (t : Int) (w : World) (h : IsWeek cs wk) :
    Calls Tryd.prog 28 #[.agg cs, .int .i64 t] w fun e w' => e = .returned (.tuple #[.bool (openS wk t).1, .int .i64 (openS wk t).2]) ∧ Below w.heap.size w w' := by
  have H := Lib.hid h
  obtain ⟨a0, a1, a2, a3, a4, a5, a6, a7, a8, a9, a10, a11, a12, a13, rfl⟩ := week_cells h
  clear h
  cases hv : (mB t && wk.all dB)
  · have E := Lib.hid (show openS wk t = (false, 1) by simp [openS, hv])
    have D := Lib.hid (show dinS wk t = (0, 0, 1) by simp [dinS, hv])
    clear hv
    go_enter Tryd.func28, Tryd.ntmps28
    go_wp2_with fail
    refine (dateIn_is D.out _ _ H.out).mono ?_
    rintro r w1 ⟨rfl, hb1⟩
    go_wp2
    go_ret2
    exact ⟨by rw [E.out]; rfl, by (repeat' first | with_reducible assumption | exact Below.refl _ _ | with_reducible refine Below.drew ?_ | with_reducible refine Below.drewN ?_ _ | with_reducible refine Below.alloc' ?_ _ | with_reducible refine Below.setCell ?_ (by first | exact Nat.le_refl _ | omega | (simp; done) | (simp; omega)) _ | with_reducible refine Below.after ?_ ‹_›)⟩
  · have hv' : mB t = true ∧ wk.all dB = true := by simpa using hv
    have hm := mB_true.1 hv'.1
    have E := Lib.hid (show openS wk t = (conB (dayW wk (t / 86400)) (t % 86400), 0) by simp only [openS, hv]; rfl)
    have D := Lib.hid (show dinS wk t = (t / 86400, t % 86400, 0) by simp [dinS, hv])
    have b1 : 0 ≤ t / 86400 ∧ t / 86400 ≤ 36524 := by omega
    obtain ⟨b1, b2⟩ := b1
    clear hv hv'
    obtain ⟨⟨p, q⟩, hz⟩ : ∃ z, dayW wk (t / 86400) = z := ⟨_, rfl⟩
    have Hh := Lib.hid (fun W => hoursOf_any _ wk (t / 86400) W H.out b1 b2)
    rw [hz] at E Hh
    clear hz
    go_enter Tryd.func28, Tryd.ntmps28
    go_wp2_with fail
    refine (dateIn_is D.out _ _ H.out).mono ?_
    rintro r w1 ⟨rfl, hb1⟩
    have q1 := kept hb1 (p := ⟨w.heap.size, 0, none⟩) (v := .int .i64 a0) (by first | ((repeat' first | with_reducible assumption | with_reducible refine cellA ?_ | with_reducible refine cellD ?_); done) | (simp [go_sem]; done) | (simp [go_sem, *]; done))
    have y1 := World.block_lt_of_cell? _ _ q1
    simp only [] at y1
    have q2 := kept hb1 (p := ⟨w.heap.size, 1, none⟩) (v := .int .i64 a1) (by first | ((repeat' first | with_reducible assumption | with_reducible refine cellA ?_ | with_reducible refine cellD ?_); done) | (simp [go_sem]; done) | (simp [go_sem, *]; done))
    have q3 := kept hb1 (p := ⟨w.heap.size, 2, none⟩) (v := .int .i64 a2) (by first | ((repeat' first | with_reducible assumption | with_reducible refine cellA ?_ | with_reducible refine cellD ?_); done) | (simp [go_sem]; done) | (simp [go_sem, *]; done))
    have q4 := kept hb1 (p := ⟨w.heap.size, 3, none⟩) (v := .int .i64 a3) (by first | ((repeat' first | with_reducible assumption | with_reducible refine cellA ?_ | with_reducible refine cellD ?_); done) | (simp [go_sem]; done) | (simp [go_sem, *]; done))
    have q5 := kept hb1 (p := ⟨w.heap.size, 4, none⟩) (v := .int .i64 a4) (by first | ((repeat' first | with_reducible assumption | with_reducible refine cellA ?_ | with_reducible refine cellD ?_); done) | (simp [go_sem]; done) | (simp [go_sem, *]; done))
    have q6 := kept hb1 (p := ⟨w.heap.size, 5, none⟩) (v := .int .i64 a5) (by first | ((repeat' first | with_reducible assumption | with_reducible refine cellA ?_ | with_reducible refine cellD ?_); done) | (simp [go_sem]; done) | (simp [go_sem, *]; done))
    have q7 := kept hb1 (p := ⟨w.heap.size, 6, none⟩) (v := .int .i64 a6) (by first | ((repeat' first | with_reducible assumption | with_reducible refine cellA ?_ | with_reducible refine cellD ?_); done) | (simp [go_sem]; done) | (simp [go_sem, *]; done))
    have q8 := kept hb1 (p := ⟨w.heap.size, 7, none⟩) (v := .int .i64 a7) (by first | ((repeat' first | with_reducible assumption | with_reducible refine cellA ?_ | with_reducible refine cellD ?_); done) | (simp [go_sem]; done) | (simp [go_sem, *]; done))
    have q9 := kept hb1 (p := ⟨w.heap.size, 8, none⟩) (v := .int .i64 a8) (by first | ((repeat' first | with_reducible assumption | with_reducible refine cellA ?_ | with_reducible refine cellD ?_); done) | (simp [go_sem]; done) | (simp [go_sem, *]; done))
    have q10 := kept hb1 (p := ⟨w.heap.size, 9, none⟩) (v := .int .i64 a9) (by first | ((repeat' first | with_reducible assumption | with_reducible refine cellA ?_ | with_reducible refine cellD ?_); done) | (simp [go_sem]; done) | (simp [go_sem, *]; done))
    have q11 := kept hb1 (p := ⟨w.heap.size, 10, none⟩) (v := .int .i64 a10) (by first | ((repeat' first | with_reducible assumption | with_reducible refine cellA ?_ | with_reducible refine cellD ?_); done) | (simp [go_sem]; done) | (simp [go_sem, *]; done))
    have q12 := kept hb1 (p := ⟨w.heap.size, 11, none⟩) (v := .int .i64 a11) (by first | ((repeat' first | with_reducible assumption | with_reducible refine cellA ?_ | with_reducible refine cellD ?_); done) | (simp [go_sem]; done) | (simp [go_sem, *]; done))
    have q13 := kept hb1 (p := ⟨w.heap.size, 12, none⟩) (v := .int .i64 a12) (by first | ((repeat' first | with_reducible assumption | with_reducible refine cellA ?_ | with_reducible refine cellD ?_); done) | (simp [go_sem]; done) | (simp [go_sem, *]; done))
    have q14 := kept hb1 (p := ⟨w.heap.size, 13, none⟩) (v := .int .i64 a13) (by first | ((repeat' first | with_reducible assumption | with_reducible refine cellA ?_ | with_reducible refine cellD ?_); done) | (simp [go_sem]; done) | (simp [go_sem, *]; done))
    go_wp2_with fail
    refine (Hh.out _).mono ?_
    rintro r w2 ⟨rfl, hb2⟩
    go_wp2_with fail
    refine (contains_any p q (t % 86400) _).mono ?_
    rintro r w3 ⟨rfl, hb3⟩
    generalize hcon : conB (p, q) (t % 86400) = c at *
    go_wp2
    go_ret2
    exact ⟨by rw [E.out]; rfl, by (repeat' first | with_reducible assumption | exact Below.refl _ _ | with_reducible refine Below.drew ?_ | with_reducible refine Below.drewN ?_ _ | with_reducible refine Below.alloc' ?_ _ | with_reducible refine Below.setCell ?_ (by first | exact Nat.le_refl _ | omega | (simp; done) | (simp; omega)) _ | with_reducible refine Below.after ?_ ‹_›)⟩

/-- no moment from t on before the k-th day behind it is open -/
def seenC (wk : List (Int × Int)) (t : Int) (k : Nat) : Prop := ∀ u, t ≤ u → u / 86400 < t / 86400 + k → opB wk u = false
theorem seen_zero (wk : List (Int × Int)) (t : Int) : seenC wk t 0 := fun u h1 h2 => by omega
theorem seen_hit {wk : List (Int × Int)} {t d s p q M : Int} {k : Nat} (hv : (mB t && wk.all dB) = true) (hl : wk.length = 7) (hd : d = t / 86400 + k) (hd2 : d ≤ 36524)
    (hs : (k = 0 ∧ s = t % 86400) ∨ (0 < k ∧ s = 0)) (hz : dayW wk d = (p, q)) (hM : max p s = M) (hc : M < q) (h : seenC wk t k) : NextIs wk t (d * 86400 + M) 0 := by
  have hv' : mB t = true ∧ wk.all dB = true := by simpa using hv
  have hw := dayW_right hv'.2 hl d
  rw [hz] at hw
  simp only [] at hw
  have hm := mB_true.1 hv'.1
  have e1 : (d * 86400 + M) / 86400 = d := by omega
  have e2 : (d * 86400 + M) % 86400 = M := by omega
  refine Or.inr (Or.inl ⟨rfl, hv, by omega, by omega, ?_, fun u h1 h2 => ?_⟩)
  · rw [opB_day, e1, e2, hz]
    simp
    omega
  · by_cases hud : u / 86400 < d
    · exact h u h1 (by omega)
    · have e3 : u / 86400 = d := by omega
      rw [opB_day, e3, hz]
      have : u % 86400 < p := by omega
      simp
      omega
theorem seen_step {wk : List (Int × Int)} {t d s p q M : Int} {k : Nat} (hd : d = t / 86400 + k)
    (hs : (k = 0 ∧ s = t % 86400) ∨ (0 < k ∧ s = 0)) (hz : dayW wk d = (p, q)) (hM : max p s = M) (hc : ¬ M < q) (h : seenC wk t k) : seenC wk t (k + 1) := by
  intro u h1 h2
  by_cases hud : u / 86400 < d
  · exact h u h1 (by omega)
  · have e3 : u / 86400 = d := by omega
    rw [opB_day, e3, hz]
    simp
    omega
theorem seen_past {wk : List (Int × Int)} {t : Int} {k : Nat} (hv : (mB t && wk.all dB) = true) (hd : 36524 < t / 86400 + k) (h : seenC wk t k) : NextIs wk t 0 7 :=
  Or.inr (Or.inr ⟨rfl, rfl, hv, fun u h1 h2 => h u h1 (by omega)⟩)
theorem seen_all {wk : List (Int × Int)} {t : Int} (hv : (mB t && wk.all dB) = true) (h : seenC wk t 8) : NextIs wk t 0 7 := by
  refine Or.inr (Or.inr ⟨rfl, rfl, hv, fun u h1 h2 => ?_⟩)
  by_cases hu : u / 86400 < t / 86400 + 8
  · exact h u h1 (by omega)
  · obtain ⟨i, hi1, hi2, hi3⟩ : ∃ i, t / 86400 + 1 ≤ i ∧ i ≤ t / 86400 + 7 ∧ i % 7 = u / 86400 % 7 :=
      ⟨t / 86400 + 1 + (u / 86400 - t / 86400 - 1) % 7, by omega, by omega, by omega⟩
    have hc := h (i * 86400 + u % 86400) (by omega) (by omega)
    have e1 : (i * 86400 + u % 86400) / 86400 = i := by omega
    have e2 : (i * 86400 + u % 86400) % 86400 = u % 86400 := by omega
    have hsame : dayW wk i = dayW wk (u / 86400) := by unfold dayW; rw [hi3]
    rw [opB_day, e1, e2, hsame] at hc
    rw [opB_day]
    exact hc

theorem con_max {p q s M : Int} (hM : max p s = M) : conB (p, q) M = decide (M < q) := by
  unfold conB
  rw [show decide ((p, q).1 ≤ M) = true by simp; omega, Bool.true_and]

set_option maxRecDepth 100000 in
set_option maxHeartbeats 8000000 in
theorem next_any (cs : Array Value) (wk : List (Int × Int)) (t : Int) (w : World) (h : IsWeek cs wk) :
    Calls Tryd.prog 30 #[.agg cs, .int .i64 t] w (GivesNext w wk t) := by
  have H := Lib.hid h
  obtain ⟨a0, a1, a2, a3, a4, a5, a6, a7, a8, a9, a10, a11, a12, a13, rfl⟩ := week_cells h
  clear h
  cases hv : (mB t && wk.all dB)
  · have D := Lib.hid (show dinS wk t = (0, 0, 1) by simp [dinS, hv])
    have HV := Lib.hid hv
    clear hv
    go_enter Tryd.func30, Tryd.ntmps30
    go_wp2_with fail
    refine (dateIn_is D.out _ _ H.out).mono ?_
    rintro r w1 ⟨rfl, hb1⟩
    go_wp2
    go_ret2
    exact ⟨_, _, rfl, Or.inl ⟨rfl, rfl, HV.out⟩, by (repeat' first | with_reducible assumption | exact Below.refl _ _ | with_reducible refine Below.drew ?_ | with_reducible refine Below.drewN ?_ _ | with_reducible refine Below.alloc' ?_ _ | with_reducible refine Below.setCell ?_ (by first | exact Nat.le_refl _ | omega | (simp; done) | (simp; omega)) _ | with_reducible refine Below.after ?_ ‹_›)⟩
  · have HV := Lib.hid hv
    have hv' : mB t = true ∧ wk.all dB = true := by simpa using hv
    have hm := mB_true.1 hv'.1
    have D := Lib.hid (show dinS wk t = (t / 86400, t % 86400, 0) by simp [dinS, hv])
    have HW := Lib.hid (dayW_right hv'.2 H.out.days)
    have b1 : 0 ≤ t / 86400 ∧ t / 86400 ≤ 36524 := by omega
    obtain ⟨b1, b2⟩ := b1
    have b3 : 0 ≤ t % 86400 ∧ t % 86400 < 86400 := by omega
    obtain ⟨b3, b4⟩ := b3
    clear hv hv'
    go_enter Tryd.func30, Tryd.ntmps30
    go_wp2_with fail
    refine (dateIn_is D.out _ _ H.out).mono ?_
    rintro r w1 ⟨rfl, hb1⟩
    have q15 := kept hb1 (p := ⟨w.heap.size, 0, none⟩) (v := .int .i64 a0) (by first | ((repeat' first | with_reducible assumption | with_reducible refine cellA ?_ | with_reducible refine cellD ?_); done) | (simp [go_sem]; done) | (simp [go_sem, *]; done))
    have y15 := World.block_lt_of_cell? _ _ q15
    simp only [] at y15
    have q16 := kept hb1 (p := ⟨w.heap.size, 1, none⟩) (v := .int .i64 a1) (by first | ((repeat' first | with_reducible assumption | with_reducible refine cellA ?_ | with_reducible refine cellD ?_); done) | (simp [go_sem]; done) | (simp [go_sem, *]; done))
    have q17 := kept hb1 (p := ⟨w.heap.size, 2, none⟩) (v := .int .i64 a2) (by first | ((repeat' first | with_reducible assumption | with_reducible refine cellA ?_ | with_reducible refine cellD ?_); done) | (simp [go_sem]; done) | (simp [go_sem, *]; done))
    have q18 := kept hb1 (p := ⟨w.heap.size, 3, none⟩) (v := .int .i64 a3) (by first | ((repeat' first | with_reducible assumption | with_reducible refine cellA ?_ | with_reducible refine cellD ?_); done) | (simp [go_sem]; done) | (simp [go_sem, *]; done))
    have q19 := kept hb1 (p := ⟨w.heap.size, 4, none⟩) (v := .int .i64 a4) (by first | ((repeat' first | with_reducible assumption | with_reducible refine cellA ?_ | with_reducible refine cellD ?_); done) | (simp [go_sem]; done) | (simp [go_sem, *]; done))
    have q20 := kept hb1 (p := ⟨w.heap.size, 5, none⟩) (v := .int .i64 a5) (by first | ((repeat' first | with_reducible assumption | with_reducible refine cellA ?_ | with_reducible refine cellD ?_); done) | (simp [go_sem]; done) | (simp [go_sem, *]; done))
    have q21 := kept hb1 (p := ⟨w.heap.size, 6, none⟩) (v := .int .i64 a6) (by first | ((repeat' first | with_reducible assumption | with_reducible refine cellA ?_ | with_reducible refine cellD ?_); done) | (simp [go_sem]; done) | (simp [go_sem, *]; done))
    have q22 := kept hb1 (p := ⟨w.heap.size, 7, none⟩) (v := .int .i64 a7) (by first | ((repeat' first | with_reducible assumption | with_reducible refine cellA ?_ | with_reducible refine cellD ?_); done) | (simp [go_sem]; done) | (simp [go_sem, *]; done))
    have q23 := kept hb1 (p := ⟨w.heap.size, 8, none⟩) (v := .int .i64 a8) (by first | ((repeat' first | with_reducible assumption | with_reducible refine cellA ?_ | with_reducible refine cellD ?_); done) | (simp [go_sem]; done) | (simp [go_sem, *]; done))
    have q24 := kept hb1 (p := ⟨w.heap.size, 9, none⟩) (v := .int .i64 a9) (by first | ((repeat' first | with_reducible assumption | with_reducible refine cellA ?_ | with_reducible refine cellD ?_); done) | (simp [go_sem]; done) | (simp [go_sem, *]; done))
    have q25 := kept hb1 (p := ⟨w.heap.size, 10, none⟩) (v := .int .i64 a10) (by first | ((repeat' first | with_reducible assumption | with_reducible refine cellA ?_ | with_reducible refine cellD ?_); done) | (simp [go_sem]; done) | (simp [go_sem, *]; done))
    have q26 := kept hb1 (p := ⟨w.heap.size, 11, none⟩) (v := .int .i64 a11) (by first | ((repeat' first | with_reducible assumption | with_reducible refine cellA ?_ | with_reducible refine cellD ?_); done) | (simp [go_sem]; done) | (simp [go_sem, *]; done))
    have q27 := kept hb1 (p := ⟨w.heap.size, 12, none⟩) (v := .int .i64 a12) (by first | ((repeat' first | with_reducible assumption | with_reducible refine cellA ?_ | with_reducible refine cellD ?_); done) | (simp [go_sem]; done) | (simp [go_sem, *]; done))
    have q28 := kept hb1 (p := ⟨w.heap.size, 13, none⟩) (v := .int .i64 a13) (by first | ((repeat' first | with_reducible assumption | with_reducible refine cellA ?_ | with_reducible refine cellD ?_); done) | (simp [go_sem]; done) | (simp [go_sem, *]; done))
    have hbw : Below w.heap.size w w1 := by (repeat' first | with_reducible assumption | exact Below.refl _ _ | with_reducible refine Below.drew ?_ | with_reducible refine Below.drewN ?_ _ | with_reducible refine Below.alloc' ?_ _ | with_reducible refine Below.setCell ?_ (by first | exact Nat.le_refl _ | omega | (simp; done) | (simp; omega)) _ | with_reducible refine Below.after ?_ ‹_›)
    go_wp2
    go_loopw [7, 9, 10, 11, 12, 23] (fun s _ _ _ _ i wx => ∃ (k : Nat) (S : Int), k ≤ 8 ∧ i = .int .i64 k ∧ s = .int .i64 S ∧ 0 ≤ S ∧ S < 86400 ∧ Hid ((k = 0 ∧ S = t % 86400) ∨ (0 < k ∧ S = 0)) ∧ Hid (seenC wk t k) ∧ Below w1.heap.size w1 wx) (fun _ _ _ _ _ i _ => 8 - (intOf i).toNat)
    case atStart => exact ⟨0, t % 86400, by omega, rfl, rfl, b3, b4, Or.inl ⟨rfl, rfl⟩, seen_zero wk t, Below.refl _ _⟩
    case round =>
      obtain ⟨k, S, hk, rfl, rfl, s0, s1, HS, HC, hbr⟩ := hrel
      by_cases c1 : k < 8
      · by_cases c2 : 36524 < t / 86400 + k
        · have E := Lib.hid (seen_past HV.out c2 HC.out)
          go_wp2
          go_ret2
          exact ⟨_, _, rfl, E.out, hbw.trans (hbr.mono hbw.size)⟩
        · have c2' : decide (36524 < t / 86400 + (k : Int)) = false := by simpa using c2
          have c3 : t / 86400 + (k : Int) ≤ 36524 := by omega
          have c4 : 0 ≤ t / 86400 + (k : Int) := by omega
          clear c2
          obtain ⟨⟨p, q⟩, hz⟩ : ∃ z, dayW wk (t / 86400 + k) = z := ⟨_, rfl⟩
          have hw := HW.out (t / 86400 + k)
          have Hh := Lib.hid (fun W => hoursOf_any _ wk (t / 86400 + k) W H.out c4 c3)
          rw [hz] at hw Hh
          simp only [] at hw
          obtain ⟨hw1, hw2, hw3⟩ := hw
          obtain ⟨M, hM⟩ : ∃ M, max p S = M := ⟨_, rfl⟩
          have m0 : 0 ≤ M := by omega
          have m1 : M ≤ 86400 := by omega
          have HCon := Lib.hid (con_max (q := q) hM)
          have Hhit := Lib.hid (fun hc => seen_hit (d := t / 86400 + k) HV.out H.out.days rfl c3 HS.out hz hM hc HC.out)
          have Hstep := Lib.hid (fun hc => seen_step (d := t / 86400 + k) rfl HS.out hz hM hc HC.out)
          clear hz
          have q29 := kept hbr (p := ⟨w.heap.size, 0, none⟩) (v := .int .i64 a0) (by first | ((repeat' first | with_reducible assumption | with_reducible refine cellA ?_ | with_reducible refine cellD ?_); done) | (simp [go_sem]; done) | (simp [go_sem, *]; done))
          have y29 := World.block_lt_of_cell? _ _ q29
          simp only [] at y29
          have q30 := kept hbr (p := ⟨w.heap.size, 1, none⟩) (v := .int .i64 a1) (by first | ((repeat' first | with_reducible assumption | with_reducible refine cellA ?_ | with_reducible refine cellD ?_); done) | (simp [go_sem]; done) | (simp [go_sem, *]; done))
          have q31 := kept hbr (p := ⟨w.heap.size, 2, none⟩) (v := .int .i64 a2) (by first | ((repeat' first | with_reducible assumption | with_reducible refine cellA ?_ | with_reducible refine cellD ?_); done) | (simp [go_sem]; done) | (simp [go_sem, *]; done))
          have q32 := kept hbr (p := ⟨w.heap.size, 3, none⟩) (v := .int .i64 a3) (by first | ((repeat' first | with_reducible assumption | with_reducible refine cellA ?_ | with_reducible refine cellD ?_); done) | (simp [go_sem]; done) | (simp [go_sem, *]; done))
          have q33 := kept hbr (p := ⟨w.heap.size, 4, none⟩) (v := .int .i64 a4) (by first | ((repeat' first | with_reducible assumption | with_reducible refine cellA ?_ | with_reducible refine cellD ?_); done) | (simp [go_sem]; done) | (simp [go_sem, *]; done))
          have q34 := kept hbr (p := ⟨w.heap.size, 5, none⟩) (v := .int .i64 a5) (by first | ((repeat' first | with_reducible assumption | with_reducible refine cellA ?_ | with_reducible refine cellD ?_); done) | (simp [go_sem]; done) | (simp [go_sem, *]; done))
          have q35 := kept hbr (p := ⟨w.heap.size, 6, none⟩) (v := .int .i64 a6) (by first | ((repeat' first | with_reducible assumption | with_reducible refine cellA ?_ | with_reducible refine cellD ?_); done) | (simp [go_sem]; done) | (simp [go_sem, *]; done))
          have q36 := kept hbr (p := ⟨w.heap.size, 7, none⟩) (v := .int .i64 a7) (by first | ((repeat' first | with_reducible assumption | with_reducible refine cellA ?_ | with_reducible refine cellD ?_); done) | (simp [go_sem]; done) | (simp [go_sem, *]; done))
          have q37 := kept hbr (p := ⟨w.heap.size, 8, none⟩) (v := .int .i64 a8) (by first | ((repeat' first | with_reducible assumption | with_reducible refine cellA ?_ | with_reducible refine cellD ?_); done) | (simp [go_sem]; done) | (simp [go_sem, *]; done))
          have q38 := kept hbr (p := ⟨w.heap.size, 9, none⟩) (v := .int .i64 a9) (by first | ((repeat' first | with_reducible assumption | with_reducible refine cellA ?_ | with_reducible refine cellD ?_); done) | (simp [go_sem]; done) | (simp [go_sem, *]; done))
          have q39 := kept hbr (p := ⟨w.heap.size, 10, none⟩) (v := .int .i64 a10) (by first | ((repeat' first | with_reducible assumption | with_reducible refine cellA ?_ | with_reducible refine cellD ?_); done) | (simp [go_sem]; done) | (simp [go_sem, *]; done))
          have q40 := kept hbr (p := ⟨w.heap.size, 11, none⟩) (v := .int .i64 a11) (by first | ((repeat' first | with_reducible assumption | with_reducible refine cellA ?_ | with_reducible refine cellD ?_); done) | (simp [go_sem]; done) | (simp [go_sem, *]; done))
          have q41 := kept hbr (p := ⟨w.heap.size, 12, none⟩) (v := .int .i64 a12) (by first | ((repeat' first | with_reducible assumption | with_reducible refine cellA ?_ | with_reducible refine cellD ?_); done) | (simp [go_sem]; done) | (simp [go_sem, *]; done))
          have q42 := kept hbr (p := ⟨w.heap.size, 13, none⟩) (v := .int .i64 a13) (by first | ((repeat' first | with_reducible assumption | with_reducible refine cellA ?_ | with_reducible refine cellD ?_); done) | (simp [go_sem]; done) | (simp [go_sem, *]; done))
          by_cases h1 : M < q
          · have E := Lib.hid (Hhit.out h1)
            have HC1 := Lib.hid (show conB (p, q) M = true by rw [HCon.out]; simpa using h1)
            go_wp2_with fail
            refine (Hh.out _).mono ?_
            rintro r w2 ⟨rfl, hb2⟩
            go_wp2_with fail
            refine (contains_is HC1.out _).mono ?_
            rintro r w3 ⟨rfl, hb3⟩
            go_wp2
            go_ret2
            exact ⟨_, _, rfl, E.out, hbw.trans (Below.mono (w := w1) (by (repeat' first | with_reducible assumption | exact Below.refl _ _ | with_reducible refine Below.drew ?_ | with_reducible refine Below.drewN ?_ _ | with_reducible refine Below.alloc' ?_ _ | with_reducible refine Below.setCell ?_ (by first | exact Nat.le_refl _ | omega | (simp; done) | (simp; omega)) _ | with_reducible refine Below.after ?_ ‹_›)) hbw.size)⟩
          · have E := Lib.hid (Hstep.out h1)
            have HC1 := Lib.hid (show conB (p, q) M = false by rw [HCon.out]; simpa using h1)
            clear h1
            go_wp2_with fail
            refine (Hh.out _).mono ?_
            rintro r w2 ⟨rfl, hb2⟩
            go_wp2_with fail
            refine (contains_is HC1.out _).mono ?_
            rintro r w3 ⟨rfl, hb3⟩
            go_wp2
            go_roundw
            case rel => exact ⟨k + 1, 0, by omega, by go_num, rfl, by omega, by omega, Or.inr ⟨by omega, rfl⟩, E.out, by (repeat' first | with_reducible assumption | exact Below.refl _ _ | with_reducible refine Below.drew ?_ | with_reducible refine Below.drewN ?_ _ | with_reducible refine Below.alloc' ?_ _ | with_reducible refine Below.setCell ?_ (by first | exact Nat.le_refl _ | omega | (simp; done) | (simp; omega)) _ | with_reducible refine Below.after ?_ ‹_›)⟩
            case measure => simp [intOf]; omega
      · have E := Lib.hid (seen_all HV.out (show seenC wk t 8 by have := HC.out; rwa [show k = 8 by omega] at this))
        go_wp2
        go_ret2
        exact ⟨_, _, rfl, E.out, hbw.trans (hbr.mono hbw.size)⟩
end Go.Proofs.YtjmbbhhfbdjbdaaDoor
