/-
  Walks over the reference of package clock: Next.
-/
import Derived.Test.YtjmbbhhfbdjbdaaDoorClkPlain3
namespace Go.Proofs.YtjmbbhhfbdjbdaaDoor
open Go.RowKit

/-- a call that returns what Next returns -/
def GivesNext (w : World) (wk : List (Int × Int)) (t : Int) (s : Ending) (w' : World) : Prop :=
  ∃ n e : Int, s = .returned (.tuple #[.int .i64 n, .int .i64 e]) ∧ NextIs wk t n e ∧ Below w.heap.size w w'

set_option maxRecDepth 100000 in
set_option maxHeartbeats 8000000 in
theorem rNext_any (cs : Array Value) (wk : List (Int × Int)) (t : Int) (w : World) (h : IsWeek cs wk) :
    Calls Tryd.prog 31 #[.agg cs, .int .i64 t] w (GivesNext w wk t) := by
  have H := Lib.hid h
  obtain ⟨a0, a1, a2, a3, a4, a5, a6, a7, a8, a9, a10, a11, a12, a13, rfl⟩ := week_cells h
  cases hv : (mB t && wk.all dB)
  · have e := Lib.hid (show openS wk t = (false, 1) by simp [openS, hv])
    have HV := Lib.hid hv
    clear h hv
    go_enter Tryd.func31, Tryd.ntmps31
    go_wp2_with fail
    refine (rOpen_is e.out _ _ H.out).mono ?_
    rintro s w1 ⟨rfl, hb1⟩
    go_wp2
    go_ret2
    exact ⟨_, _, rfl, Or.inl ⟨rfl, rfl, HV.out⟩, by (repeat' first | with_reducible assumption | exact Below.refl _ _ | with_reducible refine Below.drew ?_ | with_reducible refine Below.drewN ?_ _ | with_reducible refine Below.alloc' ?_ _ | with_reducible refine Below.setCell ?_ (by first | exact Nat.le_refl _ | omega | (simp; done) | (simp; omega)) _ | with_reducible refine Below.after ?_ ‹_›)⟩
  · have HV := Lib.hid hv
    have hv' : mB t = true ∧ wk.all dB = true := by simpa using hv
    have hm := mB_true.1 hv'.1
    cases ho : opB wk t
    · have e := Lib.hid (show openS wk t = (false, 0) by simp [openS, hv, ho])
      have HO := Lib.hid ho
      have HW := Lib.hid (dayW_right hv'.2 h.days)
      have b1 : 0 ≤ t / 86400 ∧ t / 86400 ≤ 36524 := by omega
      clear h hv hv' ho
      go_enter Tryd.func31, Tryd.ntmps31
      go_wp2_with fail
      refine (rOpen_is e.out _ _ H.out).mono ?_
      rintro s w1 ⟨rfl, hb1⟩
      have hcell := Lib.hid (show ∀ j v, (#[.int .i64 a0, .int .i64 a1, .int .i64 a2, .int .i64 a3, .int .i64 a4, .int .i64 a5, .int .i64 a6, .int .i64 a7, .int .i64 a8, .int .i64 a9, .int .i64 a10, .int .i64 a11, .int .i64 a12, .int .i64 a13] : Array Value)[j]? = some v → w1.cell? ⟨w.heap.size, j, none⟩ = some v from fun j v hj => kept hb1 (by simp [go_sem, hj]))
      have hbw : Below w.heap.size w w1 := by (repeat' first | with_reducible assumption | exact Below.refl _ _ | with_reducible refine Below.drew ?_ | with_reducible refine Below.drewN ?_ _ | with_reducible refine Below.alloc' ?_ _ | with_reducible refine Below.setCell ?_ (by first | exact Nat.le_refl _ | omega | (simp; done) | (simp; omega)) _ | with_reducible refine Below.after ?_ ‹_›)
      go_wp2
      go_loopw [8, 9] (fun i _ wx => ∃ d : Int, i = .int .i64 d ∧ t / 86400 ≤ d ∧ d ≤ t / 86400 + 8 ∧ d ≤ 36525 ∧ Hid (∀ i, t / 86400 ≤ i → i < d → candB wk t i = false) ∧ Below w1.heap.size w1 wx) (fun i _ _ => (t / 86400 + 8 - intOf i).toNat)
      case atStart => exact ⟨t / 86400, rfl, by omega, by omega, by omega, fun i h1 h2 => by omega, Below.refl _ _⟩
      case round =>
        obtain ⟨d, rfl, hd1, hd2, hd3, Hno, hbr⟩ := hrel
        by_cases c1 : d ≤ t / 86400 + 7
        · by_cases c2 : d ≤ 36524
          · obtain ⟨k, hk⟩ : ∃ k : Nat, d % 7 = (k : Int) := ⟨(d % 7).toNat, by omega⟩
            have hk7 : k < 7 := by omega
            obtain ⟨c3, c4⟩ := H.out.cell k hk7
            have hz0 : dayW wk d = wk[k]?.getD (0, 0) := by unfold dayW; rw [hk]; rfl
            have hw := HW.out d
            have Hfound := Lib.hid (fun (hc : candB wk t d = true) => next_found HV.out H.out.days HO.out c2 hc (fun i h1 h2 => Hno.out i h1 h2))
            have Hstep := Lib.hid (fun (hc : candB wk t d = false) => show ∀ i, t / 86400 ≤ i → i < d + 1 → candB wk t i = false from fun i h1 h2 => by
              by_cases e : i = d
              · rw [e]; exact hc
              · exact Hno.out i h1 (by omega))
            have Hcand := Lib.hid (show candB wk t d = (decide ((dayW wk d).1 < (dayW wk d).2) && decide (t ≤ d * 86400 + (dayW wk d).1)) from rfl)
            rw [← hz0] at c3 c4
            obtain ⟨⟨p, q⟩, hz⟩ : ∃ z, dayW wk d = z := ⟨_, rfl⟩
            rw [hz] at c3 c4 hw Hcand Hfound
            simp only [] at c3 c4 hw Hcand Hfound
            have x0 := (hbr.cell (p := ⟨w.heap.size, k * 2, none⟩) (World.block_lt_of_cell? _ _ (hcell.out _ _ c3))).trans (hcell.out _ _ c3)
            have x1 := (hbr.cell (p := ⟨w.heap.size, k * 2 + 1, none⟩) (World.block_lt_of_cell? _ _ (hcell.out _ _ c4))).trans (hcell.out _ _ c4)
            have k0 : (0 : Int) ≤ (k : Int) := by omega
            have k1 : (k : Int) < 7 := by omega
            have hd0 : 0 ≤ d := by omega
            obtain ⟨hw1, hw2, hw3⟩ := hw
            have p3 : p ≤ 86400 := by omega
            clear c3 c4 hz hz0
            by_cases h1 : p < q
            · by_cases h2 : t ≤ d * 86400 + p
              · have E := Lib.hid (Hfound.out (by rw [Hcand.out]; simp [h1, h2]))
                go_wp2
                go_ret2
                exact ⟨_, _, rfl, E.out, hbw.trans (Below.mono (w := w1) (by (repeat' first | with_reducible assumption | exact Below.refl _ _ | with_reducible refine Below.drew ?_ | with_reducible refine Below.drewN ?_ _ | with_reducible refine Below.alloc' ?_ _ | with_reducible refine Below.setCell ?_ (by first | exact Nat.le_refl _ | omega | (simp; done) | (simp; omega)) _ | with_reducible refine Below.after ?_ ‹_›)) hbw.size)⟩
              · have h2' : decide (t ≤ d * 86400 + p) = false := by simpa using h2
                have E := Lib.hid (Hstep.out (by rw [Hcand.out, h2', Bool.and_false]))
                clear h2
                go_wp2
                go_roundw
                case rel => exact ⟨d + 1, rfl, by omega, by omega, by omega, E.out, by (repeat' first | with_reducible assumption | exact Below.refl _ _ | with_reducible refine Below.drew ?_ | with_reducible refine Below.drewN ?_ _ | with_reducible refine Below.alloc' ?_ _ | with_reducible refine Below.setCell ?_ (by first | exact Nat.le_refl _ | omega | (simp; done) | (simp; omega)) _ | with_reducible refine Below.after ?_ ‹_›)⟩
                case measure => simp [intOf]; omega
            · have h1' : decide (p < q) = false := by simpa using h1
              have E := Lib.hid (Hstep.out (by rw [Hcand.out, h1', Bool.false_and]))
              clear h1
              go_wp2
              go_roundw
              case rel => exact ⟨d + 1, rfl, by omega, by omega, by omega, E.out, by (repeat' first | with_reducible assumption | exact Below.refl _ _ | with_reducible refine Below.drew ?_ | with_reducible refine Below.drewN ?_ _ | with_reducible refine Below.alloc' ?_ _ | with_reducible refine Below.setCell ?_ (by first | exact Nat.le_refl _ | omega | (simp; done) | (simp; omega)) _ | with_reducible refine Below.after ?_ ‹_›)⟩
              case measure => simp [intOf]; omega
          · have c2' : decide (d ≤ 36524) = false := by simpa using c2
            have E := Lib.hid (next_none HV.out H.out.days HO.out (fun i h1 _ h3 => Hno.out i h1 (by omega)))
            clear c2
            go_wp2
            go_ret2
            exact ⟨_, _, rfl, E.out, hbw.trans (hbr.mono hbw.size)⟩
        · have c1' : decide (d ≤ t / 86400 + 7) = false := by simpa using c1
          have E := Lib.hid (next_none HV.out H.out.days HO.out (fun i h1 h2 _ => Hno.out i h1 (by omega)))
          clear c1
          go_wp2
          go_ret2
          exact ⟨_, _, rfl, E.out, hbw.trans (hbr.mono hbw.size)⟩
    · have e := Lib.hid (show openS wk t = (true, 0) by simp [openS, hv, ho])
      have HO := Lib.hid ho
      clear h hv hv' ho
      go_enter Tryd.func31, Tryd.ntmps31
      go_wp2_with fail
      refine (rOpen_is e.out _ _ H.out).mono ?_
      rintro s w1 ⟨rfl, hb1⟩
      go_wp2
      go_ret2
      exact ⟨_, _, rfl, Or.inr (Or.inl ⟨rfl, HV.out, Int.le_refl _, hm.2, HO.out, fun u h1 h2 => by omega⟩), by (repeat' first | with_reducible assumption | exact Below.refl _ _ | with_reducible refine Below.drew ?_ | with_reducible refine Below.drewN ?_ _ | with_reducible refine Below.alloc' ?_ _ | with_reducible refine Below.setCell ?_ (by first | exact Nat.le_refl _ | omega | (simp; done) | (simp; omega)) _ | with_reducible refine Below.after ?_ ‹_›)⟩
end Go.Proofs.YtjmbbhhfbdjbdaaDoor
