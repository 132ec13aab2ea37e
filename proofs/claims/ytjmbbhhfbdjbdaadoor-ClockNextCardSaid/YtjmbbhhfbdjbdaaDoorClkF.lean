/-
  Walks over the reference of package clock: Open.
-/
import Derived.Test.YtjmbbhhfbdjbdaaDoorClkE
namespace Go.Proofs.YtjmbbhhfbdjbdaaDoor
open Go.RowKit

/-- whether a week is open at a moment -/
def opB (wk : List (Int × Int)) (t : Int) : Bool := decide ((wk[(t / 86400 % 7).toNat]?.getD (0, 0)).1 ≤ t % 86400) && decide (t % 86400 < (wk[(t / 86400 % 7).toNat]?.getD (0, 0)).2)
/-- what Open returns -/
def openS (wk : List (Int × Int)) (t : Int) : Bool × Int := if mB t && wk.all dB then (opB wk t, 0) else (false, 1)

theorem week_cells {cs : Array Value} {wk : List (Int × Int)} (h : IsWeek cs wk) : ∃ a0 a1 a2 a3 a4 a5 a6 a7 a8 a9 a10 a11 a12 a13 : Int, cs = #[.int .i64 a0, .int .i64 a1, .int .i64 a2, .int .i64 a3, .int .i64 a4, .int .i64 a5, .int .i64 a6, .int .i64 a7, .int .i64 a8, .int .i64 a9, .int .i64 a10, .int .i64 a11, .int .i64 a12, .int .i64 a13] := by
  refine ⟨_, _, _, _, _, _, _, _, _, _, _, _, _, _, (?_ : cs = #[.int .i64 (wk[0]?.getD (0, 0)).1, .int .i64 (wk[0]?.getD (0, 0)).2, .int .i64 (wk[1]?.getD (0, 0)).1, .int .i64 (wk[1]?.getD (0, 0)).2, .int .i64 (wk[2]?.getD (0, 0)).1, .int .i64 (wk[2]?.getD (0, 0)).2, .int .i64 (wk[3]?.getD (0, 0)).1, .int .i64 (wk[3]?.getD (0, 0)).2, .int .i64 (wk[4]?.getD (0, 0)).1, .int .i64 (wk[4]?.getD (0, 0)).2, .int .i64 (wk[5]?.getD (0, 0)).1, .int .i64 (wk[5]?.getD (0, 0)).2, .int .i64 (wk[6]?.getD (0, 0)).1, .int .i64 (wk[6]?.getD (0, 0)).2])⟩
  apply Array.ext_getElem?
  intro i
  by_cases hi : i < 14
  · have : i = 0 ∨ i = 1 ∨ i = 2 ∨ i = 3 ∨ i = 4 ∨ i = 5 ∨ i = 6 ∨ i = 7 ∨ i = 8 ∨ i = 9 ∨ i = 10 ∨ i = 11 ∨ i = 12 ∨ i = 13 := by omega
    rcases this with rfl | rfl | rfl | rfl | rfl | rfl | rfl | rfl | rfl | rfl | rfl | rfl | rfl | rfl
    · exact (h.cell 0 (by omega)).1
    · exact (h.cell 0 (by omega)).2
    · exact (h.cell 1 (by omega)).1
    · exact (h.cell 1 (by omega)).2
    · exact (h.cell 2 (by omega)).1
    · exact (h.cell 2 (by omega)).2
    · exact (h.cell 3 (by omega)).1
    · exact (h.cell 3 (by omega)).2
    · exact (h.cell 4 (by omega)).1
    · exact (h.cell 4 (by omega)).2
    · exact (h.cell 5 (by omega)).1
    · exact (h.cell 5 (by omega)).2
    · exact (h.cell 6 (by omega)).1
    · exact (h.cell 6 (by omega)).2
  · rw [Array.getElem?_eq_none (by rw [h.size]; omega), Array.getElem?_eq_none (by simpa using hi)]

set_option maxRecDepth 100000 in
set_option maxHeartbeats 4000000 in
theorem rOpen_any (cs : Array Value) (wk : List (Int × Int)) (t : Int) (w : World) (h : IsWeek cs wk) :
    Calls Tryd.prog 29 #[.agg cs, .int .i64 t] w fun e w' => e = .returned (.tuple #[.bool (openS wk t).1, .int .i64 (openS wk t).2]) ∧ Below w.heap.size w w' := by
  have H := Lib.hid h
  cases hm : mB t
  · have e : openS wk t = (false, 1) := by simp [openS, hm]
    have ed : dateS t = (0, 0, 1) := by simp [dateS, hm]
    rw [e]
    clear e h hm
    go_enter Tryd.func29, Tryd.ntmps29
    go_wp2_with fail
    refine (rDate_any _ _).mono ?_
    rintro e w1 ⟨rfl, rfl⟩
    rw [ed]
    clear ed
    go_wp2
    go_ret2
    exact ⟨rfl, by (repeat' first | with_reducible assumption | exact Below.refl _ _ | with_reducible refine Below.drew ?_ | with_reducible refine Below.drewN ?_ _ | with_reducible refine Below.alloc' ?_ _ | with_reducible refine Below.setCell ?_ (by first | exact Nat.le_refl _ | omega | (simp; done) | (simp; omega)) _ | with_reducible refine Below.after ?_ ‹_›)⟩
  · have hm' := mB_true.1 hm
    have ed : dateS t = (t / 86400, t % 86400, 0) := by simp [dateS, hm]
    obtain ⟨a0, a1, a2, a3, a4, a5, a6, a7, a8, a9, a10, a11, a12, a13, rfl⟩ := week_cells h
    cases ha : wk.all dB
    · have e : openS wk t = (false, 1) := by simp [openS, ha]
      rw [e]
      have HA := Lib.hid ha
      clear e h hm ha
      go_enter Tryd.func29, Tryd.ntmps29
      go_wp2_with fail
      refine (rDate_any _ _).mono ?_
      rintro e w1 ⟨rfl, rfl⟩
      rw [ed]
      clear ed
      go_wp2_with fail
      refine (rRightWeek_any _ wk _ H.out).mono ?_
      rintro e w1 ⟨rfl, hb1⟩
      rw [HA.out]
      go_wp2
      go_ret2
      exact ⟨rfl, by (repeat' first | with_reducible assumption | exact Below.refl _ _ | with_reducible refine Below.drew ?_ | with_reducible refine Below.drewN ?_ _ | with_reducible refine Below.alloc' ?_ _ | with_reducible refine Below.setCell ?_ (by first | exact Nat.le_refl _ | omega | (simp; done) | (simp; omega)) _ | with_reducible refine Below.after ?_ ‹_›)⟩
    · have e : openS wk t = (opB wk t, 0) := by simp [openS, hm, ha]
      rw [e]
      have HA := Lib.hid ha
      obtain ⟨k, hk⟩ : ∃ k : Nat, t / 86400 % 7 = (k : Int) := ⟨(t / 86400 % 7).toNat, by omega⟩
      have hk7 : k < 7 := by omega
      obtain ⟨c0, c1⟩ := h.cell k hk7
      have Hop := Lib.hid (show opB wk t = (decide ((wk[k]?.getD (0, 0)).1 ≤ t % 86400) && decide (t % 86400 < (wk[k]?.getD (0, 0)).2)) by unfold opB; rw [hk]; rfl)
      obtain ⟨⟨p, q⟩, hz⟩ : ∃ z, wk[k]?.getD (0, 0) = z := ⟨_, rfl⟩
      rw [hz] at c0 c1 Hop
      simp only [] at c0 c1 Hop
      have k0 : (0 : Int) ≤ (k : Int) := by omega
      have k1 : (k : Int) < 7 := by omega
      have b1 : 0 ≤ t / 86400 ∧ t / 86400 ≤ 36524 := by omega
      clear e h hm ha hz
      have fin : ∀ (r : Bool), opB wk t = r → (p ≤ t % 86400 → decide (t % 86400 < q) = r) → (¬ p ≤ t % 86400 → r = false) →
          Calls Tryd.prog 29 #[.agg #[.int .i64 a0, .int .i64 a1, .int .i64 a2, .int .i64 a3, .int .i64 a4, .int .i64 a5, .int .i64 a6, .int .i64 a7, .int .i64 a8, .int .i64 a9, .int .i64 a10, .int .i64 a11, .int .i64 a12, .int .i64 a13], .int .i64 t] w fun e w' => e = .returned (.tuple #[.bool r, .int .i64 0]) ∧ Below w.heap.size w w' := by
        intro r _ hr1 hr2
        by_cases h1 : p ≤ t % 86400
        · have hr := hr1 h1
          clear hr1 hr2
          go_enter Tryd.func29, Tryd.ntmps29
          go_wp2_with fail
          refine (rDate_any _ _).mono ?_
          rintro e w1 ⟨rfl, rfl⟩
          rw [ed]
          clear ed
          go_wp2_with fail
          refine (rRightWeek_any _ wk _ H.out).mono ?_
          rintro e w1 ⟨rfl, hb1⟩
          rw [HA.out]
          have d0 := kept hb1 (p := ⟨w.heap.size, k * 2, none⟩) (v := .int .i64 p) (by simp [go_sem, c0])
          have d1 := kept hb1 (p := ⟨w.heap.size, k * 2 + 1, none⟩) (v := .int .i64 q) (by simp [go_sem, c1])
          clear c0 c1
          go_wp2
          go_ret2
          exact ⟨rfl, by (repeat' first | with_reducible assumption | exact Below.refl _ _ | with_reducible refine Below.drew ?_ | with_reducible refine Below.drewN ?_ _ | with_reducible refine Below.alloc' ?_ _ | with_reducible refine Below.setCell ?_ (by first | exact Nat.le_refl _ | omega | (simp; done) | (simp; omega)) _ | with_reducible refine Below.after ?_ ‹_›)⟩
        · have hr := hr2 h1
          subst hr
          have h1' : decide (p ≤ t % 86400) = false := by simpa using h1
          clear hr1 hr2 h1
          go_enter Tryd.func29, Tryd.ntmps29
          go_wp2_with fail
          refine (rDate_any _ _).mono ?_
          rintro e w1 ⟨rfl, rfl⟩
          rw [ed]
          clear ed
          go_wp2_with fail
          refine (rRightWeek_any _ wk _ H.out).mono ?_
          rintro e w1 ⟨rfl, hb1⟩
          rw [HA.out]
          have d0 := kept hb1 (p := ⟨w.heap.size, k * 2, none⟩) (v := .int .i64 p) (by simp [go_sem, c0])
          have d1 := kept hb1 (p := ⟨w.heap.size, k * 2 + 1, none⟩) (v := .int .i64 q) (by simp [go_sem, c1])
          clear c0 c1
          go_wp2
          go_ret2
          exact ⟨rfl, by (repeat' first | with_reducible assumption | exact Below.refl _ _ | with_reducible refine Below.drew ?_ | with_reducible refine Below.drewN ?_ _ | with_reducible refine Below.alloc' ?_ _ | with_reducible refine Below.setCell ?_ (by first | exact Nat.le_refl _ | omega | (simp; done) | (simp; omega)) _ | with_reducible refine Below.after ?_ ‹_›)⟩
      refine fin (opB wk t) rfl (fun h => ?_) (fun h => ?_)
      · rw [Hop.out]; simp [h]
      · rw [Hop.out]; simp [h]
theorem rOpen_is {wk : List (Int × Int)} {t : Int} {r : Bool} {e : Int} (h : openS wk t = (r, e)) (cs : Array Value) (w : World) (hw : IsWeek cs wk) :
    Calls Tryd.prog 29 #[.agg cs, .int .i64 t] w fun s w' => s = .returned (.tuple #[.bool r, .int .i64 e]) ∧ Below w.heap.size w w' := by
  have := rOpen_any cs wk t w hw
  rwa [h] at this
end Go.Proofs.YtjmbbhhfbdjbdaaDoor
