/-
  Walks over the reference of package clock: RightWeek.
-/
import Derived.Test.YtjmbbhhfbdjbdaaDoorClkA
import Derived.Deep.MidRow
namespace Go.Proofs.YtjmbbhhfbdjbdaaDoor
open Go.RowKit

/-- the cells of a week -/
structure IsWeek (cs : Array Value) (wk : List (Int × Int)) : Prop where
  size : cs.size = 14
  days : wk.length = 7
  cell : ∀ k, k < 7 → cs[k * 2]? = some (.int .i64 (wk[k]?.getD (0, 0)).1) ∧ cs[k * 2 + 1]? = some (.int .i64 (wk[k]?.getD (0, 0)).2)

/-- a valid window of a day -/
def dB (z : Int × Int) : Bool := decide (0 ≤ z.1) && decide (z.1 ≤ z.2) && decide (z.2 ≤ 86400)
theorem all_dB_succ (l : List (Int × Int)) (k : Nat) (hk : k < l.length) : (l.take (k + 1)).all dB = ((l.take k).all dB && dB (l[k]?.getD (0, 0))) := by
  rw [List.take_add_one, List.all_append]
  simp [List.getElem?_eq_getElem hk]
theorem all_dB_not (l : List (Int × Int)) (k : Nat) (hk : k < l.length) (h : dB (l[k]?.getD (0, 0)) = false) : l.all dB = false := by
  rw [List.all_eq_false]
  exact ⟨l[k], List.getElem_mem hk, by simpa [List.getElem?_eq_getElem hk] using h⟩

set_option maxRecDepth 100000 in
set_option maxHeartbeats 4000000 in
theorem rRightWeek_any (cs : Array Value) (wk : List (Int × Int)) (w : World) (h : IsWeek cs wk) :
    Calls Tryd.prog 48 #[.agg cs] w fun e w' => e = .returned (.bool (wk.all dB)) ∧ Below w.heap.size w w' := by
  have H := Lib.hid h
  clear h
  go_enter Tryd.func48, Tryd.ntmps48
  go_wp2
  go_loopw [3] (fun i wx => ∃ (k d : Nat), k ≤ 7 ∧ i = .int .i64 k ∧ Hid ((wk.take k).all dB = true) ∧ wx = (w.alloc (.cells cs 42)).drewN d) (fun i _ => 7 - (intOf i).toNat)
  case atStart => exact ⟨0, 0, by omega, rfl, rfl, rfl⟩
  case round =>
    obtain ⟨k, d, hk, rfl, Hall, rfl⟩ := hrel
    by_cases hlt : k < 7
    · obtain ⟨c0, c1⟩ := H.out.cell k hlt
      have Hlt := Lib.hid (show k < wk.length by rw [H.out.days]; exact hlt)
      have Ha := Lib.hid (all_dB_succ wk k Hlt.out)
      have Hno := Lib.hid (all_dB_not wk k Hlt.out)
      obtain ⟨⟨p, q⟩, hz⟩ : ∃ z, wk[k]?.getD (0, 0) = z := ⟨_, rfl⟩
      rw [hz] at c0 c1 Ha Hno
      simp only [] at c0 c1
      clear hz
      have k0 : (0 : Int) ≤ (k : Int) := by omega
      have k1 : (k : Int) < 7 := by omega
      by_cases h1 : p < 0
      · have E := Lib.hid (Hno.out (by simp [dB]; omega))
        go_wp2
        go_quiet (fail)
        go_wp2
        go_ret
        exact ⟨by rw [E.out]; rfl, by (repeat' first | with_reducible assumption | exact Below.refl _ _ | with_reducible refine Below.drew ?_ | with_reducible refine Below.drewN ?_ _ | with_reducible refine Below.alloc' ?_ _ | with_reducible refine Below.setCell ?_ (by first | exact Nat.le_refl _ | omega | (simp; done) | (simp; omega)) _ | with_reducible refine Below.after ?_ ‹_›)⟩
      · have h1' : decide (p < 0) = false := by simpa using h1
        by_cases h2 : q < p
        · have E := Lib.hid (Hno.out (by simp [dB]; omega))
          clear h1
          go_wp2
          go_quiet (fail)
          go_wp2
          go_ret
          exact ⟨by rw [E.out]; rfl, by (repeat' first | with_reducible assumption | exact Below.refl _ _ | with_reducible refine Below.drew ?_ | with_reducible refine Below.drewN ?_ _ | with_reducible refine Below.alloc' ?_ _ | with_reducible refine Below.setCell ?_ (by first | exact Nat.le_refl _ | omega | (simp; done) | (simp; omega)) _ | with_reducible refine Below.after ?_ ‹_›)⟩
        · have h2' : decide (q < p) = false := by simpa using h2
          by_cases h3 : 86400 < q
          · have E := Lib.hid (Hno.out (by simp [dB]; omega))
            clear h1 h2
            go_wp2
            go_quiet (fail)
            go_wp2
            go_ret
            exact ⟨by rw [E.out]; rfl, by (repeat' first | with_reducible assumption | exact Below.refl _ _ | with_reducible refine Below.drew ?_ | with_reducible refine Below.drewN ?_ _ | with_reducible refine Below.alloc' ?_ _ | with_reducible refine Below.setCell ?_ (by first | exact Nat.le_refl _ | omega | (simp; done) | (simp; omega)) _ | with_reducible refine Below.after ?_ ‹_›)⟩
          · have h3' : decide (86400 < q) = false := by simpa using h3
            have E := Lib.hid (show (wk.take (k + 1)).all dB = true by rw [Ha.out, Hall.out]; simp [dB]; omega)
            clear h1 h2 h3
            go_wp2
            go_quiet (fail)
            go_wp2
            go_roundw
            case rel => exact ⟨k + 1, _, by omega, by go_num, E.out, rfl⟩
            case measure => simp [intOf]; omega
    · go_wp2
      go_ret
      have h1 := Hall.out
      rw [show k = wk.length by rw [H.out.days]; omega, List.take_length] at h1
      exact ⟨by rw [h1]; rfl, by (repeat' first | with_reducible assumption | exact Below.refl _ _ | with_reducible refine Below.drew ?_ | with_reducible refine Below.drewN ?_ _ | with_reducible refine Below.alloc' ?_ _ | with_reducible refine Below.setCell ?_ (by first | exact Nat.le_refl _ | omega | (simp; done) | (simp; omega)) _ | with_reducible refine Below.after ?_ ‹_›)⟩
end Go.Proofs.YtjmbbhhfbdjbdaaDoor
