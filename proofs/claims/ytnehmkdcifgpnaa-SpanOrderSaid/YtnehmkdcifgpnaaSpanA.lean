/-
  Walks over package span: common, Valid.
-/
import Derived.Test.YtnehmkdcifgpnaaRows
import Derived.WalkKit
import Derived.WalkSpells
import Derived.WalkLawsBesides
import Derived.BigQuiet
import Derived.Lib.Hide
import Derived.Handy
import Derived.Deep.RegionHeld3
import Derived.Deep.QuietTactic
namespace Go.Proofs.Ytnehmkdcifgpnaa
open Go.RowKit

/-- what was in memory is still there behind a call -/
theorem kept {w w' : World} {p : Addr} {v : Value} (hb : Below w.heap.size w w') (h : w.cell? p = some v) : w'.cell? p = some v := by
  rw [hb.cell (World.block_lt_of_cell? w p h), h]

theorem keptF {w w' : World} {p : Addr} {v : Value} (hb : Below w.heap.size w w') (h : w.cell? p = some v) (hf : w.frozen? p = false) : w'.frozen? p = false := by
  rw [hb.frozen (World.block_lt_of_cell? w p h), hf]
theorem cellA {w : World} {p : Addr} {v : Value} {o : Obj} (h : w.cell? p = some v) : (w.alloc o).cell? p = some v := by
  rw [World.cell?_alloc_some _ _ _ (by simp [h]), h]
theorem cellD {w : World} {p : Addr} {v : Value} (h : w.cell? p = some v) : w.drew.cell? p = some v := h
theorem frozA {w : World} {p : Addr} {v : Value} {o : Obj} (h : w.cell? p = some v) (hf : w.frozen? p = false) : (w.alloc o).frozen? p = false := by
  have hlt := World.block_lt_of_cell? w p h
  have := ((Below.refl w.heap.size w).alloc (Nat.le_refl _) o).frozen (p := p) hlt
  rw [this, hf]
theorem frozD {w : World} {p : Addr} (h : w.frozen? p = false) : w.drew.frozen? p = false := h
theorem _root_.Go.RowKit.Below.alloc' {a w : World} (h : Below a.heap.size a w) (o : Obj) : Below a.heap.size a (w.alloc o) := h.alloc h.size o
theorem _root_.Go.RowKit.Below.after {a b c : World} (h : Below a.heap.size a b) (k : Below b.heap.size b c) : Below a.heap.size a c := h.trans (k.mono h.size)

theorem _root_.Go.RowKit.Below.drewN {B : Nat} {a w : World} (h : Below B a w) (n : Nat) : Below B a (w.drewN n) := h.trans ⟨rfl, rfl, rfl, Nat.le_refl _, fun _ _ => rfl⟩

theorem max_left_of {a c : Int} (h : c ≤ a) : max a c = a := by omega
theorem max_right_of {a c : Int} (h : a < c) : max a c = c := by omega
theorem min_left_of {a c : Int} (h : a ≤ c) : min a c = a := by omega
theorem min_right_of {a c : Int} (h : c < a) : min a c = c := by omega

set_option maxHeartbeats 400000 in
theorem common_any (a b c d : Int) (w : World) :
    Calls Try.prog 34 #[.agg #[.int .i64 a, .int .i64 b], .agg #[.int .i64 c, .int .i64 d]] w fun e w' => e = .returned (.agg #[.int .i64 (max a c), .int .i64 (min b d)]) ∧ Below w.heap.size w w' := by
  go_enter Try.func34, Try.ntmps34
  go_wp2
  all_goals go_returns
  · exact ⟨by rw [max_right_of ‹_›, min_right_of ‹_›], ((((Below.refl _ _).alloc (Nat.le_refl _) _).alloc (by simp) _).alloc (by simp; omega) _)⟩
  · exact ⟨by rw [max_right_of ‹_›, min_left_of ‹_›], ((((Below.refl _ _).alloc (Nat.le_refl _) _).alloc (by simp) _).alloc (by simp; omega) _)⟩
  · exact ⟨by rw [max_left_of ‹_›, min_right_of ‹_›], ((((Below.refl _ _).alloc (Nat.le_refl _) _).alloc (by simp) _).alloc (by simp; omega) _)⟩
  · exact ⟨by rw [max_left_of ‹_›, min_left_of ‹_›], ((((Below.refl _ _).alloc (Nat.le_refl _) _).alloc (by simp) _).alloc (by simp; omega) _)⟩

/-- a valid interval -/
def vB (a b : Int) : Bool := decide (-70368744177664 ≤ a ∧ a ≤ b ∧ b ≤ 70368744177664)
theorem vB_true {a b : Int} : vB a b = true ↔ (-70368744177664 ≤ a ∧ a ≤ b ∧ b ≤ 70368744177664) := by simp [vB]
theorem vB_false {a b : Int} : vB a b = false ↔ (a < -70368744177664 ∨ b < a ∨ 70368744177664 < b) := by simp [vB]; omega

set_option maxHeartbeats 1000000 in
theorem valid_any (a b : Int) (w : World) :
    Calls Try.prog 13 #[.agg #[.int .i64 a, .int .i64 b]] w fun e w' => e = .returned (.bool (vB a b)) ∧ Below w.heap.size w w' := by
  by_cases h : a ≤ b
  · by_cases h1 : -70368744177664 ≤ a
    · by_cases h2 : b ≤ 70368744177664
      · have H := Lib.hid (vB_true.2 ⟨h1, h, h2⟩)
        have e1 : max a (-70368744177664) = a := by omega
        have e2 : min b 70368744177664 = b := by omega
        clear h1 h2
        go_enter Try.func13, Try.ntmps13
        go_wp2_with fail
        go_region_held3 (fun w' => w'.cell? ⟨w.heap.size, 0, none⟩ = some (.int .i64 a) ∧ w'.cell? ⟨w.heap.size, 1, none⟩ = some (.int .i64 b) ∧ w'.cell? ⟨w.heap.size + 1, 0, none⟩ = some (.int .i64 (-70368744177664)) ∧ w'.cell? ⟨w.heap.size + 1, 1, none⟩ = some (.int .i64 70368744177664))
          (first | go_keep | (go_split_ands; refine ⟨?_, ?_, ?_, ?_⟩ <;> (refine kept ‹Below _ _ _› ?_; assumption)))
          (first | (go_at_call 34; refine (common_any _ _ _ _ _).mono ?_; rintro e w1 ⟨rfl, hb⟩))
        go_wp2
        go_ret
        exact ⟨by rw [H.out]; rfl, by (repeat' first | exact Below.refl _ _ | with_reducible refine Below.drew ?_ | with_reducible refine Below.drewN ?_ _ | with_reducible refine Below.alloc' ?_ _ | with_reducible refine Below.setCell ?_ (by first | exact Nat.le_refl _ | (simp; done) | (simp; omega)) _ | with_reducible refine Below.after ?_ ‹_›)⟩
      · have H := Lib.hid (vB_false (a := a).2 (Or.inr (Or.inr (Int.not_le.1 h2))))
        have e1 : max a (-70368744177664) = a := by omega
        have e2 : (min b 70368744177664 == b) = false := by simp; omega
        clear h1 h2
        go_enter Try.func13, Try.ntmps13
        go_wp2_with fail
        go_region_held3 (fun w' => w'.cell? ⟨w.heap.size, 0, none⟩ = some (.int .i64 a) ∧ w'.cell? ⟨w.heap.size, 1, none⟩ = some (.int .i64 b) ∧ w'.cell? ⟨w.heap.size + 1, 0, none⟩ = some (.int .i64 (-70368744177664)) ∧ w'.cell? ⟨w.heap.size + 1, 1, none⟩ = some (.int .i64 70368744177664))
          (first | go_keep | (go_split_ands; refine ⟨?_, ?_, ?_, ?_⟩ <;> (refine kept ‹Below _ _ _› ?_; assumption)))
          (first | (go_at_call 34; refine (common_any _ _ _ _ _).mono ?_; rintro e w1 ⟨rfl, hb⟩))
        go_wp2
        go_ret
        exact ⟨by rw [H.out]; rfl, by (repeat' first | exact Below.refl _ _ | with_reducible refine Below.drew ?_ | with_reducible refine Below.drewN ?_ _ | with_reducible refine Below.alloc' ?_ _ | with_reducible refine Below.setCell ?_ (by first | exact Nat.le_refl _ | (simp; done) | (simp; omega)) _ | with_reducible refine Below.after ?_ ‹_›)⟩
    · have H := Lib.hid (vB_false (b := b).2 (Or.inl (Int.not_le.1 h1)))
      have e1 : (max a (-70368744177664) == a) = false := by simp; omega
      clear h1
      go_enter Try.func13, Try.ntmps13
      go_wp2_with fail
      go_region_held3 (fun w' => w'.cell? ⟨w.heap.size, 0, none⟩ = some (.int .i64 a) ∧ w'.cell? ⟨w.heap.size, 1, none⟩ = some (.int .i64 b) ∧ w'.cell? ⟨w.heap.size + 1, 0, none⟩ = some (.int .i64 (-70368744177664)) ∧ w'.cell? ⟨w.heap.size + 1, 1, none⟩ = some (.int .i64 70368744177664))
        (first | go_keep | (go_split_ands; refine ⟨?_, ?_, ?_, ?_⟩ <;> (refine kept ‹Below _ _ _› ?_; assumption)))
        (first | (go_at_call 34; refine (common_any _ _ _ _ _).mono ?_; rintro e w1 ⟨rfl, hb⟩))
      go_wp2
      go_ret
      exact ⟨by rw [H.out]; rfl, by (repeat' first | exact Below.refl _ _ | with_reducible refine Below.drew ?_ | with_reducible refine Below.drewN ?_ _ | with_reducible refine Below.alloc' ?_ _ | with_reducible refine Below.setCell ?_ (by first | exact Nat.le_refl _ | (simp; done) | (simp; omega)) _ | with_reducible refine Below.after ?_ ‹_›)⟩
  · have H := Lib.hid (vB_false.2 (Or.inr (Or.inl (Int.not_le.1 h))))
    have e1 : decide (a ≤ b) = false := by simp; omega
    clear h
    go_enter Try.func13, Try.ntmps13
    go_wp2_with fail
    go_quiet (fail)
    go_wp2
    go_ret
    exact ⟨by rw [H.out]; rfl, by (repeat' first | exact Below.refl _ _ | with_reducible refine Below.drew ?_ | with_reducible refine Below.drewN ?_ _ | with_reducible refine Below.alloc' ?_ _ | with_reducible refine Below.setCell ?_ (by first | exact Nat.le_refl _ | (simp; done) | (simp; omega)) _ | with_reducible refine Below.after ?_ ‹_›)⟩

theorem valid_yes (a b : Int) (w : World) (h : vB a b = true) :
    Calls Try.prog 13 #[.agg #[.int .i64 a, .int .i64 b]] w fun e w' => e = .returned (.bool true) ∧ Below w.heap.size w w' := by
  have := valid_any a b w
  rwa [h] at this
theorem valid_no (a b : Int) (w : World) (h : vB a b = false) :
    Calls Try.prog 13 #[.agg #[.int .i64 a, .int .i64 b]] w fun e w' => e = .returned (.bool false) ∧ Below w.heap.size w w' := by
  have := valid_any a b w
  rwa [h] at this
end Go.Proofs.Ytnehmkdcifgpnaa
