/-
  Walks over package num and its reference: lists in memory, allInRange, Add, Sub, Sum.
-/
import Derived.Test.YtejokpbmdhmhfaaNumA
import Derived.Handy
namespace Go.Proofs.Ytejokpbmdhmhfaa
open Go.RowKit

/-- a slice of int that reads as the list l -/
def Ints (w : World) (a : Option Addr) (l : List Int) : Prop :=
  l ≠ [] → ∃ b off, a = some ⟨b, off, none⟩ ∧ ∀ k, k < l.length → w.cell? ⟨b, off + k, none⟩ = some (.int .i64 (l.getD k 0))

theorem Ints.at_ {w : World} {a : Option Addr} {l : List Int} (h : Ints w a l) {k : Nat} (hk : k < l.length) :
    ∃ b off, a = some ⟨b, off, none⟩ ∧ w.cell? ⟨b, off + k, none⟩ = some (.int .i64 (l[k]?.getD 0)) := by
  obtain ⟨b, off, e, hc⟩ := h (by intro e; subst e; simp at hk)
  exact ⟨b, off, e, by simpa [List.getD] using hc k hk⟩

theorem take_all_succ (p : Int → Bool) (l : List Int) (k : Nat) (hk : k < l.length) : (l.take (k + 1)).all p = ((l.take k).all p && p (l[k]?.getD 0)) := by
  rw [List.take_add_one, List.all_append]
  simp [List.getElem?_eq_getElem hk]
theorem take_sum_succ (l : List Int) (k : Nat) (hk : k < l.length) : (l.take (k + 1)).sum = (l.take k).sum + l[k]?.getD 0 := by
  rw [List.take_add_one, List.sum_append]
  simp [List.getElem?_eq_getElem hk]
theorem all_false_of (p : Int → Bool) (l : List Int) (k : Nat) (hk : k < l.length) (h : p (l[k]?.getD 0) = false) : l.all p = false := by
  rw [List.all_eq_false]
  exact ⟨l[k], List.getElem_mem hk, by simpa [List.getElem?_eq_getElem hk] using h⟩

set_option maxHeartbeats 400000 in
theorem allIn_any (a : Option Addr) (l : List Int) (n cap : Nat) (w : World) (hn : l.length = n) (hb : n ≤ 1000000) (hl : Ints w a l) :
    Calls Try.prog 32 #[.slice a n cap] w fun e w' => e = .returned (.bool (l.all inRB)) ∧ w = w' := by
  have Hn := Lib.hid hn
  clear hn
  go_enter Try.func32, Try.ntmps32
  go_wp2
  go_loop [4, 7] (fun _ i => ∃ k : Nat, k ≤ n ∧ i = .int .i64 k ∧ (l.take k).all inRB = true) (fun _ i => n - (intOf i).toNat)
  case atStart => exact ⟨0, Nat.zero_le _, rfl, by simp⟩
  case round =>
    obtain ⟨k, hk, rfl, hall⟩ := hrel
    have Hall := Lib.hid hall
    clear hall
    by_cases hlt : k < n
    · obtain ⟨b, off, rfl, hc⟩ := hl.at_ (k := k) (by rw [Hn.out]; exact hlt)
      cases hx : inRB (l[k]?.getD 0)
      · have Hx := Lib.hid hx
        clear hx
        go_wp2_with (go_at_call 36; refine (inRange_no _ _ Hx.out).mono ?_; rintro e w' ⟨rfl, rfl⟩)
        go_ret
        exact ⟨by rw [all_false_of inRB l k (by rw [Hn.out]; exact hlt) Hx.out]; rfl, rfl⟩
      · have Hx := Lib.hid hx
        clear hx
        go_wp2_with (go_at_call 36; refine (inRange_yes _ _ Hx.out).mono ?_; rintro e w' ⟨rfl, rfl⟩)
        go_round
        case rel => exact ⟨k + 1, by omega, by go_num, by rw [take_all_succ _ _ _ (by rw [Hn.out]; exact hlt), Hall.out, Hx.out]; rfl⟩
        case measure => simp [intOf]; omega
    · go_wp2
      go_ret
      have hk' : k = l.length := by rw [Hn.out]; omega
      exact ⟨by rw [hk', List.take_length] at Hall; rw [Hall.out]; rfl, rfl⟩

theorem Ints_two (w : World) (x y : Int) (t : TypeId) : Ints (w.alloc (.cells #[.int .i64 x, .int .i64 y] t)) (some ⟨w.heap.size, 0, none⟩) [x, y] := by
  intro _
  refine ⟨_, _, rfl, fun k hk => ?_⟩
  have : k = 0 ∨ k = 1 := by simp at hk; omega
  rcases this with rfl | rfl <;> simp [go_sem]
theorem Ints_three (w : World) (x y z : Int) (t : TypeId) : Ints (w.alloc (.cells #[.int .i64 x, .int .i64 y, .int .i64 z] t)) (some ⟨w.heap.size, 0, none⟩) [x, y, z] := by
  intro _
  refine ⟨_, _, rfl, fun k hk => ?_⟩
  have : k = 0 ∨ k = 1 ∨ k = 2 := by simp at hk; omega
  rcases this with rfl | rfl | rfl <;> simp [go_sem]

/-- what Add returns -/
def addS (a b : Int) : Int × Int := if inRB a && inRB b then chkS (a + b) else (0, 1)
def subS (a b : Int) : Int × Int := if inRB a && inRB b then chkS (a - b) else (0, 1)

theorem all_two (a b : Int) : [a, b].all inRB = (inRB a && inRB b) := by simp
theorem allIn_two (a b : Int) (w : World) (t : TypeId) (r : Bool) (h : (inRB a && inRB b) = r) :
    Calls Try.prog 32 #[.slice (some ⟨w.heap.size, 0, none⟩) 2 2] (w.alloc (.cells #[.int .i64 a, .int .i64 b] t)) fun e w' => e = .returned (.bool r) ∧ w.alloc (.cells #[.int .i64 a, .int .i64 b] t) = w' := by
  have := allIn_any (some ⟨w.heap.size, 0, none⟩) [a, b] 2 2 (w.alloc (.cells #[.int .i64 a, .int .i64 b] t)) rfl (by omega) (Ints_two w a b t)
  rwa [all_two, h] at this

set_option maxHeartbeats 400000 in
theorem add_any (a b : Int) (w : World) :
    Calls Try.prog 12 #[.int .i64 a, .int .i64 b] w fun e w' => e = .returned (.tuple #[.int .i64 (addS a b).1, .int .i64 (addS a b).2]) ∧ Below w.heap.size w w' := by
  cases h : (inRB a && inRB b)
  · have e : addS a b = (0, 1) := by simp [addS, h]
    rw [e]
    clear e
    have H := Lib.hid h
    clear h
    go_enter Try.func12, Try.ntmps12
    go_wp2_with (go_at_call 32; refine (allIn_two a b _ _ _ H.out).mono ?_; rintro e w' ⟨rfl, rfl⟩)
    go_ret2
    exact ⟨rfl, (Below.refl _ _).alloc (Nat.le_refl _) _⟩
  · have e : addS a b = chkS (a + b) := by simp [addS, h]
    rw [e]
    clear e
    have hh : inRB a = true ∧ inRB b = true := by simpa using h
    have h1 := inRB_true.1 hh.1
    have h2 := inRB_true.1 hh.2
    clear hh
    have H := Lib.hid h
    clear h
    go_enter Try.func12, Try.ntmps12
    go_wp2_with (first | (go_at_call 32; refine (allIn_two a b _ _ _ H.out).mono ?_; rintro e w' ⟨rfl, rfl⟩) | (go_at_call 33; refine (checkResult_any _ _).mono ?_; rintro e w' ⟨rfl, rfl⟩))
    go_ret2
    exact ⟨rfl, (Below.refl _ _).alloc (Nat.le_refl _) _⟩

set_option maxHeartbeats 400000 in
theorem sub_any (a b : Int) (w : World) :
    Calls Try.prog 14 #[.int .i64 a, .int .i64 b] w fun e w' => e = .returned (.tuple #[.int .i64 (subS a b).1, .int .i64 (subS a b).2]) ∧ Below w.heap.size w w' := by
  cases h : (inRB a && inRB b)
  · have e : subS a b = (0, 1) := by simp [subS, h]
    rw [e]
    clear e
    have H := Lib.hid h
    clear h
    go_enter Try.func14, Try.ntmps14
    go_wp2_with (go_at_call 32; refine (allIn_two a b _ _ _ H.out).mono ?_; rintro e w' ⟨rfl, rfl⟩)
    go_ret2
    exact ⟨rfl, (Below.refl _ _).alloc (Nat.le_refl _) _⟩
  · have e : subS a b = chkS (a - b) := by simp [subS, h]
    rw [e]
    clear e
    have hh : inRB a = true ∧ inRB b = true := by simpa using h
    have h1 := inRB_true.1 hh.1
    have h2 := inRB_true.1 hh.2
    clear hh
    have H := Lib.hid h
    clear h
    go_enter Try.func14, Try.ntmps14
    go_wp2_with (first | (go_at_call 32; refine (allIn_two a b _ _ _ H.out).mono ?_; rintro e w' ⟨rfl, rfl⟩) | (go_at_call 33; refine (checkResult_any _ _).mono ?_; rintro e w' ⟨rfl, rfl⟩))
    go_ret2
    exact ⟨rfl, (Below.refl _ _).alloc (Nat.le_refl _) _⟩

/-- what Mul returns -/
def mulS (a b : Int) : Int × Int := if inRB a && inRB b then chkS (a * b) else (0, 1)

theorem mul_big {a b : Int} (h : a ≠ 0) (hb : 1125899906842624 / (a.natAbs : Int) < (b.natAbs : Int)) : inRB (a * b) = false := by
  have ha : 0 < (a.natAbs : Int) := by omega
  have h1 : (1125899906842624 : Int) < (a.natAbs : Int) * (b.natAbs : Int) := by
    have := Int.lt_mul_of_ediv_lt ha hb
    rwa [Int.mul_comm] at this
  have h2 : ((a * b).natAbs : Int) = (a.natAbs : Int) * (b.natAbs : Int) := by rw [Int.natAbs_mul]; simp
  rw [← h2] at h1
  rw [inRB_false]
  omega
theorem mul_small {a b : Int} (hb : ¬ 1125899906842624 / (a.natAbs : Int) < (b.natAbs : Int)) : inRB (a * b) = true := by
  by_cases h0 : a = 0
  · subst h0; simp [inRB]
  have ha : 0 < (a.natAbs : Int) := by omega
  have h1 : (a.natAbs : Int) * (b.natAbs : Int) ≤ 1125899906842624 := by
    have := (Int.le_ediv_iff_mul_le ha).1 (Int.not_lt.1 hb)
    rwa [Int.mul_comm] at this
  have h2 : ((a * b).natAbs : Int) = (a.natAbs : Int) * (b.natAbs : Int) := by rw [Int.natAbs_mul]; simp
  rw [← h2] at h1
  rw [inRB_true]
  omega

set_option maxHeartbeats 400000 in
theorem mul_any (a b : Int) (w : World) :
    Calls Try.prog 17 #[.int .i64 a, .int .i64 b] w fun e w' => e = .returned (.tuple #[.int .i64 (mulS a b).1, .int .i64 (mulS a b).2]) ∧ Below w.heap.size w w' := by
  cases h : (inRB a && inRB b)
  · have e : mulS a b = (0, 1) := by simp [mulS, h]
    rw [e]
    clear e
    have H := Lib.hid h
    clear h
    go_enter Try.func17, Try.ntmps17
    go_wp2_with (go_at_call 32; refine (allIn_two a b _ _ _ H.out).mono ?_; rintro e w' ⟨rfl, rfl⟩)
    go_ret2
    exact ⟨rfl, (Below.refl _ _).alloc (Nat.le_refl _) _⟩
  · have hh : inRB a = true ∧ inRB b = true := by simpa using h
    have h1 := inRB_true.1 hh.1
    have h2 := inRB_true.1 hh.2
    have H1 := Lib.hid hh.1
    have H2 := Lib.hid hh.2
    clear hh
    have H := Lib.hid h
    by_cases h0 : a = 0
    · have e : mulS a b = (a * b, 0) := by simp [mulS, h0, chkS, inRB]; exact h2
      rw [e]
      clear e h
      have hp : -9223372036854775808 ≤ a * b ∧ a * b < 9223372036854775808 := by rw [h0]; simp
      have hz : (a != 0) = false := by simp [h0]
      have hab : a * b = 0 := by simp [h0]
      clear h0
      go_enter Try.func17, Try.ntmps17
      go_wp2_with (go_at_call 32; refine (allIn_two a b _ _ _ H.out).mono ?_; rintro e w' ⟨rfl, rfl⟩)
      go_ret2
      exact ⟨by go_num, (Below.refl _ _).alloc (Nat.le_refl _) _⟩
    · have hz : (a != 0) = true := by simp [h0]
      have hna : 0 < a.natAbs := by omega
      have hna1 : (1 : Int) ≤ (a.natAbs : Int) := by omega
      by_cases hq : 1125899906842624 / (a.natAbs : Int) < (b.natAbs : Int)
      · have e : mulS a b = (0, 2) := by simp [mulS, h, chkS, mul_big h0 hq]
        rw [e]
        clear e h
        go_enter Try.func17, Try.ntmps17
        go_wp2_with (first | (go_at_call 32; refine (allIn_two a b _ _ _ H.out).mono ?_; rintro e w' ⟨rfl, rfl⟩) | (go_at_call 35; refine (abs_any _ _ (by first | exact H1.out | exact H2.out)).mono ?_; rintro e w' ⟨rfl, rfl⟩))
        go_ret2
        exact ⟨rfl, (Below.refl _ _).alloc (Nat.le_refl _) _⟩
      · have e : mulS a b = (a * b, 0) := by simp [mulS, h, chkS, mul_small hq]
        rw [e]
        have hp := inRB_true.1 (mul_small hq)
        clear e h
        go_enter Try.func17, Try.ntmps17
        go_wp2_with (first | (go_at_call 32; refine (allIn_two a b _ _ _ H.out).mono ?_; rintro e w' ⟨rfl, rfl⟩) | (go_at_call 35; refine (abs_any _ _ (by first | exact H1.out | exact H2.out)).mono ?_; rintro e w' ⟨rfl, rfl⟩))
        go_ret2
        exact ⟨rfl, (Below.refl _ _).alloc (Nat.le_refl _) _⟩
end Go.Proofs.Ytejokpbmdhmhfaa
