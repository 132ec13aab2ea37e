/-
  Walks over package clock: Date, Weekday; twoDigits, Format.
-/
import Derived.Test.YtjmbbhhfbdjbdaaDoorClkH
import Derived.Test.YtjmbbhhfbdjbdaaDoorClkT
import Derived.Test.YtjmbbhhfbdjbdaaDoorClkPlain5
import Derived.Shelf.Strconv.Itoa3
import Derived.Test.YtjmbbhhfbdjbdaaDoorShelf
namespace Go.Proofs.YtjmbbhhfbdjbdaaDoor
open Go.RowKit

set_option maxHeartbeats 1000000 in
theorem date_any (t : Int) (w : World) :
    Calls Tryd.prog 12 #[.int .i64 t] w fun e w' => e = .returned (.tuple #[.int .i64 (dateS t).1, .int .i64 (dateS t).2.1, .int .i64 (dateS t).2.2]) ∧ w = w' := by
  by_cases h1 : t < 0
  · have e : dateS t = (0, 0, 1) := by unfold dateS; rw [mB_false.2 (Or.inl h1)]; rfl
    rw [e]
    clear e
    go_enter Tryd.func12, Tryd.ntmps12
    go_wp2
    go_ret3
    exact ⟨rfl, rfl⟩
  · by_cases h2 : 3155759999 < t
    · have e : dateS t = (0, 0, 1) := by unfold dateS; rw [mB_false.2 (Or.inr h2)]; rfl
      rw [e]
      clear e
      have h1' : 0 ≤ t := by omega
      go_enter Tryd.func12, Tryd.ntmps12
      go_wp2
      go_ret3
      exact ⟨rfl, rfl⟩
    · have e : dateS t = (t / 86400, t % 86400, 0) := by unfold dateS; rw [mB_true.2 (by omega)]; rfl
      rw [e]
      clear e
      have h1' : 0 ≤ t := by omega
      have h2' : t ≤ 3155759999 := by omega
      have b1 : 0 ≤ t / 86400 ∧ t / 86400 ≤ 36524 := by omega
      have b2 : 0 ≤ t % 86400 ∧ t % 86400 < 86400 := by omega
      go_enter Tryd.func12, Tryd.ntmps12
      go_wp2
      go_ret3
      exact ⟨rfl, rfl⟩

set_option maxHeartbeats 1000000 in
theorem weekday_any (d : Int) (w : World) :
    Calls Tryd.prog 14 #[.int .i64 d] w fun e w' => e = .returned (.tuple #[.int .i64 (weekS d).1, .int .i64 (weekS d).2]) ∧ w = w' := by
  by_cases h1 : d < 0
  · have e : weekS d = (0, 1) := by unfold weekS; rw [if_neg (by omega)]
    rw [e]
    clear e
    go_enter Tryd.func14, Tryd.ntmps14
    go_wp2
    go_ret2
    exact ⟨rfl, rfl⟩
  · by_cases h2 : 36524 < d
    · have e : weekS d = (0, 1) := by unfold weekS; rw [if_neg (by omega)]
      rw [e]
      clear e
      have h1' : 0 ≤ d := by omega
      go_enter Tryd.func14, Tryd.ntmps14
      go_wp2
      go_ret2
      exact ⟨rfl, rfl⟩
    · have e : weekS d = (d % 7, 0) := by unfold weekS; rw [if_pos (by omega)]
      rw [e]
      clear e
      have h1' : 0 ≤ d := by omega
      have h2' : d ≤ 36524 := by omega
      have b2 : 0 ≤ d % 7 ∧ d % 7 < 7 := by omega
      go_enter Tryd.func14, Tryd.ntmps14
      go_wp2
      go_ret2
      exact ⟨rfl, rfl⟩

theorem itoa_small (n : Int) (w : World) (h0 : 0 ≤ n) (h1 : n < 100) :
    Calls Tryd.prog 32 #[.int .i64 n] w fun e w' => ∃ s : ByteArray, e = .returned (.string s) ∧ Hid (s.data.toList = Lib.decDigits n.toNat) ∧ s.size ≤ 2 ∧ w' = w := by
  obtain ⟨u, rfl⟩ := Int.eq_ofNat_of_zero_le h0
  refine (Any.strconv_Itoa_small { Tryd.laysItoa with } u (by omega) w).mono ?_
  rintro e w' ⟨rfl, rfl⟩
  refine ⟨_, rfl, rfl, ?_, rfl⟩
  show (Lib.decDigits u).length ≤ 2
  by_cases h : u < 10
  · rw [Lib.decDigits_one h]; simp
  · rw [Lib.decDigits_two h (by omega)]; simp

theorem below_grow (w : World) (k : Nat) (os : Array Obj) : Below w.heap.size w (Sort.grow (w.drewN k) os) := by
  refine ⟨rfl, rfl, rfl, ?_, ?_⟩
  · show w.heap.size ≤ (w.heap ++ os).size
    simp
  · intro i hi
    show (w.heap ++ os)[i]? = w.heap[i]?
    rw [Array.getElem?_append_left hi]

theorem itoa_any (n : Int) (w : World) (h0 : 0 ≤ n) (h1 : n ≤ 36524) (hT : Tabs w) :
    Calls Tryd.prog 32 #[.int .i64 n] w fun e w' => ∃ s : ByteArray, e = .returned (.string s) ∧ Hid (s.data.toList = decL n.toNat 1) ∧ s.size ≤ 16 ∧ Below w.heap.size w w' := by
  refine (Any.strconv_Itoa Tryd.laysItoa n (by omega) (by omega) w hT.pow).mono ?_
  rintro e w' ⟨rfl, k, os, rfl⟩
  have hl := lib_itoa n h0 (by omega)
  refine ⟨_, rfl, hl, ?_, below_grow w k os⟩
  show (Lib.itoa n).length ≤ 16
  rw [hl]
  exact decL_len (by omega) (by omega)

set_option maxRecDepth 20000 in
set_option maxHeartbeats 2000000 in
theorem twoDigits_any (n : Int) (w : World) (h0 : 0 ≤ n) (h1 : n < 100) :
    Calls Tryd.prog 33 #[.int .i64 n] w fun e w' => ∃ s : ByteArray, e = .returned (.string s) ∧ Hid (s.data.toList = decL n.toNat 2) ∧ s.size ≤ 4 ∧ w' = w := by
  obtain ⟨u, rfl⟩ := Int.eq_ofNat_of_zero_le h0
  have Hd := Lib.hid (lib_two u (by omega))
  have b0 : (0 : Int) ≤ (u : Int) / 10 ∧ (u : Int) / 10 < 100 := by omega
  have b1 : (0 : Int) ≤ (u : Int) % 10 ∧ (u : Int) % 10 < 100 := by omega
  go_enter Tryd.func33, Tryd.ntmps33
  go_wp2_with fail
  refine (itoa_small _ _ b0.1 b0.2).mono ?_
  rintro e w1 ⟨s1, rfl, hs1, hz1, rfl⟩
  go_wp2_with fail
  refine (itoa_small _ _ b1.1 b1.2).mono ?_
  rintro e w2 ⟨s2, rfl, hs2, hz2, rfl⟩
  go_wp2
  go_ret
  refine ⟨_, rfl, ?_, ?_, rfl⟩
  · unfold Hid
    rw [data_app, hs1.out, hs2.out]
    exact Hd.out
  · rw [ByteArray.size_append]; omega

set_option maxRecDepth 20000 in
set_option maxHeartbeats 2000000 in
theorem format_any (t : Int) (w : World) (hT : Tabs w) :
    Calls Tryd.prog 17 #[.int .i64 t] w fun e w' => e = .returned (.tuple #[str (formatC t).1, .int .i64 (formatC t).2]) ∧ Below w.heap.size w w' := by
  cases hm : mB t
  · have e := formatC_no hm
    have ed : dateS t = (0, 0, 1) := by simp [dateS, hm]
    rw [e]
    clear e hm
    go_enter Tryd.func17, Tryd.ntmps17
    go_wp2_with fail
    refine (date_any _ _).mono ?_
    rintro e w1 ⟨rfl, rfl⟩
    rw [ed]
    clear ed
    go_wp2
    go_ret2
    exact ⟨rfl, Below.refl _ _⟩
  · have e := formatC_yes hm
    have ed : dateS t = (t / 86400, t % 86400, 0) := by simp [dateS, hm]
    have hm' := mB_true.1 hm
    rw [e]
    clear e hm
    have b0 : 0 ≤ t / 86400 ∧ t / 86400 ≤ 36524 := by omega
    have b1 : 0 ≤ t % 86400 ∧ t % 86400 < 86400 := by omega
    have b2 : 0 ≤ t % 86400 / 3600 ∧ t % 86400 / 3600 < 100 := by omega
    have b3 : 0 ≤ t % 3600 / 60 ∧ t % 3600 / 60 < 100 := by omega
    have b5 : 0 ≤ t % 60 ∧ t % 60 < 100 := by omega
    have Hmin := Lib.hid (show t % 3600 / 60 = t % 86400 / 60 % 60 by omega)
    go_enter Tryd.func17, Tryd.ntmps17
    go_wp2_with fail
    refine (date_any _ _).mono ?_
    rintro e w1 ⟨rfl, rfl⟩
    rw [ed]
    clear ed
    go_wp2_with fail
    refine (itoa_any _ _ b0.1 b0.2 hT).mono ?_
    rintro e w1 ⟨s1, rfl, hs1, hz1, hb1⟩
    go_wp2_with fail
    refine (twoDigits_any _ _ b2.1 b2.2).mono ?_
    rintro e w2 ⟨s2, rfl, hs2, hz2, rfl⟩
    go_wp2_with fail
    refine (twoDigits_any _ _ b3.1 b3.2).mono ?_
    rintro e w3 ⟨s3, rfl, hs3, hz3, rfl⟩
    go_wp2_with fail
    refine (twoDigits_any _ _ b5.1 b5.2).mono ?_
    rintro e w4 ⟨s4, rfl, hs4, hz4, rfl⟩
    rw [Hmin.out] at hs3
    go_wp2
    go_ret2
    refine ⟨?_, by (repeat' first | with_reducible assumption | exact Below.refl _ _ | with_reducible refine Below.drew ?_ | with_reducible refine Below.drewN ?_ _ | with_reducible refine Below.alloc' ?_ _ | with_reducible refine Below.setCell ?_ (by first | exact Nat.le_refl _ | omega | (simp; done) | (simp; omega)) _ | with_reducible refine Below.after ?_ ‹_›)⟩
    show Ending.returned (.tuple #[.string (s1 ++ ⟨#[32]⟩ ++ s2 ++ ⟨#[58]⟩ ++ s3 ++ ⟨#[58]⟩ ++ s4), .int .i64 0]) = .returned (.tuple #[str (fmtC t), .int .i64 0])
    rw [str_of (l := fmtC t)]
    rw [data_app, data_app, data_app, data_app, data_app, data_app, hs1.out, hs2.out, hs3.out, hs4.out]
    rfl
end Go.Proofs.YtjmbbhhfbdjbdaaDoor
