/-
  The contracts of the landed package ident: isLetter, isDigit, isSign, Valid.
-/
import Derived.Test.YteemacgknmidaaaIdK
namespace Go.Proofs.Yteemacgknmidaaa
set_option linter.unusedVariables false
set_option linter.unusedSimpArgs false
open Go.RowKit

set_option maxHeartbeats 1000000 in
theorem iLetter_any (x : Int) (w : World) :
    Calls Try.prog 25 #[.int .u8 x] w fun e w' => e = .returned (.bool (isLet x)) ∧ w = w' := by
  by_cases h1 : 65 ≤ x
  · by_cases h2 : x ≤ 90
    · have E := Lib.hid (show isLet x = true by simp [isLet, *])
      go_enter Try.func25, Try.ntmps25
      go_wp2
      go_ret
      exact ⟨by rw [E.out]; rfl, rfl⟩
    · by_cases h3 : 97 ≤ x
      · by_cases h4 : x ≤ 122
        · have E := Lib.hid (show isLet x = true by simp [isLet, *])
          go_enter Try.func25, Try.ntmps25
          go_wp2
          go_ret
          exact ⟨by rw [E.out]; rfl, rfl⟩
        · have E := Lib.hid (show isLet x = false by simp [isLet, *])
          go_enter Try.func25, Try.ntmps25
          go_wp2
          go_ret
          exact ⟨by rw [E.out]; rfl, rfl⟩
      · have E := Lib.hid (show isLet x = false by simp [isLet, *])
        go_enter Try.func25, Try.ntmps25
        go_wp2
        go_ret
        exact ⟨by rw [E.out]; rfl, rfl⟩
  · have h3 : ¬ 97 ≤ x := by omega
    have E := Lib.hid (show isLet x = false by simp [isLet, *])
    go_enter Try.func25, Try.ntmps25
    go_wp2
    go_ret
    exact ⟨by rw [E.out]; rfl, rfl⟩
theorem iLetter_is {x : Int} {r : Bool} (h : isLet x = r) (w : World) :
    Calls Try.prog 25 #[.int .u8 x] w fun e w' => e = .returned (.bool r) ∧ w = w' := by
  have := iLetter_any x w
  rwa [h] at this

/-- a digit; a sign -/
def isDig (x : Int) : Bool := decide (48 ≤ x) && decide (x ≤ 57)
def isSig (x : Int) : Bool := decide (x = 45) || decide (x = 95) || decide (x = 46)
theorem isChr_eq (x : Int) : isChr x = (isLet x || isDig x || isSig x) := by
  unfold isChr isDig isSig
  simp [Bool.or_assoc]
set_option maxHeartbeats 1000000 in
theorem iDigit_any (x : Int) (w : World) :
    Calls Try.prog 26 #[.int .u8 x] w fun e w' => e = .returned (.bool (isDig x)) ∧ w = w' := by
  by_cases h1 : 48 ≤ x
  · by_cases h2 : x ≤ 57
    · have E := Lib.hid (show isDig x = true by simp [isDig, *])
      go_enter Try.func26, Try.ntmps26
      go_wp2
      go_ret
      exact ⟨by rw [E.out]; rfl, rfl⟩
    · have E := Lib.hid (show isDig x = false by simp [isDig, *])
      go_enter Try.func26, Try.ntmps26
      go_wp2
      go_ret
      exact ⟨by rw [E.out]; rfl, rfl⟩
  · have E := Lib.hid (show isDig x = false by simp [isDig, *])
    go_enter Try.func26, Try.ntmps26
    go_wp2
    go_ret
    exact ⟨by rw [E.out]; rfl, rfl⟩
theorem iDigit_is {x : Int} {r : Bool} (h : isDig x = r) (w : World) :
    Calls Try.prog 26 #[.int .u8 x] w fun e w' => e = .returned (.bool r) ∧ w = w' := by
  have := iDigit_any x w
  rwa [h] at this
set_option maxHeartbeats 1000000 in
theorem iSign_any (x : Int) (w : World) :
    Calls Try.prog 27 #[.int .u8 x] w fun e w' => e = .returned (.bool (isSig x)) ∧ w = w' := by
  by_cases h1 : x = 45
  · have E := Lib.hid (show isSig x = true by simp [isSig, *])
    have h2 : (x == 45) = true := by simp [h1]
    clear h1
    go_enter Try.func27, Try.ntmps27
    go_wp2
    go_ret
    exact ⟨by rw [E.out]; rfl, rfl⟩
  · have h2 : (x == 45) = false := by simpa using h1
    by_cases h3 : x = 95
    · have E := Lib.hid (show isSig x = true by simp [isSig, *])
      have h4 : (x == 95) = true := by simp [h3]
      clear h1 h3
      go_enter Try.func27, Try.ntmps27
      go_wp2
      go_ret
      exact ⟨by rw [E.out]; rfl, rfl⟩
    · have h4 : (x == 95) = false := by simpa using h3
      by_cases h5 : x = 46
      · have E := Lib.hid (show isSig x = true by simp [isSig, *])
        have h6 : (x == 46) = true := by simp [h5]
        clear h1 h3 h5
        go_enter Try.func27, Try.ntmps27
        go_wp2
        go_ret
        exact ⟨by rw [E.out]; rfl, rfl⟩
      · have h6 : (x == 46) = false := by simpa using h5
        have E := Lib.hid (show isSig x = false by simp [isSig, *])
        clear h1 h3 h5
        go_enter Try.func27, Try.ntmps27
        go_wp2
        go_ret
        exact ⟨by rw [E.out]; rfl, rfl⟩
theorem iSign_is {x : Int} {r : Bool} (h : isSig x = r) (w : World) :
    Calls Try.prog 27 #[.int .u8 x] w fun e w' => e = .returned (.bool r) ∧ w = w' := by
  have := iSign_any x w
  rwa [h] at this

set_option maxRecDepth 20000 in
set_option maxHeartbeats 4000000 in
theorem iValid_any (s : ByteArray) (w : World) (hs : s.size ≤ 9223372036854775807) :
    Calls Try.prog 10 #[.string s] w fun e w' => e = .returned (.bool (idB s)) ∧ w' = w := by
  by_cases h1 : s.size < 1
  · have E := Lib.hid (idB_none h1)
    go_enter Try.func10, Try.ntmps10
    go_wp2
    go_ret
    exact ⟨by rw [E.out]; rfl, rfl⟩
  · by_cases h2 : 32 < s.size
    · have E := Lib.hid (idB_long h2)
      go_enter Try.func10, Try.ntmps10
      go_wp2
      go_ret
      exact ⟨by rw [E.out]; rfl, rfl⟩
    · have h0 : 0 < s.size := by omega
      have h3 : s.size ≤ 32 := by omega
      obtain ⟨x, hx, hx1, hx2⟩ := idB_head h0
      have HX1 := Lib.hid hx1
      have HX2 := Lib.hid hx2
      clear hx1 hx2
      cases hl : isLet (x : Int)
      · have E := Lib.hid (HX1.out hl)
        have HL := Lib.hid hl
        clear hl
        go_enter Try.func10, Try.ntmps10
        go_wp2_with fail
        refine (iLetter_is HL.out _).mono ?_
        rintro e w1 ⟨rfl, rfl⟩
        go_wp2
        go_ret
        exact ⟨by rw [E.out]; rfl, rfl⟩
      · have HL := Lib.hid hl
        clear hl
        go_enter Try.func10, Try.ntmps10
        go_wp2_with fail
        refine (iLetter_is HL.out _).mono ?_
        rintro e w1 ⟨rfl, rfl⟩
        go_wp2
        go_loop [3, 20] (fun _ i => ∃ k : Nat, k ≤ s.size ∧ i = .int .i64 k ∧ Hid (((s.data.toList.take k).all fun c => isChr (c.toNat : Int)) = true)) (fun _ i => s.size - (intOf i).toNat)
        case atStart => exact ⟨0, Nat.zero_le _, rfl, rfl⟩
        case round =>
          obtain ⟨k, hk, rfl, Hall⟩ := hrel
          by_cases hlt : k < s.size
          · have Ha := Lib.hid (all_take_chr s k hlt)
            have Hno := Lib.hid (not_all_chr s k hlt)
            obtain ⟨y, hy⟩ : ∃ y : Nat, (s[k]'hlt).toNat = y := ⟨_, rfl⟩
            have hu : y < 256 := by rw [← hy]; exact (s[k]'hlt).toNat_lt
            rw [hy] at Ha Hno
            have yes : isChr (y : Int) = true → Hid (((s.data.toList.take (k + 1)).all fun c => isChr (c.toNat : Int)) = true) := fun h => by
              unfold Hid; rw [Ha.out, Hall.out, h]; rfl
            have Hyes := Lib.hid yes
            have HC := Lib.hid (isChr_eq (y : Int))
            clear yes
            cases hq : isLet (y : Int)
            · have HQ := Lib.hid hq
              clear hq
              cases hd : isDig (y : Int)
              · have HD := Lib.hid hd
                clear hd
                cases hg : isSig (y : Int)
                · have HG := Lib.hid hg
                  have E := Lib.hid (Hno.out (by rw [HC.out, HQ.out, HD.out, HG.out]; rfl))
                  clear hg
                  go_wp2_with fail
                  refine (iLetter_is HQ.out _).mono ?_
                  rintro e w1 ⟨rfl, rfl⟩
                  go_wp2_with fail
                  refine (iDigit_is HD.out _).mono ?_
                  rintro e w1 ⟨rfl, rfl⟩
                  go_wp2_with fail
                  refine (iSign_is HG.out _).mono ?_
                  rintro e w1 ⟨rfl, rfl⟩
                  go_wp2
                  go_ret
                  exact ⟨by rw [E.out]; rfl, rfl⟩
                · have HG := Lib.hid hg
                  have E := Hyes.out (by rw [HC.out, HQ.out, HD.out, HG.out]; rfl)
                  clear hg
                  go_wp2_with fail
                  refine (iLetter_is HQ.out _).mono ?_
                  rintro e w1 ⟨rfl, rfl⟩
                  go_wp2_with fail
                  refine (iDigit_is HD.out _).mono ?_
                  rintro e w1 ⟨rfl, rfl⟩
                  go_wp2_with fail
                  refine (iSign_is HG.out _).mono ?_
                  rintro e w1 ⟨rfl, rfl⟩
                  go_wp2
                  go_round
                  case rel => exact ⟨k + 1, by omega, by go_num, E⟩
                  case measure => simp [intOf]; omega
              · have HD := Lib.hid hd
                have E := Hyes.out (by rw [HC.out, HQ.out, HD.out]; rfl)
                clear hd
                go_wp2_with fail
                refine (iLetter_is HQ.out _).mono ?_
                rintro e w1 ⟨rfl, rfl⟩
                go_wp2_with fail
                refine (iDigit_is HD.out _).mono ?_
                rintro e w1 ⟨rfl, rfl⟩
                go_wp2
                go_round
                case rel => exact ⟨k + 1, by omega, by go_num, E⟩
                case measure => simp [intOf]; omega
            · have HQ := Lib.hid hq
              have E := Hyes.out (by rw [HC.out, HQ.out]; rfl)
              clear hq
              go_wp2_with fail
              refine (iLetter_is HQ.out _).mono ?_
              rintro e w1 ⟨rfl, rfl⟩
              go_wp2
              go_round
              case rel => exact ⟨k + 1, by omega, by go_num, E⟩
              case measure => simp [intOf]; omega
          · have h := Hall.out
            have e : s.data.toList.length = s.size := rfl
            rw [show k = s.data.toList.length by omega, List.take_length] at h
            have E := Lib.hid (HX2.out HL.out h3 h)
            clear h e
            go_wp2
            go_ret
            exact ⟨by rw [E.out]; rfl, rfl⟩
theorem valid_is {s : ByteArray} {r : Bool} (h : idB s = r) (w : World) (hs : s.size ≤ 9223372036854775807) :
    Calls Try.prog 10 #[.string s] w fun e w' => e = .returned (.bool r) ∧ w = w' := by
  refine (iValid_any s w hs).mono ?_
  rintro e w' ⟨rfl, rfl⟩
  exact ⟨by rw [h], rfl⟩
theorem valid_tab (s : ByteArray) (w : World) (hs : s.size ≤ 9223372036854775807) :
    Calls Try.prog 10 #[.string s] w fun e w' => e = .returned (.bool (idB s)) ∧ Below w.heap.size w w' := by
  refine (iValid_any s w hs).mono ?_
  rintro e w' ⟨rfl, rfl⟩
  exact ⟨rfl, Below.refl _ _⟩
end Go.Proofs.Yteemacgknmidaaa
