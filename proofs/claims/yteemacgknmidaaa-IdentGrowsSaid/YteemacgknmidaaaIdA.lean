/-
  Walks over the reference of package ident: letter, Valid, Find, Name; the law's short.
-/
import Derived.Test.YteemacgknmidaaaStrs
namespace Go.Proofs.Yteemacgknmidaaa
set_option linter.unusedVariables false
set_option linter.unusedSimpArgs false
open Go.RowKit

/-- a letter; a byte of an identifier -/
def isLet (x : Int) : Bool := (decide (65 ≤ x) && decide (x ≤ 90)) || (decide (97 ≤ x) && decide (x ≤ 122))
def isChr (x : Int) : Bool := isLet x || (decide (48 ≤ x) && decide (x ≤ 57)) || decide (x = 45) || decide (x = 95) || decide (x = 46)
/-- an identifier -/
def idL (l : List UInt8) : Bool := decide (1 ≤ l.length) && decide (l.length ≤ 32) && isLet ((l.headD 0).toNat : Int) && l.all fun c => isChr (c.toNat : Int)
def idB (s : ByteArray) : Bool := idL s.data.toList

set_option maxHeartbeats 1000000 in
theorem rLetter_any (x : Int) (w : World) :
    Calls Try.prog 28 #[.int .u8 x] w fun e w' => e = .returned (.bool (isLet x)) ∧ w = w' := by
  by_cases h1 : 65 ≤ x
  · by_cases h2 : x ≤ 90
    · have E := Lib.hid (show isLet x = true by simp [isLet, *])
      go_enter Try.func28, Try.ntmps28
      go_wp2
      go_ret
      exact ⟨by rw [E.out]; rfl, rfl⟩
    · by_cases h3 : 97 ≤ x
      · by_cases h4 : x ≤ 122
        · have E := Lib.hid (show isLet x = true by simp [isLet, *])
          go_enter Try.func28, Try.ntmps28
          go_wp2
          go_ret
          exact ⟨by rw [E.out]; rfl, rfl⟩
        · have E := Lib.hid (show isLet x = false by simp [isLet, *])
          go_enter Try.func28, Try.ntmps28
          go_wp2
          go_ret
          exact ⟨by rw [E.out]; rfl, rfl⟩
      · have E := Lib.hid (show isLet x = false by simp [isLet, *])
        go_enter Try.func28, Try.ntmps28
        go_wp2
        go_ret
        exact ⟨by rw [E.out]; rfl, rfl⟩
  · have h3 : ¬ 97 ≤ x := by omega
    have E := Lib.hid (show isLet x = false by simp [isLet, *])
    go_enter Try.func28, Try.ntmps28
    go_wp2
    go_ret
    exact ⟨by rw [E.out]; rfl, rfl⟩
theorem rLetter_is {x : Int} {r : Bool} (h : isLet x = r) (w : World) :
    Calls Try.prog 28 #[.int .u8 x] w fun e w' => e = .returned (.bool r) ∧ w = w' := by
  have := rLetter_any x w
  rwa [h] at this

theorem all_take_chr (s : ByteArray) (k : Nat) (hk : k < s.size) : ((s.data.toList.take (k + 1)).all fun c => isChr (c.toNat : Int)) = (((s.data.toList.take k).all fun c => isChr (c.toNat : Int)) && isChr ((s[k]'hk).toNat : Int)) := by
  have h : k < s.data.toList.length := by simpa using hk
  rw [List.take_add_one, List.getElem?_eq_getElem h]
  simp [List.all_append]
  rfl
theorem not_all_chr (s : ByteArray) (k : Nat) (hk : k < s.size) (h : isChr ((s[k]'hk).toNat : Int) = false) : idB s = false := by
  unfold idB idL
  have : (s.data.toList.all fun c => isChr (c.toNat : Int)) = false := by
    rw [List.all_eq_false]
    exact ⟨s[k], by
      have hl : k < s.data.toList.length := by simpa using hk
      exact List.getElem_mem hl, by simpa using h⟩
  rw [this, Bool.and_false]
theorem idB_none {s : ByteArray} (h : s.size < 1) : idB s = false := by
  unfold idB idL
  have : s.data.toList.length = s.size := rfl
  rw [show decide (1 ≤ s.data.toList.length) = false from decide_eq_false (by omega)]
  rfl
theorem idB_long {s : ByteArray} (h : 32 < s.size) : idB s = false := by
  unfold idB idL
  have : s.data.toList.length = s.size := rfl
  rw [show decide (s.data.toList.length ≤ 32) = false from decide_eq_false (by omega), Bool.and_false]
  rfl
theorem idB_head {s : ByteArray} (h0 : 0 < s.size) : ∃ x : Nat, (s[0]'h0).toNat = x ∧ (isLet (x : Int) = false → idB s = false) ∧ (isLet (x : Int) = true → s.size ≤ 32 → (s.data.toList.all fun c => isChr (c.toNat : Int)) = true → idB s = true) := by
  have e : (s.data.toList.headD 0) = s[0] := by
    have hl : 0 < s.data.toList.length := by simpa using h0
    rw [List.headD_eq_head?_getD, List.head?_eq_getElem?, List.getElem?_eq_getElem hl]
    rfl
  refine ⟨_, rfl, fun h => ?_, fun h h1 h2 => ?_⟩
  · unfold idB idL
    rw [e, h, Bool.and_false]
    rfl
  · unfold idB idL
    have hl : s.data.toList.length = s.size := rfl
    rw [e, h, h2, hl]
    simp
    omega

set_option maxRecDepth 20000 in
set_option maxHeartbeats 4000000 in
theorem rValid_any (s : ByteArray) (w : World) (hs : s.size ≤ 9223372036854775807) :
    Calls Try.prog 11 #[.string s] w fun e w' => e = .returned (.bool (idB s)) ∧ w' = w := by
  by_cases h1 : s.size < 1
  · have E := Lib.hid (idB_none h1)
    go_enter Try.func11, Try.ntmps11
    go_wp2
    go_ret
    exact ⟨by rw [E.out]; rfl, rfl⟩
  · by_cases h2 : 32 < s.size
    · have E := Lib.hid (idB_long h2)
      go_enter Try.func11, Try.ntmps11
      go_wp2
      go_ret
      exact ⟨by rw [E.out]; rfl, rfl⟩
    · have h0 : 0 < s.size := by omega
      have h3 : s.size ≤ 32 := by omega
      obtain ⟨x, hx, hx1, hx2⟩ := idB_head h0
      have HX1 := Lib.hid hx1
      have HX2 := Lib.hid hx2
      clear hx1 hx2
      cases hl : isLet (x : Int)
      · have E := Lib.hid (HX1.out hl)
        have HL := Lib.hid hl
        clear hl
        go_enter Try.func11, Try.ntmps11
        go_wp2_with fail
        refine (rLetter_is HL.out _).mono ?_
        rintro e w1 ⟨rfl, rfl⟩
        go_wp2
        go_ret
        exact ⟨by rw [E.out]; rfl, rfl⟩
      · have HL := Lib.hid hl
        clear hl
        go_enter Try.func11, Try.ntmps11
        go_wp2_with fail
        refine (rLetter_is HL.out _).mono ?_
        rintro e w1 ⟨rfl, rfl⟩
        go_wp2
        go_loop [3, 4] (fun i _ => ∃ k : Nat, k ≤ s.size ∧ i = .int .i64 k ∧ Hid (((s.data.toList.take k).all fun c => isChr (c.toNat : Int)) = true)) (fun i _ => s.size - (intOf i).toNat)
        case atStart => exact ⟨0, Nat.zero_le _, rfl, rfl⟩
        case round =>
          obtain ⟨k, hk, rfl, Hall⟩ := hrel
          by_cases hlt : k < s.size
          · have Ha := Lib.hid (all_take_chr s k hlt)
            have Hno := Lib.hid (not_all_chr s k hlt)
            obtain ⟨y, hy⟩ : ∃ y : Nat, (s[k]'hlt).toNat = y := ⟨_, rfl⟩
            have hu : y < 256 := by rw [← hy]; exact (s[k]'hlt).toNat_lt
            rw [hy] at Ha Hno
            have yes : isChr (y : Int) = true → Hid (((s.data.toList.take (k + 1)).all fun c => isChr (c.toNat : Int)) = true) := fun h => by
              unfold Hid; rw [Ha.out, Hall.out, h]; rfl
            have Hyes := Lib.hid yes
            clear yes
            cases hq : isLet (y : Int)
            · have HQ := Lib.hid hq
              have hch : isChr (y : Int) = ((decide (48 ≤ (y : Int)) && decide ((y : Int) ≤ 57)) || decide ((y : Int) = 45) || decide ((y : Int) = 95) || decide ((y : Int) = 46)) := by unfold isChr; rw [hq]; rfl
              have HC := Lib.hid hch
              clear hq hch
              by_cases d1 : 48 ≤ y ∧ y ≤ 57
              · obtain ⟨d1, d2⟩ := d1
                have E := Hyes.out (by rw [HC.out]; simp; omega)
                go_wp2_with fail
                refine (rLetter_is HQ.out _).mono ?_
                rintro e w1 ⟨rfl, rfl⟩
                go_wp2
                go_round
                case rel => exact ⟨k + 1, by omega, by go_num, E⟩
                case measure => simp [intOf]; omega
              · by_cases d3 : y = 45 ∨ y = 46 ∨ y = 95
                · have E := Hyes.out (by rw [HC.out]; simp; omega)
                  rcases d3 with d3 | d3 | d3
                  · have n1 : ((y : Int) != 45) = false := by simp; omega
                    have n2 : y < 48 := by omega
                    clear d1 d3
                    go_wp2_with fail
                    refine (rLetter_is HQ.out _).mono ?_
                    rintro e w1 ⟨rfl, rfl⟩
                    go_wp2
                    go_round
                    case rel => exact ⟨k + 1, by omega, by go_num, E⟩
                    case measure => simp [intOf]; omega
                  · have n1 : ((y : Int) != 46) = false := by simp; omega
                    have n2 : y < 48 := by omega
                    have n3 : 45 < y := by omega
                    clear d1 d3
                    go_wp2_with fail
                    refine (rLetter_is HQ.out _).mono ?_
                    rintro e w1 ⟨rfl, rfl⟩
                    go_wp2
                    go_round
                    case rel => exact ⟨k + 1, by omega, by go_num, E⟩
                    case measure => simp [intOf]; omega
                  · have n1 : ((y : Int) != 95) = false := by simp; omega
                    have n2 : 57 < y := by omega
                    clear d1 d3
                    go_wp2_with fail
                    refine (rLetter_is HQ.out _).mono ?_
                    rintro e w1 ⟨rfl, rfl⟩
                    go_wp2
                    go_round
                    case rel => exact ⟨k + 1, by omega, by go_num, E⟩
                    case measure => simp [intOf]; omega
                · have E := Lib.hid (Hno.out (by rw [HC.out]; simp; omega))
                  have n1 : ((y : Int) != 45) = true := by simp; omega
                  have n2 : ((y : Int) != 46) = true := by simp; omega
                  have n3 : ((y : Int) != 95) = true := by simp; omega
                  by_cases d4 : y < 48
                  · clear d1 d3
                    go_wp2_with fail
                    refine (rLetter_is HQ.out _).mono ?_
                    rintro e w1 ⟨rfl, rfl⟩
                    go_wp2
                    go_ret
                    exact ⟨by rw [E.out]; rfl, rfl⟩
                  · have d5 : 57 < y := by omega
                    clear d1 d3 d4
                    go_wp2_with fail
                    refine (rLetter_is HQ.out _).mono ?_
                    rintro e w1 ⟨rfl, rfl⟩
                    go_wp2
                    go_ret
                    exact ⟨by rw [E.out]; rfl, rfl⟩
            · have E := Hyes.out (by unfold isChr; rw [hq]; rfl)
              have HQ := Lib.hid hq
              clear hq
              go_wp2_with fail
              refine (rLetter_is HQ.out _).mono ?_
              rintro e w1 ⟨rfl, rfl⟩
              go_wp2
              go_round
              case rel => exact ⟨k + 1, by omega, by go_num, E⟩
              case measure => simp [intOf]; omega
          · have h := Hall.out
            have e : s.data.toList.length = s.size := rfl
            rw [show k = s.data.toList.length by omega, List.take_length] at h
            have E := Lib.hid (HX2.out HL.out h3 h)
            clear h e
            go_wp2
            go_ret
            exact ⟨by rw [E.out]; rfl, rfl⟩
theorem rValid_is {s : ByteArray} {r : Bool} (h : idB s = r) (w : World) (hs : s.size ≤ 9223372036854775807) :
    Calls Try.prog 11 #[.string s] w fun e w' => e = .returned (.bool r) ∧ w' = w := by
  have := rValid_any s w hs
  rwa [h] at this
end Go.Proofs.Yteemacgknmidaaa
