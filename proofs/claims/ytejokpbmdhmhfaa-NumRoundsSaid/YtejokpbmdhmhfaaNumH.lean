/-
  Walks over package num and its reference: Sum.
-/
import Derived.Test.YtejokpbmdhmhfaaNumR
namespace Go.Proofs.Ytejokpbmdhmhfaa
open Go.RowKit

/-- what Sum returns -/
def sumS (l : List Int) : Int × Int := if l.all inRB then chkS l.sum else (0, 1)

set_option maxHeartbeats 1000000 in
theorem sum_any (a : Option Addr) (l : List Int) (n cap : Nat) (w : World) (hn : l.length = n) (hb : n ≤ 1000000) (hl : Ints w a l) :
    Calls Try.prog 19 #[.slice a n cap] w fun e w' => e = .returned (.tuple #[.int .i64 (sumS l).1, .int .i64 (sumS l).2]) ∧ w = w' := by
  have Hn := Lib.hid hn
  clear hn
  go_enter Try.func19, Try.ntmps19
  go_wp2
  go_loop [4, 5, 7, 10] (fun p q _ i => ∃ (k : Nat) (x y : Int), k ≤ n ∧ i = .int .i64 k ∧ p = .int .i64 x ∧ q = .int .i64 y ∧ Hid ((l.take k).all inRB = true) ∧ Hid (x * 1125899906842624 + y = (l.take k).sum) ∧ (0 ≤ y ∧ y < 1125899906842624) ∧ (-(k : Int) ≤ x ∧ x ≤ k)) (fun _ _ _ i => n - (intOf i).toNat)
  case atStart => exact ⟨0, 0, 0, Nat.zero_le _, rfl, rfl, rfl, rfl, rfl, by omega, by omega⟩
  case round =>
    obtain ⟨k, x, y, hk, rfl, rfl, rfl, hall, hsum, hy, hx⟩ := hrel
    by_cases hlt : k < n
    · obtain ⟨b, off, rfl, hc⟩ := hl.at_ (k := k) (by rw [Hn.out]; exact hlt)
      have Hall1 := Lib.hid (take_all_succ inRB l k (by rw [Hn.out]; exact hlt))
      have Hsum1 := Lib.hid (take_sum_succ l k (by rw [Hn.out]; exact hlt))
      have Hlt := Lib.hid (show k < l.length by rw [Hn.out]; exact hlt)
      obtain ⟨z, hz⟩ : ∃ z, l[k]?.getD 0 = z := ⟨_, rfl⟩
      rw [hz] at hc Hall1 Hsum1
      cases hi : inRB z
      · have Hi := Lib.hid hi
        have Hz := Lib.hid hz
        clear hi hz
        go_wp2_with (go_at_call 36; refine (inRange_no _ _ Hi.out).mono ?_; rintro e w' ⟨rfl, rfl⟩)
        go_ret2
        exact ⟨by rw [show sumS l = (0, 1) by simp [sumS, all_false_of inRB l k Hlt.out (by rw [Hz.out]; exact Hi.out)]]; rfl, rfl⟩
      · have hzb := inRB_true.1 hi
        have Hi := Lib.hid hi
        clear hi hz
        by_cases c1 : y + z < 0
        · go_wp2_with (go_at_call 36; refine (inRange_yes _ _ Hi.out).mono ?_; rintro e w' ⟨rfl, rfl⟩)
          go_round
          case rel => exact ⟨k + 1, x - 1, y + z + 1125899906842624, by omega, by go_num, rfl, rfl, by unfold Hid; rw [Hall1.out, hall.out, Hi.out]; rfl, by unfold Hid; rw [Hsum1.out, ← hsum.out]; omega, by omega, by omega⟩
          case measure => simp [intOf]; omega
        · by_cases c2 : 1125899906842624 ≤ y + z
          · go_wp2_with (go_at_call 36; refine (inRange_yes _ _ Hi.out).mono ?_; rintro e w' ⟨rfl, rfl⟩)
            go_round
            case rel => exact ⟨k + 1, x + 1, y + z - 1125899906842624, by omega, by go_num, rfl, rfl, by unfold Hid; rw [Hall1.out, hall.out, Hi.out]; rfl, by unfold Hid; rw [Hsum1.out, ← hsum.out]; omega, by omega, by omega⟩
            case measure => simp [intOf]; omega
          · go_wp2_with (go_at_call 36; refine (inRange_yes _ _ Hi.out).mono ?_; rintro e w' ⟨rfl, rfl⟩)
            go_round
            case rel => exact ⟨k + 1, x, y + z, by omega, by go_num, rfl, rfl, by unfold Hid; rw [Hall1.out, hall.out, Hi.out]; rfl, by unfold Hid; rw [Hsum1.out, ← hsum.out]; omega, by omega, by omega⟩
            case measure => simp [intOf]; omega
    · have hk' : k = l.length := by rw [Hn.out]; omega
      have e1 : sumS l = chkS (x * 1125899906842624 + y) := by
        have h1 := hall.out
        have h2 := hsum.out
        rw [hk', List.take_length] at h1 h2
        simp [sumS, h1, h2]
      clear hall hsum hk'
      by_cases cx : x < -1 ∨ 1 < x
      · have e2 : sumS l = (0, 2) := by
          rw [e1]
          have : inRB (x * 1125899906842624 + y) = false := by rw [inRB_false]; omega
          simp [chkS, this]
        have E2 := Lib.hid e2
        clear e1 e2
        rcases cx with cx | cx
        · go_wp2
          go_ret2
          exact ⟨by rw [E2.out]; rfl, rfl⟩
        · have cx' : ¬ x < -1 := by omega
          go_wp2
          go_ret2
          exact ⟨by rw [E2.out]; rfl, rfl⟩
      · have cx1 : ¬ x < -1 := by omega
        have cx2 : ¬ 1 < x := by omega
        have E1 := Lib.hid e1
        clear e1 cx
        go_wp2_with (go_at_call 33; refine (checkResult_any _ _).mono ?_; rintro e w' ⟨rfl, rfl⟩)
        go_ret2
        exact ⟨by rw [E1.out]; rfl, rfl⟩

theorem tdiv_facts (z : Int) : ∃ q r : Int, z.tmod 33554432 = r ∧ z = 33554432 * q + r ∧ -33554432 < r ∧ r < 33554432 ∧
    (z - r).tdiv 33554432 = q ∧ (z - (r + 33554432)).tdiv 33554432 = q - 1 := by
  refine ⟨z.tdiv 33554432, z.tmod 33554432, rfl, ?_, ?_, ?_, ?_, ?_⟩
  · have := Int.mul_tdiv_add_tmod z 33554432; omega
  · have h1 : (z.tmod 33554432).natAbs < 33554432 := by rw [Int.natAbs_tmod]; exact Nat.mod_lt _ (by decide)
    revert h1
    generalize z.tmod 33554432 = r
    omega
  · have h1 : (z.tmod 33554432).natAbs < 33554432 := by rw [Int.natAbs_tmod]; exact Nat.mod_lt _ (by decide)
    revert h1
    generalize z.tmod 33554432 = r
    omega
  · have h1 := Int.mul_tdiv_add_tmod z 33554432
    have h2 : z - z.tmod 33554432 = 33554432 * z.tdiv 33554432 := by omega
    rw [h2, Int.mul_tdiv_cancel_left _ (by decide)]
  · have h1 := Int.mul_tdiv_add_tmod z 33554432
    have h2 : z - (z.tmod 33554432 + 33554432) = 33554432 * (z.tdiv 33554432 - 1) := by omega
    rw [h2, Int.mul_tdiv_cancel_left _ (by decide)]

set_option maxHeartbeats 1000000 in
theorem rSum_any (a : Option Addr) (l : List Int) (n cap : Nat) (w : World) (hn : l.length = n) (hb : n ≤ 20000) (hl : Ints w a l) :
    Calls Try.prog 20 #[.slice a n cap] w fun e w' => e = .returned (.tuple #[.int .i64 (sumS l).1, .int .i64 (sumS l).2]) ∧ w = w' := by
  have Hn := Lib.hid hn
  clear hn
  go_enter Try.func20, Try.ntmps20
  go_wp2
  go_loop [4, 5, 6, 7] (fun p q i _ => ∃ (k : Nat) (x y : Int), k ≤ n ∧ i = .int .i64 k ∧ p = .int .i64 x ∧ q = .int .i64 y ∧ Hid ((l.take k).all inRB = true) ∧ Hid (x * 33554432 + y = (l.take k).sum) ∧ (0 ≤ y ∧ y ≤ k * 33554432) ∧ (-(33554434 * (k : Int)) ≤ x ∧ x ≤ 33554434 * k)) (fun _ _ i _ => n - (intOf i).toNat)
  case atStart => exact ⟨0, 0, 0, Nat.zero_le _, rfl, rfl, rfl, rfl, rfl, by omega, by omega⟩
  case round =>
    obtain ⟨k, x, y, hk, rfl, rfl, rfl, hall, hsum, hy, hx⟩ := hrel
    by_cases hlt : k < n
    · obtain ⟨b, off, rfl, hc⟩ := hl.at_ (k := k) (by rw [Hn.out]; exact hlt)
      have Hall1 := Lib.hid (take_all_succ inRB l k (by rw [Hn.out]; exact hlt))
      have Hsum1 := Lib.hid (take_sum_succ l k (by rw [Hn.out]; exact hlt))
      have Hlt := Lib.hid (show k < l.length by rw [Hn.out]; exact hlt)
      obtain ⟨z, hz⟩ : ∃ z, l[k]?.getD 0 = z := ⟨_, rfl⟩
      rw [hz] at hc Hall1 Hsum1
      cases hi : inRB z
      · have Hi := Lib.hid hi
        have Hz := Lib.hid hz
        clear hi hz
        go_wp2_with (go_at_call 24; refine (rIn_no _ _ Hi.out).mono ?_; rintro e w' ⟨rfl, rfl⟩)
        go_ret2
        exact ⟨by rw [show sumS l = (0, 1) by simp [sumS, all_false_of inRB l k Hlt.out (by rw [Hz.out]; exact Hi.out)]]; rfl, rfl⟩
      · have hzb := inRB_true.1 hi
        have Hi := Lib.hid hi
        clear hi hz
        obtain ⟨q0, r0, hr, hzq, hr1, hr2, hq, hq'⟩ := tdiv_facts z
        have Hzq := Lib.hid hzq
        have hqb : -33554434 < q0 ∧ q0 < 33554434 := by omega
        clear hzq
        by_cases c1 : r0 < 0
        · clear hq
          go_wp2_with (go_at_call 24; refine (rIn_yes _ _ Hi.out).mono ?_; rintro e w' ⟨rfl, rfl⟩)
          go_round
          case rel => exact ⟨k + 1, x + (q0 - 1), y + (r0 + 33554432), by omega, by go_num, rfl, rfl, by unfold Hid; rw [Hall1.out, hall.out, Hi.out]; rfl, by unfold Hid; rw [Hsum1.out, ← hsum.out, Hzq.out]; omega, by omega, by omega⟩
          case measure => simp [intOf]; omega
        · clear hq'
          go_wp2_with (go_at_call 24; refine (rIn_yes _ _ Hi.out).mono ?_; rintro e w' ⟨rfl, rfl⟩)
          go_round
          case rel => exact ⟨k + 1, x + q0, y + r0, by omega, by go_num, rfl, rfl, by unfold Hid; rw [Hall1.out, hall.out, Hi.out]; rfl, by unfold Hid; rw [Hsum1.out, ← hsum.out, Hzq.out]; omega, by omega, by omega⟩
          case measure => simp [intOf]; omega
    · have hk' : k = l.length := by rw [Hn.out]; omega
      have e1 : sumS l = chkS ((x + y / 33554432) * 33554432 + y % 33554432) := by
        have h1 := hall.out
        have h2 := hsum.out
        rw [hk', List.take_length] at h1 h2
        have : (x + y / 33554432) * 33554432 + y % 33554432 = l.sum := by omega
        simp [sumS, h1, this]
      clear hall hsum hk'
      by_cases cx : x + y / 33554432 < -33554432 ∨ 33554432 < x + y / 33554432 ∨ (x + y / 33554432 = 33554432 ∧ 0 < y % 33554432)
      · have e2 : sumS l = (0, 2) := by
          rw [e1]
          have : inRB ((x + y / 33554432) * 33554432 + y % 33554432) = false := by rw [inRB_false]; omega
          simp [chkS, this]
        have E2 := Lib.hid e2
        clear e1 e2
        rcases cx with cx | cx | ⟨cx, cy⟩
        · go_wp2
          go_ret2
          exact ⟨by rw [E2.out]; rfl, rfl⟩
        · have cx' : ¬ x + y / 33554432 < -33554432 := by omega
          go_wp2
          go_ret2
          exact ⟨by rw [E2.out]; rfl, rfl⟩
        · have cx' : ¬ x + y / 33554432 < -33554432 := by omega
          have cx2 : ¬ 33554432 < x + y / 33554432 := by omega
          have cx3 : (x + y / 33554432 == 33554432) = true := by simp [cx]
          have Cx := Lib.hid cx
          clear cx
          go_wp2
          go_ret2
          exact ⟨by rw [E2.out]; rfl, rfl⟩
      · have cx1 : ¬ x + y / 33554432 < -33554432 := by omega
        have cx2 : ¬ 33554432 < x + y / 33554432 := by omega
        have e2 : sumS l = ((x + y / 33554432) * 33554432 + y % 33554432, 0) := by
          rw [e1]
          have : inRB ((x + y / 33554432) * 33554432 + y % 33554432) = true := by rw [inRB_true]; omega
          simp [chkS, this]
        have E2 := Lib.hid e2
        clear e1 e2
        by_cases c3 : x + y / 33554432 = 33554432
        · have cx3 : (x + y / 33554432 == 33554432) = true := by simp [c3]
          have cy : ¬ 0 < y % 33554432 := by omega
          have C3 := Lib.hid c3
          clear c3 cx
          go_wp2
          go_ret2
          exact ⟨by rw [E2.out]; rfl, rfl⟩
        · have cx3 : (x + y / 33554432 == 33554432) = false := by simp [c3]
          clear c3 cx
          go_wp2
          go_ret2
          exact ⟨by rw [E2.out]; rfl, rfl⟩
end Go.Proofs.Ytejokpbmdhmhfaa
