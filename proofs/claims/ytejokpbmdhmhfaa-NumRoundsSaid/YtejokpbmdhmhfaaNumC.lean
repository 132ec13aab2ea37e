/-
  Walks over package num and its reference: the long division, Scale.
-/
import Derived.Test.YtejokpbmdhmhfaaNumB
import Derived.Test.YtejokpbmdhmhfaaNumPlain
import Derived.Laws.BitsAllLaws
import Derived.Laws.BitsLemmas
namespace Go.Proofs.Ytejokpbmdhmhfaa
open Go.RowKit

theorem ofInt_i64 (a : Nat) (ha : a < 9223372036854775808) : (BitVec.ofInt 64 (a : Int)).toNat = a := by
  rw [BitVec.ofInt_natCast, BitVec.toNat_ofNat]; exact Nat.mod_eq_of_lt (by omega)
theorem i64_and_nat (a b : Nat) (ha : a < 9223372036854775808) (hb : b < 9223372036854775808) : bits .and .i64 (a : Int) (b : Int) = ((a &&& b : Nat) : Int) := by
  have hx : a &&& b < 2 ^ 63 := Nat.and_lt_two_pow _ (by omega)
  show IntKind.i64.wrap ((BitVec.ofInt 64 (a : Int) &&& BitVec.ofInt 64 (b : Int)).toNat : Int) = _
  rw [BitVec.toNat_and, ofInt_i64 a ha, ofInt_i64 b hb, IntKind.wrap_i64]
  omega

/-- quotient, rest, and whether the quotient is in range -/
def dv (a b c : Nat) : Nat × Nat × Bool := if a * b / c ≤ 1125899906842624 then (a * b / c, a * b % c, true) else (0, 0, false)

set_option maxHeartbeats 1000000 in
theorem divP_any (a b c : Nat) (ha : a ≤ 1125899906842624) (hb : b ≤ 1125899906842624) (hc : 1 ≤ c) (hc' : c ≤ 1125899906842624) (w : World) :
    Calls Try.prog 37 #[.int .i64 a, .int .i64 b, .int .i64 c] w fun e w' =>
      e = .returned (.tuple #[.int .i64 (dv a b c).1, .int .i64 (dv a b c).2.1, .bool (dv a b c).2.2]) ∧ ∃ n, w' = w.drewN n := by
  have hac : (a : Int) / c ≤ 1125899906842624 ∧ 0 ≤ (a : Int) / c := by
    have h1 : a / c ≤ a := Nat.div_le_self _ _
    have h2 : (0 : Int) ≤ (a : Int) / c := Int.ediv_nonneg (by omega) (by omega)
    omega
  have hamc : (a : Int) % c < c ∧ 0 ≤ (a : Int) % c := by
    exact ⟨Int.emod_lt_of_pos _ (by omega), Int.emod_nonneg _ (by omega)⟩
  go_enter Try.func37, Try.ntmps37
  go_wp2
  go_loopw [6, 7, 9] (fun q r bit wr => ∃ k B Q R n : Nat, k ≤ 51 ∧ Hid (B = 2 ^ k / 2) ∧ Hid (Q = a * (b / 2 ^ k) / c) ∧ Hid (R = a * (b / 2 ^ k) % c) ∧ B ≤ 1125899906842624 ∧ Q ≤ 1125899906842624 ∧ R < c ∧
      bit = .int .i64 B ∧ q = .int .i64 Q ∧ r = .int .i64 R ∧ wr = w.drewN n) (fun _ _ bit _ => (intOf bit).toNat)
  case atStart =>
    have hb0 : b / 2 ^ 51 = 0 := Nat.div_eq_of_lt (by omega)
    exact ⟨51, 1125899906842624, 0, 0, 0, by omega, rfl, by unfold Hid; rw [hb0]; simp, by unfold Hid; rw [hb0]; simp, by omega, by omega, by omega, rfl, rfl, rfl, rfl⟩
  case round =>
    obtain ⟨k, B, Q, R, n, hk, hB, hQ, hR, hBm, hQm, hRc, rfl, rfl, rfl, rfl⟩ := hrel
    by_cases hB0 : B = 0
    · subst hB0
      go_wp2
      go_ret3
      have hk0 : k = 0 := by
        have h := hB.out
        cases k with
        | zero => rfl
        | succ j => rw [Nat.pow_succ] at h; have := Nat.two_pow_pos j; omega
      subst hk0
      have e1 : Q = a * b / c := by have := hQ.out; simpa using this
      have e2 : R = a * b % c := by have := hR.out; simpa using this
      exact ⟨by simp [dv, ← e1, ← e2, hQm], n, rfl⟩
    · obtain ⟨j, rfl⟩ : ∃ j, k = j + 1 := by
        cases k with
        | zero => exact absurd hB.out (by omega)
        | succ j => exact ⟨j, rfl⟩
      have hBj : B = 2 ^ j := by have := hB.out; rw [Nat.pow_succ] at this; omega
      have hnext : Hid (B / 2 = 2 ^ j / 2) := by unfold Hid; rw [hBj]
      have hand : b &&& B = (b / 2 ^ j % 2) * B := by rw [hBj]; exact and_pow b j
      have hpre := bits_prefix b j
      have hmono := prefix_le a b c j
      have HQ := Lib.hid hQ.out
      have HR := Lib.hid hR.out
      clear hQ hR hB
      have hBp : 0 < B := by omega
      clear hB0 hBj
      have hz := i64_and_nat b B (by omega) (by omega)
      rcases Nat.mod_two_eq_zero_or_one (b / 2 ^ j) with ht | ht
      · rw [ht] at hpre hand
        rw [Nat.zero_mul] at hand
        rw [hand] at hz
        have step := div_step a (b / 2 ^ (j + 1)) c 0 hc
        rw [← hpre, ← HQ.out, ← HR.out, Nat.zero_mul, Nat.zero_mul, Nat.add_zero, Nat.add_zero] at step
        have S1 := Lib.hid step.1
        have S2 := Lib.hid step.2
        have hs := hmono
        rw [← step.1] at hs
        have hd0 : (0 : Int) ≤ 2 * (R : Int) / c := Int.ediv_nonneg (by omega) (by omega)
        have hd1 : 2 * (R : Int) / c ≤ 2 := by
          have : 2 * (R : Int) / c < 2 := Int.ediv_lt_of_lt_mul (by omega) (by omega)
          omega
        have hm0 : (0 : Int) ≤ 2 * (R : Int) % c := Int.emod_nonneg _ (by omega)
        have hm1 : 2 * (R : Int) % c < c := Int.emod_lt_of_pos _ (by omega)
        clear step hpre hand ht hmono
        by_cases hov : 2 * (Q : Int) + 2 * (R : Int) / c ≤ 1125899906842624
        · go_wp2
          go_region
          go_wp2
          go_roundw
          case rel => exact ⟨j, B / 2, 2 * Q + 2 * R / c, 2 * R % c, _, by omega, hnext, S1.out, S2.out, by omega, by have : ((2 * Q + 2 * R / c : Nat) : Int) = 2 * (Q : Int) + 2 * (R : Int) / c := (by simp); omega, Nat.mod_lt _ hc, by go_num, by go_num, by go_num, rfl⟩
          case measure => simp [intOf]; omega
        · have hbig : ¬ a * b / c ≤ 1125899906842624 := by
            have : ((2 * Q + 2 * R / c : Nat) : Int) = 2 * (Q : Int) + 2 * (R : Int) / c := by simp
            omega
          have Hbig := Lib.hid hbig
          clear hbig
          go_wp2
          go_region
          go_wp2
          go_ret3
          refine ⟨?_, _, rfl⟩
          simp [dv, Hbig.out]
      · rw [ht] at hpre hand
        rw [Nat.one_mul] at hand
        rw [hand] at hz
        have step := div_step a (b / 2 ^ (j + 1)) c 1 hc
        rw [← hpre, ← HQ.out, ← HR.out, Nat.one_mul, Nat.one_mul] at step
        have S1 := Lib.hid step.1
        have S2 := Lib.hid step.2
        have hs := hmono
        rw [← step.1] at hs
        have hd0 : (0 : Int) ≤ (2 * (R : Int) + (a : Int) % c) / c := Int.ediv_nonneg (by omega) (by omega)
        have hd1 : (2 * (R : Int) + (a : Int) % c) / c ≤ 3 := by
          have : (2 * (R : Int) + (a : Int) % c) / c < 3 := Int.ediv_lt_of_lt_mul (by omega) (by omega)
          omega
        have hm0 : (0 : Int) ≤ (2 * (R : Int) + (a : Int) % c) % c := Int.emod_nonneg _ (by omega)
        have hm1 : (2 * (R : Int) + (a : Int) % c) % c < c := Int.emod_lt_of_pos _ (by omega)
        clear step hpre hand ht hmono
        by_cases hov : 2 * (Q : Int) + (a : Int) / c + (2 * (R : Int) + (a : Int) % c) / c ≤ 1125899906842624
        · go_wp2
          go_region
          go_wp2
          go_region
          go_wp2
          go_roundw
          case rel => exact ⟨j, B / 2, 2 * Q + a / c + (2 * R + a % c) / c, (2 * R + a % c) % c, _, by omega, hnext, S1.out, S2.out, by omega, by have : ((2 * Q + a / c + (2 * R + a % c) / c : Nat) : Int) = 2 * (Q : Int) + (a : Int) / c + (2 * (R : Int) + (a : Int) % c) / c := (by simp); omega, Nat.mod_lt _ hc, by go_num, by go_num, by go_num, rfl⟩
          case measure => simp [intOf]; omega
        · have hbig : ¬ a * b / c ≤ 1125899906842624 := by
            have : ((2 * Q + a / c + (2 * R + a % c) / c : Nat) : Int) = 2 * (Q : Int) + (a : Int) / c + (2 * (R : Int) + (a : Int) % c) / c := by simp
            omega
          have Hbig := Lib.hid hbig
          clear hbig
          go_wp2
          go_region
          go_wp2
          go_region
          go_wp2
          go_ret3
          refine ⟨?_, _, rfl⟩
          simp [dv, Hbig.out]

set_option maxHeartbeats 1000000 in
theorem divR_any (a b c : Nat) (ha : a ≤ 1125899906842624) (hb : b ≤ 1125899906842624) (hc : 1 ≤ c) (hc' : c ≤ 1125899906842624) (w : World) :
    Calls Try.prog 39 #[.int .i64 a, .int .i64 b, .int .i64 c] w fun e w' =>
      e = .returned (.tuple #[.int .i64 (dv a b c).1, .int .i64 (dv a b c).2.1, .bool (dv a b c).2.2]) ∧ w = w' := by
  go_enter Try.func39, Try.ntmps39
  go_wp2
  go_loop [9, 10, 11] (fun q r bit => ∃ k Q R : Nat, k ≤ 51 ∧ Hid (Q = a / 2 ^ k * b / c) ∧ Hid (R = a / 2 ^ k * b % c) ∧ Q ≤ 1125899906842624 ∧ R < c ∧
      bit = .int .i64 (k - 1) ∧ q = .int .i64 Q ∧ r = .int .i64 R) (fun _ _ bit => (intOf bit + 1).toNat)
  case atStart =>
    have hb0 : a / 2 ^ 51 = 0 := Nat.div_eq_of_lt (by omega)
    exact ⟨51, 0, 0, by omega, by unfold Hid; rw [hb0]; simp, by unfold Hid; rw [hb0]; simp, by omega, by omega, rfl, rfl, rfl⟩
  case round =>
    obtain ⟨k, Q, R, hk, hQ, hR, hQm, hRc, rfl, rfl, rfl⟩ := hrel
    by_cases hB0 : k = 0
    · subst hB0
      have e1 : Q = a * b / c := by have := hQ.out; simpa using this
      have e2 : R = a * b % c := by have := hR.out; simpa using this
      have E1 := Lib.hid e1
      have E2 := Lib.hid e2
      clear e1 e2
      go_wp2
      go_ret3
      exact ⟨by simp [dv, ← E1.out, ← E2.out, hQm], rfl⟩
    · obtain ⟨j, rfl⟩ : ∃ j, k = j + 1 := ⟨k - 1, by omega⟩
      have hpre := bits_prefix a j
      have hmono := prefix_le' b a c j
      have HQ := Lib.hid hQ.out
      have HR := Lib.hid hR.out
      clear hQ hR hB0
      have ej : ((j + 1 : Nat) : Int) - 1 = j := by omega
      rw [ej]
      clear ej
      have ha0 : (0 : Int) ≤ (a : Int) / 2 ^ j := Int.ediv_nonneg (by omega) (Int.le_of_lt (Int.pow_pos (by omega)))
      rcases Nat.mod_two_eq_zero_or_one (a / 2 ^ j) with ht | ht
      · rw [ht] at hpre
        have htb : (((a : Int) / 2 ^ j) % 2 == 1) = false := by
          have : (((a / 2 ^ j % 2 : Nat) : Int)) = (a : Int) / 2 ^ j % 2 := by simp
          rw [← this, ht]; rfl
        have step := div_step' b (a / 2 ^ (j + 1)) c 0 hc
        rw [← hpre, ← HQ.out, ← HR.out, Nat.zero_mul, Nat.add_zero] at step
        have S1 := Lib.hid step.1
        have S2 := Lib.hid step.2
        have hs := hmono
        rw [← step.1] at hs
        have hd0 : (0 : Int) ≤ (2 * (R : Int)) / c := Int.ediv_nonneg (by omega) (by omega)
        have hd1 : (2 * (R : Int)) / c ≤ 1125899906842626 := by
          have h1 : (2 * (R : Int)) / c ≤ 2 * (R : Int) := Int.ediv_le_self _ (by omega)
          have h2 : (2 * (R : Int)) / c < 1125899906842627 := Int.ediv_lt_of_lt_mul (by omega) (by have : (b : Int) ≤ 1125899906842624 * c := (by have := Int.mul_le_mul_of_nonneg_left (show (1 : Int) ≤ c by omega) (show (0 : Int) ≤ 1125899906842624 by omega); omega); omega)
          omega
        have hm0 : (0 : Int) ≤ (2 * (R : Int)) % c := Int.emod_nonneg _ (by omega)
        have hm1 : (2 * (R : Int)) % c < c := Int.emod_lt_of_pos _ (by omega)
        clear step hpre hmono ht
        by_cases hov : 2 * (Q : Int) + (2 * (R : Int)) / c ≤ 1125899906842624
        · go_wp2
          go_round
          case rel => exact ⟨j, 2 * Q + (2 * R) / c, (2 * R) % c, by omega, S1.out, S2.out, by have : ((2 * Q + (2 * R) / c : Nat) : Int) = 2 * (Q : Int) + (2 * (R : Int)) / c := (by simp); omega, Nat.mod_lt _ hc, rfl, by go_num, by go_num⟩
          case measure => simp [intOf]
        · have hbig : ¬ a * b / c ≤ 1125899906842624 := by
            have : ((2 * Q + (2 * R) / c : Nat) : Int) = 2 * (Q : Int) + (2 * (R : Int)) / c := by simp
            omega
          have Hbig := Lib.hid hbig
          clear hbig
          go_wp2
          go_ret3
          refine ⟨?_, rfl⟩
          simp [dv, Hbig.out]
      · rw [ht] at hpre
        have htb : (((a : Int) / 2 ^ j) % 2 == 1) = true := by
          have : (((a / 2 ^ j % 2 : Nat) : Int)) = (a : Int) / 2 ^ j % 2 := by simp
          rw [← this, ht]; rfl
        have step := div_step' b (a / 2 ^ (j + 1)) c 1 hc
        rw [← hpre, ← HQ.out, ← HR.out, Nat.one_mul] at step
        have S1 := Lib.hid step.1
        have S2 := Lib.hid step.2
        have hs := hmono
        rw [← step.1] at hs
        have hd0 : (0 : Int) ≤ (2 * (R : Int) + (b : Int)) / c := Int.ediv_nonneg (by omega) (by omega)
        have hd1 : (2 * (R : Int) + (b : Int)) / c ≤ 1125899906842626 := by
          have h1 : (2 * (R : Int) + (b : Int)) / c ≤ 2 * (R : Int) + (b : Int) := Int.ediv_le_self _ (by omega)
          have h2 : (2 * (R : Int) + (b : Int)) / c < 1125899906842627 := Int.ediv_lt_of_lt_mul (by omega) (by have : (b : Int) ≤ 1125899906842624 * c := (by have := Int.mul_le_mul_of_nonneg_left (show (1 : Int) ≤ c by omega) (show (0 : Int) ≤ 1125899906842624 by omega); omega); omega)
          omega
        have hm0 : (0 : Int) ≤ (2 * (R : Int) + (b : Int)) % c := Int.emod_nonneg _ (by omega)
        have hm1 : (2 * (R : Int) + (b : Int)) % c < c := Int.emod_lt_of_pos _ (by omega)
        clear step hpre hmono ht
        by_cases hov : 2 * (Q : Int) + (2 * (R : Int) + (b : Int)) / c ≤ 1125899906842624
        · go_wp2
          go_round
          case rel => exact ⟨j, 2 * Q + (2 * R + b) / c, (2 * R + b) % c, by omega, S1.out, S2.out, by have : ((2 * Q + (2 * R + b) / c : Nat) : Int) = 2 * (Q : Int) + (2 * (R : Int) + (b : Int)) / c := (by simp); omega, Nat.mod_lt _ hc, rfl, by go_num, by go_num⟩
          case measure => simp [intOf]
        · have hbig : ¬ a * b / c ≤ 1125899906842624 := by
            have : ((2 * Q + (2 * R + b) / c : Nat) : Int) = 2 * (Q : Int) + (2 * (R : Int) + (b : Int)) / c := by simp
            omega
          have Hbig := Lib.hid hbig
          clear hbig
          go_wp2
          go_ret3
          refine ⟨?_, rfl⟩
          simp [dv, Hbig.out]
end Go.Proofs.Ytejokpbmdhmhfaa
