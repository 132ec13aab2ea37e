/-
  Walks over the reference of package num: Scale and Mul.
-/
import Derived.Test.YtejokpbmdhmhfaaNumR
import Derived.Deep.RegionWith
namespace Go.Proofs.Ytejokpbmdhmhfaa
open Go.RowKit

set_option maxRecDepth 100000 in
set_option maxHeartbeats 4000000 in
theorem rScale_good (a b c m : Int) (w : World) (h : okScale a b c m = true) :
    Calls Try.prog 22 #[.int .i64 a, .int .i64 b, .int .i64 c, .int .i64 m] w fun e w' => e = .returned (.tuple #[.int .i64 (scaleS a b c m).1, .int .i64 (scaleS a b c m).2]) ∧ w = w' := by
  obtain ⟨ha, hb, hc, hc0, hm0, hm3⟩ := okScale_true h
  have Ha := Lib.hid ha
  have Hb := Lib.hid hb
  have Hc := Lib.hid hc
  have ba := inRB_true.1 ha
  have bb := inRB_true.1 hb
  have bc := inRB_true.1 hc
  have hz : (c == 0) = false := by simp [hc0]
  have hcn : 1 ≤ c.natAbs := by omega
  clear ha hb hc hc0
  by_cases hq : a.natAbs * b.natAbs / c.natAbs ≤ 1125899906842624
  · have e : scaleS a b c m = chkS (signed (negB a b c) (a.natAbs * b.natAbs / c.natAbs + (awayB (a.natAbs * b.natAbs / c.natAbs) (a.natAbs * b.natAbs % c.natAbs) c.natAbs (negB a b c) m).toNat)) := by
      simp only [scaleS, h, hq, if_true]
    rw [e]
    have Hq := Lib.hid hq
    have hr : a.natAbs * b.natAbs % c.natAbs < c.natAbs := Nat.mod_lt _ hcn
    obtain ⟨Q, hQ⟩ : ∃ Q, a.natAbs * b.natAbs / c.natAbs = Q := ⟨_, rfl⟩
    obtain ⟨R, hR⟩ : ∃ R, a.natAbs * b.natAbs % c.natAbs = R := ⟨_, rfl⟩
    rw [hQ, hR]
    rw [hQ] at hq
    rw [hR] at hr
    have HQ := Lib.hid hQ
    have HR := Lib.hid hR
    clear e h hQ hR
    go_enter Try.func22, Try.ntmps22
    go_upto_if 56 with (first
        | (go_at_call_of 24 (Value.int .i64 a); refine (rIn_yes a _ Ha.out).mono ?_; rintro e w' ⟨rfl, rfl⟩)
        | (go_at_call_of 24 (Value.int .i64 b); refine (rIn_yes b _ Hb.out).mono ?_; rintro e w' ⟨rfl, rfl⟩)
        | (go_at_call_of 24 (Value.int .i64 c); refine (rIn_yes c _ Hc.out).mono ?_; rintro e w' ⟨rfl, rfl⟩)
        | (go_at_call_of 40 (Value.int .i64 a); refine (rAbs_any a _ Ha.out).mono ?_; rintro e w' ⟨rfl, rfl⟩)
        | (go_at_call_of 40 (Value.int .i64 b); refine (rAbs_any b _ Hb.out).mono ?_; rintro e w' ⟨rfl, rfl⟩)
        | (go_at_call_of 40 (Value.int .i64 c); refine (rAbs_any c _ Hc.out).mono ?_; rintro e w' ⟨rfl, rfl⟩)
        | (go_at_call 39; refine (divR_yes _ _ _ (by omega) (by omega) hcn (by omega) _ Q R Hq.out HQ.out HR.out).mono ?_; rintro e w' ⟨rfl, rfl⟩))
    go_cut [13] (fun s13 wx => s13 = .bool (decide (a < 0) != decide (b < 0)) ∧ w = wx)
    case first =>
      go_wp2
      all_goals go_meet
      · have hb : b < 0 := by assumption
        exact ⟨by simp [hb], rfl⟩
      · have hb : ¬ b < 0 := by have : 0 ≤ b := by assumption
                                omega
        exact ⟨by simp [hb], rfl⟩
    case rest =>
      obtain ⟨rfl, rfl⟩ := hcut
      go_upto_if 60 with fail
      go_cut [13] (fun s13 wx => s13 = .bool (negB a b c) ∧ w = wx)
      case first =>
        go_wp2
        all_goals go_meet
        · have hb : c < 0 := by assumption
          exact ⟨by simp [negB, hb], rfl⟩
        · have hb : ¬ c < 0 := by have : 0 ≤ c := by assumption
                                  omega
          exact ⟨by simp [negB, hb], rfl⟩
      case rest =>
        obtain ⟨hs, rfl⟩ := hcut
        obtain ⟨nb, hn⟩ : ∃ nb, negB a b c = nb := ⟨_, rfl⟩
        rw [hn] at hs
        subst hs
        have HN := Lib.hid hn
        clear hn
        by_cases m0 : m = 0
        · have M0 : (m == 0) = true := by simp [m0]
          have N0 := Lib.hid m0
          clear m0
          by_cases r0 : 0 < R
          · cases nb
            · go_wp2_with (first
          | (go_at_call 40; refine (rAbs_any c _ Hc.out).mono ?_; rintro e w' ⟨rfl, rfl⟩)
          | (go_at_call 34; refine (rBounded_any _ _).mono ?_; rintro e w' ⟨rfl, rfl⟩))
              go_ret2
              exact ⟨by rw [HN.out, show awayB Q R c.natAbs false m = false from (by simp [awayB, N0.out])]; simp [signed, Bool.toNat], rfl⟩
            · go_wp2_with (first
          | (go_at_call 40; refine (rAbs_any c _ Hc.out).mono ?_; rintro e w' ⟨rfl, rfl⟩)
          | (go_at_call 34; refine (rBounded_any _ _).mono ?_; rintro e w' ⟨rfl, rfl⟩))
              go_ret2
              exact ⟨by rw [HN.out, show awayB Q R c.natAbs true m = true from (by simp [awayB, N0.out, r0])]; simp [signed, Bool.toNat], rfl⟩
          · cases nb
            · go_wp2_with (first
          | (go_at_call 40; refine (rAbs_any c _ Hc.out).mono ?_; rintro e w' ⟨rfl, rfl⟩)
          | (go_at_call 34; refine (rBounded_any _ _).mono ?_; rintro e w' ⟨rfl, rfl⟩))
              go_ret2
              exact ⟨by rw [HN.out, show awayB Q R c.natAbs false m = false from (by simp [awayB, N0.out, r0])]; simp [signed, Bool.toNat], rfl⟩
            · go_wp2_with (first
          | (go_at_call 40; refine (rAbs_any c _ Hc.out).mono ?_; rintro e w' ⟨rfl, rfl⟩)
          | (go_at_call 34; refine (rBounded_any _ _).mono ?_; rintro e w' ⟨rfl, rfl⟩))
              go_ret2
              exact ⟨by rw [HN.out, show awayB Q R c.natAbs true m = false from (by simp [awayB, N0.out, r0])]; simp [signed, Bool.toNat], rfl⟩
        have M0 : (m == 0) = false := by simp [m0]
        by_cases m1 : m = 1
        · have M1 : (m == 1) = true := by simp [m1]
          have N1 := Lib.hid m1
          clear m0 m1
          by_cases r0 : 0 < R
          · cases nb
            · go_wp2_with (first
          | (go_at_call 40; refine (rAbs_any c _ Hc.out).mono ?_; rintro e w' ⟨rfl, rfl⟩)
          | (go_at_call 34; refine (rBounded_any _ _).mono ?_; rintro e w' ⟨rfl, rfl⟩))
              go_ret2
              exact ⟨by rw [HN.out, show awayB Q R c.natAbs false m = true from (by simp [awayB, N1.out, r0])]; simp [signed, Bool.toNat], rfl⟩
            · go_wp2_with (first
          | (go_at_call 40; refine (rAbs_any c _ Hc.out).mono ?_; rintro e w' ⟨rfl, rfl⟩)
          | (go_at_call 34; refine (rBounded_any _ _).mono ?_; rintro e w' ⟨rfl, rfl⟩))
              go_ret2
              exact ⟨by rw [HN.out, show awayB Q R c.natAbs true m = false from (by simp [awayB, N1.out])]; simp [signed, Bool.toNat], rfl⟩
          · cases nb
            · go_wp2_with (first
          | (go_at_call 40; refine (rAbs_any c _ Hc.out).mono ?_; rintro e w' ⟨rfl, rfl⟩)
          | (go_at_call 34; refine (rBounded_any _ _).mono ?_; rintro e w' ⟨rfl, rfl⟩))
              go_ret2
              exact ⟨by rw [HN.out, show awayB Q R c.natAbs false m = false from (by simp [awayB, N1.out, r0])]; simp [signed, Bool.toNat], rfl⟩
            · go_wp2_with (first
          | (go_at_call 40; refine (rAbs_any c _ Hc.out).mono ?_; rintro e w' ⟨rfl, rfl⟩)
          | (go_at_call 34; refine (rBounded_any _ _).mono ?_; rintro e w' ⟨rfl, rfl⟩))
              go_ret2
              exact ⟨by rw [HN.out, show awayB Q R c.natAbs true m = false from (by simp [awayB, N1.out, r0])]; simp [signed, Bool.toNat], rfl⟩
        have M1 : (m == 1) = false := by simp [m1]
        by_cases m2 : m = 2
        · have M2 : (m == 2) = true := by simp [m2]
          have N0 := Lib.hid m0
          have N1 := Lib.hid m1
          have N2 := Lib.hid m2
          clear m0 m1 m2
          by_cases r0 : c.natAbs ≤ 2 * R
          · have r0' : ((c.natAbs : Nat) : Int) ≤ 2 * (R : Int) := by omega
            cases nb
            · go_wp2_with (first
          | (go_at_call 40; refine (rAbs_any c _ Hc.out).mono ?_; rintro e w' ⟨rfl, rfl⟩)
          | (go_at_call 34; refine (rBounded_any _ _).mono ?_; rintro e w' ⟨rfl, rfl⟩))
              go_ret2
              exact ⟨by rw [HN.out, show awayB Q R c.natAbs false m = true from (by simp [awayB, N2.out, r0])]; simp [signed, Bool.toNat], rfl⟩
            · go_wp2_with (first
          | (go_at_call 40; refine (rAbs_any c _ Hc.out).mono ?_; rintro e w' ⟨rfl, rfl⟩)
          | (go_at_call 34; refine (rBounded_any _ _).mono ?_; rintro e w' ⟨rfl, rfl⟩))
              go_ret2
              exact ⟨by rw [HN.out, show awayB Q R c.natAbs true m = true from (by simp [awayB, N2.out, r0])]; simp [signed, Bool.toNat], rfl⟩
          · have r0' : ¬ ((c.natAbs : Nat) : Int) ≤ 2 * (R : Int) := by omega
            cases nb
            · go_wp2_with (first
          | (go_at_call 40; refine (rAbs_any c _ Hc.out).mono ?_; rintro e w' ⟨rfl, rfl⟩)
          | (go_at_call 34; refine (rBounded_any _ _).mono ?_; rintro e w' ⟨rfl, rfl⟩))
              go_ret2
              exact ⟨by rw [HN.out, show awayB Q R c.natAbs false m = false from (by simp [awayB, N2.out, r0])]; simp [signed, Bool.toNat], rfl⟩
            · go_wp2_with (first
          | (go_at_call 40; refine (rAbs_any c _ Hc.out).mono ?_; rintro e w' ⟨rfl, rfl⟩)
          | (go_at_call 34; refine (rBounded_any _ _).mono ?_; rintro e w' ⟨rfl, rfl⟩))
              go_ret2
              exact ⟨by rw [HN.out, show awayB Q R c.natAbs true m = false from (by simp [awayB, N2.out, r0])]; simp [signed, Bool.toNat], rfl⟩
        have M2 : (m == 2) = false := by simp [m2]
        have M3 : (m == 3) = true := by simp; omega
        have N0 := Lib.hid m0
        have N1 := Lib.hid m1
        have N2 := Lib.hid m2
        clear m0 m1 m2
        by_cases r0 : c.natAbs < 2 * R
        · have r0' : ((c.natAbs : Nat) : Int) < 2 * (R : Int) := by omega
          cases nb
          · go_wp2_with (first
          | (go_at_call 40; refine (rAbs_any c _ Hc.out).mono ?_; rintro e w' ⟨rfl, rfl⟩)
          | (go_at_call 34; refine (rBounded_any _ _).mono ?_; rintro e w' ⟨rfl, rfl⟩))
            go_ret2
            exact ⟨by rw [HN.out, show awayB Q R c.natAbs false m = true from (by simp [awayB, N0.out, N1.out, N2.out, r0])]; simp [signed, Bool.toNat], rfl⟩
          · go_wp2_with (first
          | (go_at_call 40; refine (rAbs_any c _ Hc.out).mono ?_; rintro e w' ⟨rfl, rfl⟩)
          | (go_at_call 34; refine (rBounded_any _ _).mono ?_; rintro e w' ⟨rfl, rfl⟩))
            go_ret2
            exact ⟨by rw [HN.out, show awayB Q R c.natAbs true m = true from (by simp [awayB, N0.out, N1.out, N2.out, r0])]; simp [signed, Bool.toNat], rfl⟩
        have r0' : ¬ ((c.natAbs : Nat) : Int) < 2 * (R : Int) := by omega
        by_cases r1 : 2 * R = c.natAbs
        · have r1' : (2 * (R : Int) == ((c.natAbs : Nat) : Int)) = true := by simp only [beq_iff_eq]; omega
          have R1 := Lib.hid r1
          clear r1
          by_cases q1 : Q % 2 = 1
          · have q1' : ((Q : Int) % 2 == 1) = true := by simp only [beq_iff_eq]; omega
            have Q1 := Lib.hid q1
            clear q1
            cases nb
            · go_wp2_with (first
          | (go_at_call 40; refine (rAbs_any c _ Hc.out).mono ?_; rintro e w' ⟨rfl, rfl⟩)
          | (go_at_call 34; refine (rBounded_any _ _).mono ?_; rintro e w' ⟨rfl, rfl⟩))
              go_ret2
              exact ⟨by rw [HN.out, show awayB Q R c.natAbs false m = true from (by simp [awayB, N0.out, N1.out, N2.out, R1.out, Q1.out])]; simp [signed, Bool.toNat], rfl⟩
            · go_wp2_with (first
          | (go_at_call 40; refine (rAbs_any c _ Hc.out).mono ?_; rintro e w' ⟨rfl, rfl⟩)
          | (go_at_call 34; refine (rBounded_any _ _).mono ?_; rintro e w' ⟨rfl, rfl⟩))
              go_ret2
              exact ⟨by rw [HN.out, show awayB Q R c.natAbs true m = true from (by simp [awayB, N0.out, N1.out, N2.out, R1.out, Q1.out])]; simp [signed, Bool.toNat], rfl⟩
          · have q1' : ((Q : Int) % 2 == 1) = false := by simp only [beq_eq_false_iff_ne]; omega
            have Q1 := Lib.hid q1
            clear q1
            cases nb
            · go_wp2_with (first
          | (go_at_call 40; refine (rAbs_any c _ Hc.out).mono ?_; rintro e w' ⟨rfl, rfl⟩)
          | (go_at_call 34; refine (rBounded_any _ _).mono ?_; rintro e w' ⟨rfl, rfl⟩))
              go_ret2
              exact ⟨by rw [HN.out, show awayB Q R c.natAbs false m = false from (by simp [awayB, N0.out, N1.out, N2.out, r0, Q1.out])]; simp [signed, Bool.toNat], rfl⟩
            · go_wp2_with (first
          | (go_at_call 40; refine (rAbs_any c _ Hc.out).mono ?_; rintro e w' ⟨rfl, rfl⟩)
          | (go_at_call 34; refine (rBounded_any _ _).mono ?_; rintro e w' ⟨rfl, rfl⟩))
              go_ret2
              exact ⟨by rw [HN.out, show awayB Q R c.natAbs true m = false from (by simp [awayB, N0.out, N1.out, N2.out, r0, Q1.out])]; simp [signed, Bool.toNat], rfl⟩
        · have r1' : (2 * (R : Int) == ((c.natAbs : Nat) : Int)) = false := by simp only [beq_eq_false_iff_ne]; omega
          have R1 := Lib.hid r1
          clear r1
          cases nb
          · go_wp2_with (first
          | (go_at_call 40; refine (rAbs_any c _ Hc.out).mono ?_; rintro e w' ⟨rfl, rfl⟩)
          | (go_at_call 34; refine (rBounded_any _ _).mono ?_; rintro e w' ⟨rfl, rfl⟩))
            go_ret2
            exact ⟨by rw [HN.out, show awayB Q R c.natAbs false m = false from (by simp [awayB, N0.out, N1.out, N2.out, r0, R1.out])]; simp [signed, Bool.toNat], rfl⟩
          · go_wp2_with (first
          | (go_at_call 40; refine (rAbs_any c _ Hc.out).mono ?_; rintro e w' ⟨rfl, rfl⟩)
          | (go_at_call 34; refine (rBounded_any _ _).mono ?_; rintro e w' ⟨rfl, rfl⟩))
            go_ret2
            exact ⟨by rw [HN.out, show awayB Q R c.natAbs true m = false from (by simp [awayB, N0.out, N1.out, N2.out, r0, R1.out])]; simp [signed, Bool.toNat], rfl⟩
  · have e : scaleS a b c m = (0, 2) := by
      simp only [scaleS, h, hq, if_true, if_false]
    rw [e]
    have Hq := Lib.hid hq
    clear e h hq
    go_enter Try.func22, Try.ntmps22
    go_wp2_with (first
        | (go_at_call_of 24 (Value.int .i64 a); refine (rIn_yes a _ Ha.out).mono ?_; rintro e w' ⟨rfl, rfl⟩)
        | (go_at_call_of 24 (Value.int .i64 b); refine (rIn_yes b _ Hb.out).mono ?_; rintro e w' ⟨rfl, rfl⟩)
        | (go_at_call_of 24 (Value.int .i64 c); refine (rIn_yes c _ Hc.out).mono ?_; rintro e w' ⟨rfl, rfl⟩)
        | (go_at_call_of 40 (Value.int .i64 a); refine (rAbs_any a _ Ha.out).mono ?_; rintro e w' ⟨rfl, rfl⟩)
        | (go_at_call_of 40 (Value.int .i64 b); refine (rAbs_any b _ Hb.out).mono ?_; rintro e w' ⟨rfl, rfl⟩)
        | (go_at_call_of 40 (Value.int .i64 c); refine (rAbs_any c _ Hc.out).mono ?_; rintro e w' ⟨rfl, rfl⟩)
        | (go_at_call 39; refine (divR_no _ _ _ (by omega) (by omega) hcn (by omega) _ Hq.out).mono ?_; rintro e w' ⟨rfl, rfl⟩))
    go_ret2
    exact ⟨rfl, rfl⟩

theorem rScale_any (a b c m : Int) (w : World) :
    Calls Try.prog 22 #[.int .i64 a, .int .i64 b, .int .i64 c, .int .i64 m] w fun e w' => e = .returned (.tuple #[.int .i64 (scaleS a b c m).1, .int .i64 (scaleS a b c m).2]) ∧ w = w' := by
  cases h : okScale a b c m
  · have e : scaleS a b c m = (0, 1) := by simp [scaleS, h]
    rw [e]
    exact rScale_bad a b c m w h
  · exact rScale_good a b c m w h

theorem mul_scale (a b : Int) : scaleS a b 1 0 = mulS a b := by
  have i1 : inRB 1 = true := by decide
  have e1 : okScale a b 1 0 = (inRB a && inRB b) := by simp [okScale, i1]
  unfold scaleS mulS
  rw [e1]
  cases h : inRB a && inRB b
  · simp
  · have hp : a.natAbs * b.natAbs = (a * b).natAbs := (Int.natAbs_mul a b).symm
    have hn : negB a b 1 = (decide (a < 0) != decide (b < 0)) := by simp [negB]
    have haw : ∀ q nb, awayB q 0 1 nb 0 = false := by intro q nb; simp [awayB]
    simp only [if_true, Int.natAbs_one, Nat.div_one, Nat.mod_one, haw, hp, hn]
    by_cases hs : (a * b).natAbs ≤ 1125899906842624
    · rw [if_pos hs]
      have hsg : signed (decide (a < 0) != decide (b < 0)) ((a * b).natAbs + 0) = a * b := by
        by_cases ha : a < 0 <;> by_cases hb : b < 0
        · have := Int.mul_pos_of_neg_of_neg ha hb
          simp [signed, ha, hb]; omega
        · have : a * b ≤ 0 := Int.mul_nonpos_of_nonpos_of_nonneg (by omega) (by omega)
          simp only [signed, ha, hb, decide_true, decide_false, Bool.bne_false, if_true]; omega
        · have : a * b ≤ 0 := Int.mul_nonpos_of_nonneg_of_nonpos (by omega) (by omega)
          simp only [signed, ha, hb, decide_true, decide_false, Bool.bne_true, if_true, Bool.not_false]; omega
        · have : 0 ≤ a * b := Int.mul_nonneg (by omega) (by omega)
          simp [signed, ha, hb]; omega
      simp only [Bool.toNat_false, hsg]
    · rw [if_neg hs]
      have : inRB (a * b) = false := by rw [inRB_false]; omega
      simp [chkS, this]

set_option maxHeartbeats 400000 in
theorem rMul_any (a b : Int) (w : World) :
    Calls Try.prog 18 #[.int .i64 a, .int .i64 b] w fun e w' => e = .returned (.tuple #[.int .i64 (mulS a b).1, .int .i64 (mulS a b).2]) ∧ w = w' := by
  rw [← mul_scale]
  go_enter Try.func18, Try.ntmps18
  go_wp2_with (go_at_call 22; refine (rScale_any a b 1 0 _).mono ?_; rintro e w' ⟨rfl, rfl⟩)
  go_ret2
  exact ⟨rfl, rfl⟩
end Go.Proofs.Ytejokpbmdhmhfaa
