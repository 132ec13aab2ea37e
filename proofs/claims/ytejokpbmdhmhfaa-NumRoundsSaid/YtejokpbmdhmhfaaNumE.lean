/-
  Walks over package num: Scale.
-/
import Derived.Test.YtejokpbmdhmhfaaNumD
namespace Go.Proofs.Ytejokpbmdhmhfaa
open Go.RowKit

set_option maxHeartbeats 2000000 in
theorem scale_good (a b c m : Int) (w : World) (h : okScale a b c m = true) :
    Calls Try.prog 21 #[.int .i64 a, .int .i64 b, .int .i64 c, .int .i64 m] w fun e w' => e = .returned (.tuple #[.int .i64 (scaleS a b c m).1, .int .i64 (scaleS a b c m).2]) ∧ Below w.heap.size w w' := by
  obtain ⟨ha, hb, hc, hc0, hm0, hm3⟩ := okScale_true h
  have hall : (inRB a && inRB b && inRB c) = true := by simp [ha, hb, hc]
  have Hall := Lib.hid hall
  have Ha := Lib.hid ha
  have Hb := Lib.hid hb
  have Hc := Lib.hid hc
  have ba := inRB_true.1 ha
  have bb := inRB_true.1 hb
  have bc := inRB_true.1 hc
  have hz : (c == 0) = false := by simp [hc0]
  have hcn : 1 ≤ c.natAbs := by omega
  clear hall ha hb hc hc0
  by_cases hq : a.natAbs * b.natAbs / c.natAbs ≤ 1125899906842624
  · have e : scaleS a b c m = chkS (signed (negB a b c) (a.natAbs * b.natAbs / c.natAbs + (awayB (a.natAbs * b.natAbs / c.natAbs) (a.natAbs * b.natAbs % c.natAbs) c.natAbs (negB a b c) m).toNat)) := by
      simp only [scaleS, h, hq, if_true]
    rw [e]
    have Hq := Lib.hid hq
    have hr : a.natAbs * b.natAbs % c.natAbs < c.natAbs := Nat.mod_lt _ hcn
    obtain ⟨Q, hQ⟩ : ∃ Q, a.natAbs * b.natAbs / c.natAbs = Q := ⟨_, rfl⟩
    obtain ⟨R, hR⟩ : ∃ R, a.natAbs * b.natAbs % c.natAbs = R := ⟨_, rfl⟩
    rw [hQ, hR]
    rw [hQ] at hq
    rw [hR] at hr
    have HQ := Lib.hid hQ
    have HR := Lib.hid hR
    clear e h hQ hR
    obtain ⟨g, hg⟩ : ∃ g, awayB Q R c.natAbs (negB a b c) m = g := ⟨_, rfl⟩
    rw [hg]
    have Hg := Lib.hid hg
    clear hg
    cases sa : decide (a < 0) <;> cases sb : decide (b < 0) <;> cases sc : decide (c < 0) <;> cases g
    all_goals
      first | (have hn : negB a b c = true := by simp [negB, sa, sb, sc]) | (have hn : negB a b c = false := by simp [negB, sa, sb, sc])
      have hg := Hg.out
      rw [hn] at hg
      rw [hn]
      have HG := Lib.hid hg
      clear hg Hg hn
      go_enter Try.func21, Try.ntmps21
      go_wp2_with (first
        | (go_at_call 32; refine (allIn_three a b c _ _ _ Hall.out).mono ?_; rintro e w' ⟨rfl, rfl⟩)
        | (go_at_call 35; refine (abs_any _ _ (by first | exact Ha.out | exact Hb.out | exact Hc.out)).mono ?_; rintro e w' ⟨rfl, rfl⟩)
        | (go_at_call 37; refine (divP_yes _ _ _ (by omega) (by omega) hcn (by omega) _ Q R Hq.out HQ.out HR.out).mono ?_; rintro e w' ⟨rfl, nd, rfl⟩)
        | (go_at_call 38; refine (grows_is Q R c.natAbs _ m hq hr (by omega) ⟨hm0, hm3⟩ _ _ HG.out).mono ?_; rintro e w' ⟨rfl, rfl⟩)
        | (go_at_call 33; refine (checkResult_any _ _).mono ?_; rintro e w' ⟨rfl, rfl⟩))
      go_ret2
      refine ⟨?_, Below.drewN' ((Below.refl _ _).alloc (Nat.le_refl _) _) _⟩
      simp [signed, Bool.toNat]
  · have e : scaleS a b c m = (0, 2) := by
      simp only [scaleS, h, hq, if_true, if_false]
    rw [e]
    have Hq := Lib.hid hq
    clear e h hq
    go_enter Try.func21, Try.ntmps21
    go_wp2_with (first
      | (go_at_call 32; refine (allIn_three a b c _ _ _ Hall.out).mono ?_; rintro e w' ⟨rfl, rfl⟩)
      | (go_at_call 35; refine (abs_any _ _ (by first | exact Ha.out | exact Hb.out | exact Hc.out)).mono ?_; rintro e w' ⟨rfl, rfl⟩)
      | (go_at_call 37; refine (divP_no _ _ _ (by omega) (by omega) hcn (by omega) _ Hq.out).mono ?_; rintro e w' ⟨rfl, nd, rfl⟩))
    go_ret2
    exact ⟨rfl, Below.drewN' ((Below.refl _ _).alloc (Nat.le_refl _) _) _⟩

theorem scale_any (a b c m : Int) (w : World) :
    Calls Try.prog 21 #[.int .i64 a, .int .i64 b, .int .i64 c, .int .i64 m] w fun e w' => e = .returned (.tuple #[.int .i64 (scaleS a b c m).1, .int .i64 (scaleS a b c m).2]) ∧ Below w.heap.size w w' := by
  cases h : okScale a b c m
  · have e : scaleS a b c m = (0, 1) := by simp [scaleS, h]
    rw [e]
    exact scale_bad a b c m w h
  · exact scale_good a b c m w h
end Go.Proofs.Ytejokpbmdhmhfaa
