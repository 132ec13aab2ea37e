/-
  Walks over the laws of package wire: OneForm (four blocks; each region that draws is cut around).
-/
import Derived.Test.YtcbaihaigamalaaWirK
import Derived.Deep.RegionHeld
import Derived.Deep.QuietTactic
import Derived.BigQuiet
import Derived.Deep.CutRange
import Derived.Deep.DeepCutAuto
namespace Go.Proofs.Ytcbaihaigamalaa
set_option linter.unusedVariables false
set_option linter.unusedSimpArgs false
open Go.RowKit

section
variable (K : WirCon)
include K
set_option maxRecDepth 100000 in
set_option maxHeartbeats 16000000 in
theorem wireOneForm_of (a : Option Addr) (l : List UInt8) (n cap : Nat) (w : World) (hn : l.length = n) (hc : n ≤ cap) (hb : cap ≤ maxLen) (hl : Bytes w a l) :
    Calls Try.prog 8 #[.slice a n cap] w fun e w' => e = .returned (.bool true) ∧ Below w.heap.size w w' := by
  cases hq : smallB n 0 0
  · have HQ := Lib.hid (small_is hq a cap ⟨#[]⟩ none 0 w rfl (by omega) (by decide) (by decide))
    clear hq
    unfold maxLen at hb
    clear hn hl
    go_enter Try.func8, Try.ntmps8
    go_wp2_with fail
    refine HQ.out.mono ?_
    rintro e w1 ⟨rfl, rfl⟩
    go_wp2_with fail
    refine (wirAwake_any K _).mono ?_
    rintro e w1 ⟨rfl, hb1⟩
    go_wp2
    go_ret
    exact ⟨rfl, hb1⟩
  · have HQ := Lib.hid (small_is hq a cap ⟨#[]⟩ none 0 w rfl (by omega) (by decide) (by decide))
    have hn5 : n ≤ 5000 := by
      unfold smallB at hq
      simp at hq
      omega
    have Hn := Lib.hid hn
    have HL := Lib.hid hl
    unfold maxLen at hb
    clear hq hn hl
    -- string(b[:k]) in whatever world that keeps the argument
    have HCut : Hid (∀ (k : Nat), k ≤ n → ∃ p, (∀ W, (Instr.slice 22 (.slice a n cap) none (some (.int .i64 (k : Int))) none).run Try.prog W = .ok (.slice p k cap) W) ∧ ∀ W, Below w.heap.size w W → (convert 22 9 (.slice p k cap)).run Try.prog W = .ok (.string ⟨(l.take k).toArray⟩) W) := by
      intro k hk
      obtain ⟨p, hp, hr⟩ := part_upto und_bytes size_bytes HL.out (n := n) (j := k) (cap := cap) (J := (k : Int)) rfl (by rw [bytV_length, Hn.out]; exact hk) (by omega)
      rw [bytV_take] at hr
      exact ⟨p, hp, fun W hW => run_string_bytes Try.underlying22 Try.underlying5 Try.underlying9 W p (l.take k) k cap (by rw [List.length_take, Hn.out]; omega) (hr.kept hW)⟩
    go_enter Try.func8, Try.ntmps8
    go_wp2_with fail
    refine HQ.out.mono ?_
    rintro e w0 ⟨rfl, rfl⟩
    clear HQ
    -- block 1
    obtain ⟨⟨v, k, e⟩, hr⟩ : ∃ r, takeU l = r := ⟨_, rfl⟩
    have HR := Lib.hid hr
    clear hr
    go_wp2_with fail
    refine (K.takeUint_is HR.out a n cap _ Hn.out (by omega) hc (HL.out.kept (Below.refl w.heap.size w))).mono ?_
    rintro e' w1 ⟨rfl, hb1⟩
    have hB1 : Below w.heap.size w w1 := (Below.refl w.heap.size w).trans (hb1.mono (Below.refl w.heap.size w).size)
    go_upto_region 4 with fail
    go_cut [46] from 25 to 46 (fun c wx => c = .bool false ∧ Below w1.heap.size w1 wx)
    case first =>
      by_cases he : e = 0
      · subst he
        have hbk := take_back HR.out
        have hkn : k ≤ n := by have := hbk.2.2.1; rw [Hn.out] at this; exact this
        have hx : v < 18446744073709551616 := hbk.2.2.2
        obtain ⟨R, hRe⟩ : ∃ R, vL v = R := ⟨_, rfl⟩
        have HE := Lib.hid (show [] ++ vL v = R by rw [List.nil_append]; exact hRe)
        have HP := Lib.hid (K.putUint_is (l := []) (R := R) (u := v) HE.out none 0 0 w1.drew rfl (by decide) (Nat.le_refl _) (reads_nil _ _) hx)
        obtain ⟨p, hp, hcvt⟩ := HCut.out k hkn
        obtain ⟨S, hS⟩ : ∃ S, (⟨R.toArray⟩ : ByteArray) = S := ⟨_, rfl⟩
        have HS := Lib.hid (fun W (h : Below w.heap.size w W) => show (convert 22 9 (.slice p k cap)).run Try.prog W = .ok (.string S) W by rw [← hS, ← hRe, ← hbk.1]; exact hcvt W h)
        have Hcv := Lib.hid (fun (W : World) (b : Option Addr) (c : Nat) (h : Bytes W b R) => show (convert 22 9 (.slice b R.length c)).run Try.prog W = .ok (.string S) W by rw [← hS]; exact run_string_bytes Try.underlying22 Try.underlying5 Try.underlying9 W b R R.length c rfl h)
        have hts : (S.toList == S.toList) = true := by simp
        have hts2 : (S.toList != S.toList) = false := by simp
        have i0 : (0 : Int) ≤ (k : Int) := by omega
        have i1 : (k : Int) ≤ (n : Int) := by omega
        have i2 : decide ((k : Int) < 0) = false := decide_eq_false (by omega)
        have i4 : decide (n < k) = false := decide_eq_false (by omega)
        have i3 : decide ((n : Int) < (k : Int)) = false := decide_eq_false (by omega)
        clear hbk hRe hS hcvt
        go_region_held (fun W => (convert 22 9 (.slice p k cap)).run Try.prog W = .ok (.string S) W) ((refine HS.out _ (hB1.trans ((?_ : Below w1.heap.size w1 _).mono hB1.size)); ((repeat' first | with_reducible assumption | exact Below.refl _ _ | with_reducible refine Below.drew ?_ | with_reducible refine Below.drewN ?_ _ | with_reducible refine Below.alloc' ?_ _ | with_reducible refine Below.setCell ?_ (by first | exact Nat.le_refl _ | omega | (simp; done) | (simp; omega)) _ | with_reducible refine Below.after ?_ ‹_›)); done)) (first
          | (go_at_call 15; (with_reducible refine HP.out.mono ?_); rintro e3 w8 ⟨b8, c8, rfl, -, hi8, hb8⟩; have hv8 := Hcv.out _ _ c8 hi8))
        all_goals go_wp2_with fail
        all_goals go_meet
        all_goals exact ⟨rfl, by (repeat' first | with_reducible assumption | exact Below.refl _ _ | with_reducible refine Below.drew ?_ | with_reducible refine Below.drewN ?_ _ | with_reducible refine Below.alloc' ?_ _ | with_reducible refine Below.setCell ?_ (by first | exact Nat.le_refl _ | omega | (simp; done) | (simp; omega)) _ | with_reducible refine Below.after ?_ ‹_›)⟩
      · have e0 : (e == 0) = false := by simpa using he
        clear he
        go_quiet (fail)
        go_wp2_with fail
        go_meet
        exact ⟨rfl, by (repeat' first | with_reducible assumption | exact Below.refl _ _ | with_reducible refine Below.drew ?_ | with_reducible refine Below.drewN ?_ _ | with_reducible refine Below.alloc' ?_ _ | with_reducible refine Below.setCell ?_ (by first | exact Nat.le_refl _ | omega | (simp; done) | (simp; omega)) _ | with_reducible refine Below.after ?_ ‹_›)⟩
    case rest =>
      obtain ⟨rfl, hbx⟩ := hcut
      have hC1 := hB1.trans (hbx.mono hB1.size)
      clear hbx HR
      -- block 2
      obtain ⟨⟨v, k, e⟩, hr⟩ : ∃ r, takeI l = r := ⟨_, rfl⟩
      have HR := Lib.hid hr
      clear hr
      go_wp2_with fail
      refine (K.takeInt_is HR.out a n cap _ Hn.out (by omega) hc (HL.out.kept (hC1))).mono ?_
      rintro e' w2 ⟨rfl, hb2⟩
      have hB2 : Below w.heap.size w w2 := (hC1).trans (hb2.mono (hC1).size)
      go_upto_region 7 with fail
      go_cut [74] from 53 to 74 (fun c wx => c = .bool false ∧ Below w2.heap.size w2 wx)
      case first =>
        by_cases he : e = 0
        · subst he
          have hbk := takeI_back HR.out
          have hkn : k ≤ n := by have := hbk.2.2.1; rw [Hn.out] at this; exact this
          have hx : -9223372036854775808 ≤ v ∧ v ≤ 9223372036854775807 := by have h := hbk.2.2.2; unfold zz at h; split at h <;> omega
          obtain ⟨R, hRe⟩ : ∃ R, iL v = R := ⟨_, rfl⟩
          have HE := Lib.hid (show [] ++ iL v = R by rw [List.nil_append]; exact hRe)
          have HP := Lib.hid (by have := K.putInt none [] 0 0 v w2.drew rfl (by decide) (Nat.le_refl _) (reads_nil _ _) hx.1 hx.2; rw [HE.out] at this; exact this)
          obtain ⟨p, hp, hcvt⟩ := HCut.out k hkn
          obtain ⟨S, hS⟩ : ∃ S, (⟨R.toArray⟩ : ByteArray) = S := ⟨_, rfl⟩
          have HS := Lib.hid (fun W (h : Below w.heap.size w W) => show (convert 22 9 (.slice p k cap)).run Try.prog W = .ok (.string S) W by rw [← hS, ← hRe, ← hbk.1]; exact hcvt W h)
          have Hcv := Lib.hid (fun (W : World) (b : Option Addr) (c : Nat) (h : Bytes W b R) => show (convert 22 9 (.slice b R.length c)).run Try.prog W = .ok (.string S) W by rw [← hS]; exact run_string_bytes Try.underlying22 Try.underlying5 Try.underlying9 W b R R.length c rfl h)
          have hts : (S.toList == S.toList) = true := by simp
          have hts2 : (S.toList != S.toList) = false := by simp
          have i0 : (0 : Int) ≤ (k : Int) := by omega
          have i1 : (k : Int) ≤ (n : Int) := by omega
          have i2 : decide ((k : Int) < 0) = false := decide_eq_false (by omega)
          have i4 : decide (n < k) = false := decide_eq_false (by omega)
          have i3 : decide ((n : Int) < (k : Int)) = false := decide_eq_false (by omega)
          clear hbk hRe hS hcvt
          go_region_held (fun W => (convert 22 9 (.slice p k cap)).run Try.prog W = .ok (.string S) W) ((refine HS.out _ (hB2.trans ((?_ : Below w2.heap.size w2 _).mono hB2.size)); ((repeat' first | with_reducible assumption | exact Below.refl _ _ | with_reducible refine Below.drew ?_ | with_reducible refine Below.drewN ?_ _ | with_reducible refine Below.alloc' ?_ _ | with_reducible refine Below.setCell ?_ (by first | exact Nat.le_refl _ | omega | (simp; done) | (simp; omega)) _ | with_reducible refine Below.after ?_ ‹_›)); done)) (first
            | (go_at_call 19; (with_reducible refine HP.out.mono ?_); rintro e3 w8 ⟨b8, c8, rfl, -, hi8, hb8⟩; have hv8 := Hcv.out _ _ c8 hi8))
          all_goals go_wp2_with fail
          all_goals go_meet
          all_goals exact ⟨rfl, by (repeat' first | with_reducible assumption | exact Below.refl _ _ | with_reducible refine Below.drew ?_ | with_reducible refine Below.drewN ?_ _ | with_reducible refine Below.alloc' ?_ _ | with_reducible refine Below.setCell ?_ (by first | exact Nat.le_refl _ | omega | (simp; done) | (simp; omega)) _ | with_reducible refine Below.after ?_ ‹_›)⟩
        · have e0 : (e == 0) = false := by simpa using he
          clear he
          go_quiet (fail)
          go_wp2_with fail
          go_meet
          exact ⟨rfl, by (repeat' first | with_reducible assumption | exact Below.refl _ _ | with_reducible refine Below.drew ?_ | with_reducible refine Below.drewN ?_ _ | with_reducible refine Below.alloc' ?_ _ | with_reducible refine Below.setCell ?_ (by first | exact Nat.le_refl _ | omega | (simp; done) | (simp; omega)) _ | with_reducible refine Below.after ?_ ‹_›)⟩
      case rest =>
        obtain ⟨rfl, hbx⟩ := hcut
        have hC2 := hB2.trans (hbx.mono hB2.size)
        clear hbx HR
        -- block 3
        obtain ⟨⟨V, k, e⟩, hr⟩ : ∃ r, takeT l 5000 = r := ⟨_, rfl⟩
        obtain ⟨v, hv⟩ : ∃ v, (⟨V.toArray⟩ : ByteArray) = v := ⟨_, rfl⟩
        have HR := Lib.hid (show takeT l 5000 = (v.data.toList, k, e) by rw [hr, ← hv])
        clear hr hv
        go_wp2_with fail
        refine (K.takeText_is HR.out a n cap _ Hn.out (by omega) hc (HL.out.kept (hC2)) (by decide) (by decide)).mono ?_
        rintro e' w3 ⟨rfl, hb3⟩
        have hB3 : Below w.heap.size w w3 := (hC2).trans (hb3.mono (hC2).size)
        go_upto_region 10 with fail
        go_cut [102] from 81 to 102 (fun c wx => c = .bool false ∧ Below w3.heap.size w3 wx)
        case first =>
          by_cases he : e = 0
          · subst he
            have hbk := takeT_back HR.out
            have hkn : k ≤ n := by have := hbk.2.2; rw [Hn.out] at this; exact this
            have hx : v.size ≤ 400000 := by have h := congrArg List.length hbk.1; unfold textL at h; rw [List.length_take, List.length_append, show v.data.toList.length = v.size from rfl] at h; have := Hn.out; omega
            obtain ⟨R, hRe⟩ : ∃ R, textL v.data.toList = R := ⟨_, rfl⟩
            have HE := Lib.hid (show [] ++ textL v.data.toList = R by rw [List.nil_append]; exact hRe)
            have HP := Lib.hid (by have := K.putText none [] 0 0 v w3.drew rfl (by decide) (Nat.le_refl _) (reads_nil _ _) hx; rw [HE.out] at this; exact this)
            obtain ⟨p, hp, hcvt⟩ := HCut.out k hkn
            obtain ⟨S, hS⟩ : ∃ S, (⟨R.toArray⟩ : ByteArray) = S := ⟨_, rfl⟩
            have HS := Lib.hid (fun W (h : Below w.heap.size w W) => show (convert 22 9 (.slice p k cap)).run Try.prog W = .ok (.string S) W by rw [← hS, ← hRe, ← hbk.1]; exact hcvt W h)
            have Hcv := Lib.hid (fun (W : World) (b : Option Addr) (c : Nat) (h : Bytes W b R) => show (convert 22 9 (.slice b R.length c)).run Try.prog W = .ok (.string S) W by rw [← hS]; exact run_string_bytes Try.underlying22 Try.underlying5 Try.underlying9 W b R R.length c rfl h)
            have hts : (S.toList == S.toList) = true := by simp
            have hts2 : (S.toList != S.toList) = false := by simp
            have i0 : (0 : Int) ≤ (k : Int) := by omega
            have i1 : (k : Int) ≤ (n : Int) := by omega
            have i2 : decide ((k : Int) < 0) = false := decide_eq_false (by omega)
            have i4 : decide (n < k) = false := decide_eq_false (by omega)
            have i3 : decide ((n : Int) < (k : Int)) = false := decide_eq_false (by omega)
            clear hbk hRe hS hcvt
            go_region_held (fun W => (convert 22 9 (.slice p k cap)).run Try.prog W = .ok (.string S) W) ((refine HS.out _ (hB3.trans ((?_ : Below w3.heap.size w3 _).mono hB3.size)); ((repeat' first | with_reducible assumption | exact Below.refl _ _ | with_reducible refine Below.drew ?_ | with_reducible refine Below.drewN ?_ _ | with_reducible refine Below.alloc' ?_ _ | with_reducible refine Below.setCell ?_ (by first | exact Nat.le_refl _ | omega | (simp; done) | (simp; omega)) _ | with_reducible refine Below.after ?_ ‹_›)); done)) (first
              | (go_at_call 23; (with_reducible refine HP.out.mono ?_); rintro e3 w8 ⟨b8, c8, rfl, -, hi8, hb8⟩; have hv8 := Hcv.out _ _ c8 hi8))
            all_goals go_wp2_with fail
            all_goals go_meet
            all_goals exact ⟨rfl, by (repeat' first | with_reducible assumption | exact Below.refl _ _ | with_reducible refine Below.drew ?_ | with_reducible refine Below.drewN ?_ _ | with_reducible refine Below.alloc' ?_ _ | with_reducible refine Below.setCell ?_ (by first | exact Nat.le_refl _ | omega | (simp; done) | (simp; omega)) _ | with_reducible refine Below.after ?_ ‹_›)⟩
          · have e0 : (e == 0) = false := by simpa using he
            clear he
            go_quiet (fail)
            go_wp2_with fail
            go_meet
            exact ⟨rfl, by (repeat' first | with_reducible assumption | exact Below.refl _ _ | with_reducible refine Below.drew ?_ | with_reducible refine Below.drewN ?_ _ | with_reducible refine Below.alloc' ?_ _ | with_reducible refine Below.setCell ?_ (by first | exact Nat.le_refl _ | omega | (simp; done) | (simp; omega)) _ | with_reducible refine Below.after ?_ ‹_›)⟩
        case rest =>
          obtain ⟨rfl, hbx⟩ := hcut
          have hC3 := hB3.trans (hbx.mono hB3.size)
          clear hbx HR
          -- block 4
          obtain ⟨⟨v, k, e⟩, hr⟩ : ∃ r, takeLs l 5000 = r := ⟨_, rfl⟩
          have HR := Lib.hid hr
          clear hr
          go_wp2_with fail
          refine (K.takeList_is HR.out a n cap _ Hn.out (by omega) hc (HL.out.kept (hC3)) (by decide) (by decide)).mono ?_
          rintro e' w4 ⟨bv, cv, rfl, hcv0, hv1, hb4⟩
          simp only [] at hv1 ⊢
          have hB4 : Below w.heap.size w w4 := (hC3).trans (hb4.mono (hC3).size)
          obtain ⟨q, hq2⟩ : ∃ q, v.length = q := ⟨_, rfl⟩
          rw [hq2]
          have Hq2 := Lib.hid hq2
          clear hq2
          go_upto_region 13 with fail
          go_cut [130] from 109 to 130 (fun c wx => c = .bool false ∧ Below w4.heap.size w4 wx)
          case first =>
            by_cases he : e = 0
            · subst he
              have hbk := takeLs_back HR.out
              have hkn : k ≤ n := by have := hbk.2.2.1; rw [Hn.out] at this; exact this
              have hq2 := Hq2.out
              have hx : ∀ y ∈ v, -9223372036854775808 ≤ y ∧ y ≤ 9223372036854775807 := fun y hy => by have h := hbk.2.2.2.1 y hy; unfold zz at h; split at h <;> omega
              have hqb : q ≤ 5000 := by have h := hbk.2.2.2.2.1; rw [hq2] at h; omega
              have hcv : q ≤ cv := by rw [← hq2]; exact hcv0
              obtain ⟨R, hRe⟩ : ∃ R, listL v = R := ⟨_, rfl⟩
              have HE := Lib.hid (show [] ++ listL v = R by rw [List.nil_append]; exact hRe)
              have HP := Lib.hid (by have := K.putList none [] 0 0 bv v q cv w4.drew rfl hq2 (by decide) (by omega) (Nat.le_refl _) hcv (reads_nil _ _) hv1.drew hx; rw [HE.out] at this; exact this)
              obtain ⟨p, hp, hcvt⟩ := HCut.out k hkn
              obtain ⟨S, hS⟩ : ∃ S, (⟨R.toArray⟩ : ByteArray) = S := ⟨_, rfl⟩
              have HS := Lib.hid (fun W (h : Below w.heap.size w W) => show (convert 22 9 (.slice p k cap)).run Try.prog W = .ok (.string S) W by rw [← hS, ← hRe, ← hbk.1]; exact hcvt W h)
              have Hcv := Lib.hid (fun (W : World) (b : Option Addr) (c : Nat) (h : Bytes W b R) => show (convert 22 9 (.slice b R.length c)).run Try.prog W = .ok (.string S) W by rw [← hS]; exact run_string_bytes Try.underlying22 Try.underlying5 Try.underlying9 W b R R.length c rfl h)
              have hts : (S.toList == S.toList) = true := by simp
              have hts2 : (S.toList != S.toList) = false := by simp
              have i0 : (0 : Int) ≤ (k : Int) := by omega
              have i1 : (k : Int) ≤ (n : Int) := by omega
              have i2 : decide ((k : Int) < 0) = false := decide_eq_false (by omega)
              have i4 : decide (n < k) = false := decide_eq_false (by omega)
              have i3 : decide ((n : Int) < (k : Int)) = false := decide_eq_false (by omega)
              clear hbk hRe hS hcvt hq2
              go_region_held (fun W => (convert 22 9 (.slice p k cap)).run Try.prog W = .ok (.string S) W) ((refine HS.out _ (hB4.trans ((?_ : Below w4.heap.size w4 _).mono hB4.size)); ((repeat' first | with_reducible assumption | exact Below.refl _ _ | with_reducible refine Below.drew ?_ | with_reducible refine Below.drewN ?_ _ | with_reducible refine Below.alloc' ?_ _ | with_reducible refine Below.setCell ?_ (by first | exact Nat.le_refl _ | omega | (simp; done) | (simp; omega)) _ | with_reducible refine Below.after ?_ ‹_›)); done)) (first
                | (go_at_call 27; (with_reducible refine HP.out.mono ?_); rintro e3 w8 ⟨b8, c8, rfl, -, hi8, hb8⟩; have hv8 := Hcv.out _ _ c8 hi8))
              all_goals go_wp2_with fail
              all_goals go_meet
              all_goals exact ⟨rfl, by (repeat' first | with_reducible assumption | exact Below.refl _ _ | with_reducible refine Below.drew ?_ | with_reducible refine Below.drewN ?_ _ | with_reducible refine Below.alloc' ?_ _ | with_reducible refine Below.setCell ?_ (by first | exact Nat.le_refl _ | omega | (simp; done) | (simp; omega)) _ | with_reducible refine Below.after ?_ ‹_›)⟩
            · have e0 : (e == 0) = false := by simpa using he
              clear he
              go_quiet (fail)
              go_wp2_with fail
              go_meet
              exact ⟨rfl, by (repeat' first | with_reducible assumption | exact Below.refl _ _ | with_reducible refine Below.drew ?_ | with_reducible refine Below.drewN ?_ _ | with_reducible refine Below.alloc' ?_ _ | with_reducible refine Below.setCell ?_ (by first | exact Nat.le_refl _ | omega | (simp; done) | (simp; omega)) _ | with_reducible refine Below.after ?_ ‹_›)⟩
          case rest =>
            obtain ⟨rfl, hbx⟩ := hcut
            have hC4 := hB4.trans (hbx.mono hB4.size)
            clear hbx HR
            go_wp2_with fail
            refine (wirAwake_any K _).mono ?_
            rintro e w9 ⟨rfl, hb9⟩
            go_wp2
            go_ret
            exact ⟨rfl, (hC4).trans (hb9.mono (hC4).size)⟩
end
end Go.Proofs.Ytcbaihaigamalaa
