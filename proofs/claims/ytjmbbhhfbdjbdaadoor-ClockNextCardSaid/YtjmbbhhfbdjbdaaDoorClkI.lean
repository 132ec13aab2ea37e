/-
  Walks over the reference of package clock: number, Parse.
-/
import Derived.Test.YtjmbbhhfbdjbdaaDoorClkH
import Derived.Deep.RegionWith
namespace Go.Proofs.YtjmbbhhfbdjbdaaDoor
open Go.RowKit

set_option maxRecDepth 20000 in
set_option maxHeartbeats 1000000 in
theorem rNumber_any (s : ByteArray) (w : World) (hs : s.size ≤ 9) :
    Calls Tryd.prog 36 #[.string s] w fun e w' => e = .returned (.int .i64 (numA s.data.toList 0)) ∧ w' = w := by
  go_enter Tryd.func36, Tryd.ntmps36
  go_wp2
  go_loop [3, 4] (fun v i => ∃ (pos n : Nat), v = .int .i64 n ∧ i = .int .i64 pos ∧ pos ≤ s.size ∧ n < 10 ^ pos ∧ Hid (numA (s.data.toList.drop pos) n = numA s.data.toList 0)) (fun _ i => s.size - (intOf i).toNat)
  case atStart => exact ⟨0, 0, rfl, rfl, by omega, by decide, rfl⟩
  case round =>
    obtain ⟨pos, n, rfl, rfl, hp, hn, hr⟩ := hrel
    have hn9 : n < 1000000000 := Nat.lt_of_lt_of_le hn (Nat.pow_le_pow_right (by omega) (by omega) : 10 ^ pos ≤ 10 ^ 9)
    by_cases hl : pos < s.size
    · have hcons := tail_at s pos hl
      obtain ⟨c, hc⟩ : ∃ c, s[pos]'hl = c := ⟨_, rfl⟩
      rw [hc] at hcons
      rw [hcons] at hr
      obtain ⟨x, hx⟩ : ∃ x, c.toNat = x := ⟨_, rfl⟩
      have hx2 : (s[pos]'hl).toNat = x := by rw [hc, hx]
      have Hx := Lib.hid hx
      clear hc hx hcons
      by_cases hd : 48 ≤ x ∧ x ≤ 57
      · obtain ⟨hd1, hd2⟩ := hd
        have step := numA_digit (c := c) (r := s.data.toList.drop (pos + 1)) (n := n) (by rw [Hx.out]; exact ⟨hd1, hd2⟩)
        rw [hr.out, Hx.out] at step
        have Step := Lib.hid step
        clear step hr
        go_wp2
        go_round
        case rel => exact ⟨pos + 1, 10 * n + (x - 48), by go_num, by go_num, by omega, by rw [Nat.pow_succ]; omega, Step.out.symm⟩
        case measure => simp [intOf]; omega
      · have E := Lib.hid (show numA s.data.toList 0 = -1 by rw [← hr.out, numA_else (by rw [Hx.out]; exact hd)])
        clear hr
        go_wp2
        all_goals go_ret
        all_goals exact ⟨by rw [E.out]; rfl, rfl⟩
    · have e := tail_end s pos hl
      rw [e] at hr
      have E := Lib.hid (show numA s.data.toList 0 = n by rw [← hr.out]; rfl)
      clear hr e
      go_wp2
      go_ret
      exact ⟨by rw [E.out]; rfl, rfl⟩

theorem rNumber_is (s : ByteArray) (w : World) (hs : s.size ≤ 9) (V : Int) (hV : Hid (numA s.data.toList 0 = V)) :
    Calls Tryd.prog 36 #[.string s] w fun e w' => e = .returned (.int .i64 V) ∧ w' = w := by
  have h := rNumber_any s w hs
  rw [hV.out] at h
  exact h
theorem rFormat_yes (t : Int) (w : World) (h : Hid (mB t = true)) (u : ByteArray) (hu : Hid (u.data.toList = fmtC t)) :
    Calls Tryd.prog 18 #[.int .i64 t] w fun e w' => e = .returned (.tuple #[.string u, .int .i64 0]) ∧ Below w.heap.size w w' := by
  have h' := rFormat_any t w
  rw [formatC_yes h.out, ← str_of hu.out] at h'
  exact h'
theorem rFormat_no (t : Int) (w : World) (h : Hid (mB t = false)) :
    Calls Tryd.prog 18 #[.int .i64 t] w fun e w' => e = .returned (.tuple #[.string ⟨#[]⟩, .int .i64 1]) ∧ Below w.heap.size w w' := by
  have h' := rFormat_any t w
  rw [formatC_no h.out] at h'
  exact h'
theorem len_data (s : ByteArray) : s.data.toList.length = s.size := rfl

set_option maxRecDepth 20000 in
set_option maxHeartbeats 2000000 in
theorem rParse_any (s : ByteArray) (w : World) (hs : s.size ≤ 9223372036854775807) :
    Calls Tryd.prog 20 #[.string s] w fun e w' => e = .returned (.tuple #[.int .i64 (parseC s.data.toList).1, .int .i64 (parseC s.data.toList).2]) ∧ Below w.heap.size w w' := by
  by_cases hn : 10 ≤ s.size ∧ s.size ≤ 14
  · obtain ⟨n, hz⟩ : ∃ n, s.size = n + 9 := ⟨s.size - 9, by omega⟩
    have hn1 : 1 ≤ n ∧ n ≤ 5 := by omega
    obtain ⟨hn1, hn2⟩ := hn1
    obtain ⟨a, ha, za, fa⟩ := slice_to s n (by omega)
    obtain ⟨b, hb, zb, fb⟩ := slice_mid s n 1 3 1 3 rfl rfl (by omega) (by omega)
    obtain ⟨c, hc, zc, fc⟩ := slice_mid s n 4 6 4 6 rfl rfl (by omega) (by omega)
    obtain ⟨d, hd, zd, fd⟩ := slice_from s n 7 7 rfl (by omega)
    have ra : a.size ≤ 9 := by omega
    have rb : b.size ≤ 9 := by omega
    have rc : c.size ≤ 9 := by omega
    have rd : d.size ≤ 9 := by omega
    obtain ⟨A, hA⟩ : ∃ A, numA a.data.toList 0 = A := ⟨_, rfl⟩
    obtain ⟨B, hB⟩ : ∃ B, numA b.data.toList 0 = B := ⟨_, rfl⟩
    obtain ⟨C, hC⟩ : ∃ C, numA c.data.toList 0 = C := ⟨_, rfl⟩
    obtain ⟨D, hD⟩ : ∃ D, numA d.data.toList 0 = D := ⟨_, rfl⟩
    have bA := numA_bounds (len_data a)
    have bB := numA_bounds (len_data b)
    have bC := numA_bounds (len_data c)
    have bD := numA_bounds (len_data d)
    have pA : 10 ^ a.size ≤ 10 ^ 5 := Nat.pow_le_pow_right (by omega) (by omega)
    rw [hA] at bA
    rw [hB, zb] at bB
    rw [hC, zc] at bC
    rw [hD, zd] at bD
    rw [show s.size - (n + 7) = 2 by omega] at bD
    have bA' : -1 ≤ A ∧ A < 100000 := by omega
    have bB' : -1 ≤ B ∧ B < 100 := bB
    have bC' : -1 ≤ C ∧ C < 100 := bC
    have bD' : -1 ≤ D ∧ D < 100 := bD
    clear bA bB bC bD pA za zb zc zd
    -- what every moment with this text must be
    have only : ∀ t', mB t' = true → fmtC t' = s.data.toList → A = t' / 86400 ∧ B = t' % 86400 / 3600 ∧ C = t' % 86400 / 60 % 60 ∧ D = t' % 60 := by
      intro t' h1 h2
      obtain ⟨n', k, _, _, q1, q2, q3, q4⟩ := parts h1 h2
      have : n' = n := by rw [len_data] at k; omega
      subst this
      rw [← q1, ← q2, ← q3, ← q4, ← hA, ← hB, ← hC, ← hD, ha, hb, hc, hd]
      exact ⟨rfl, rfl, rfl, rfl⟩
    have HA := Lib.hid hA
    have HB := Lib.hid hB
    have HC := Lib.hid hC
    have HD := Lib.hid hD
    have HO := Lib.hid only
    clear ha hb hc hd hA hB hC hD only
    by_cases neg : A < 0 ∨ B < 0 ∨ C < 0 ∨ D < 0
    · have e : parseC s.data.toList = (0, 3) := parseC_no (fun t' h1 h2 => by
        have h3 := HO.out t' h1 h2
        have h4 := mB_true.1 h1
        omega)
      rw [e]
      go_enter Tryd.func20, Tryd.ntmps20
      go_wp2_with fail
      go_quiet (first | (go_at_call_of 36 (Value.string a); exact Calls.quiet_of_same (rNumber_is a _ ra A HA)) | (go_at_call_of 36 (Value.string b); exact Calls.quiet_of_same (rNumber_is b _ rb B HB)) | (go_at_call_of 36 (Value.string c); exact Calls.quiet_of_same (rNumber_is c _ rc C HC)) | (go_at_call_of 36 (Value.string d); exact Calls.quiet_of_same (rNumber_is d _ rd D HD)))
      go_wp2
      all_goals go_ret2
      all_goals exact ⟨rfl, (Below.refl _ _).drewN _⟩
    · have pA : 0 ≤ A := by omega
      have pB : 0 ≤ B := by omega
      have pC : 0 ≤ C := by omega
      have pD : 0 ≤ D := by omega
      clear neg
      cases hm : mB (A * 86400 + B * 3600 + C * 60 + D)
      · have e : parseC s.data.toList = (0, 3) := parseC_no (fun t' h1 h2 => by
          have h3 := HO.out t' h1 h2
          have h4 := mB_true.1 h1
          have h5 := mB_false.1 hm
          omega)
        rw [e]
        have HM := Lib.hid hm
        clear hm e
        go_enter Tryd.func20, Tryd.ntmps20
        go_wp2_with fail
        go_quiet (first | (go_at_call_of 36 (Value.string a); exact Calls.quiet_of_same (rNumber_is a _ ra A HA)) | (go_at_call_of 36 (Value.string b); exact Calls.quiet_of_same (rNumber_is b _ rb B HB)) | (go_at_call_of 36 (Value.string c); exact Calls.quiet_of_same (rNumber_is c _ rc C HC)) | (go_at_call_of 36 (Value.string d); exact Calls.quiet_of_same (rNumber_is d _ rd D HD)))
        go_wp2_with fail
        refine (rFormat_no _ _ HM).mono ?_
        rintro e w1 ⟨rfl, hb1⟩
        go_wp2
        go_ret2
        exact ⟨rfl, by (repeat' first | with_reducible assumption | exact Below.refl _ _ | with_reducible refine Below.drew ?_ | with_reducible refine Below.drewN ?_ _ | with_reducible refine Below.alloc' ?_ _ | with_reducible refine Below.setCell ?_ (by first | exact Nat.le_refl _ | omega | (simp; done) | (simp; omega)) _ | with_reducible refine Below.after ?_ ‹_›)⟩
      · obtain ⟨u, hu⟩ : ∃ u : ByteArray, u.data.toList = fmtC (A * 86400 + B * 3600 + C * 60 + D) := ⟨⟨(fmtC (A * 86400 + B * 3600 + C * 60 + D)).toArray⟩, rfl⟩
        by_cases hf : u.data.toList = s.data.toList
        · have e : parseC s.data.toList = (A * 86400 + B * 3600 + C * 60 + D, 0) := parseC_yes hm (by rw [← hu, hf])
          rw [e]
          have hts : (u.toList == s.toList) = true := by rw [ByteArray.toList_eq, ByteArray.toList_eq, hf]; simp
          have HM := Lib.hid hm
          have HU := Lib.hid hu
          clear hm e hu hf
          go_enter Tryd.func20, Tryd.ntmps20
          go_wp2_with fail
          go_quiet (first | (go_at_call_of 36 (Value.string a); exact Calls.quiet_of_same (rNumber_is a _ ra A HA)) | (go_at_call_of 36 (Value.string b); exact Calls.quiet_of_same (rNumber_is b _ rb B HB)) | (go_at_call_of 36 (Value.string c); exact Calls.quiet_of_same (rNumber_is c _ rc C HC)) | (go_at_call_of 36 (Value.string d); exact Calls.quiet_of_same (rNumber_is d _ rd D HD)))
          go_wp2_with fail
          refine (rFormat_yes _ _ HM u HU).mono ?_
          rintro e w1 ⟨rfl, hb1⟩
          go_wp2
          go_ret2
          exact ⟨rfl, by (repeat' first | with_reducible assumption | exact Below.refl _ _ | with_reducible refine Below.drew ?_ | with_reducible refine Below.drewN ?_ _ | with_reducible refine Below.alloc' ?_ _ | with_reducible refine Below.setCell ?_ (by first | exact Nat.le_refl _ | omega | (simp; done) | (simp; omega)) _ | with_reducible refine Below.after ?_ ‹_›)⟩
        · have e : parseC s.data.toList = (0, 3) := parseC_no (fun t' h1 h2 => by
            have h3 := HO.out t' h1 h2
            have h4 := mB_true.1 h1
            have h5 : A * 86400 + B * 3600 + C * 60 + D = t' := by omega
            rw [h5, h2] at hu
            exact hf hu)
          rw [e]
          have hts : (u.toList == s.toList) = false := by rw [ByteArray.toList_eq, ByteArray.toList_eq]; simpa using hf
          have HM := Lib.hid hm
          have HU := Lib.hid hu
          clear hm e hu hf
          go_enter Tryd.func20, Tryd.ntmps20
          go_wp2_with fail
          go_quiet (first | (go_at_call_of 36 (Value.string a); exact Calls.quiet_of_same (rNumber_is a _ ra A HA)) | (go_at_call_of 36 (Value.string b); exact Calls.quiet_of_same (rNumber_is b _ rb B HB)) | (go_at_call_of 36 (Value.string c); exact Calls.quiet_of_same (rNumber_is c _ rc C HC)) | (go_at_call_of 36 (Value.string d); exact Calls.quiet_of_same (rNumber_is d _ rd D HD)))
          go_wp2_with fail
          refine (rFormat_yes _ _ HM u HU).mono ?_
          rintro e w1 ⟨rfl, hb1⟩
          go_wp2
          go_ret2
          exact ⟨rfl, by (repeat' first | with_reducible assumption | exact Below.refl _ _ | with_reducible refine Below.drew ?_ | with_reducible refine Below.drewN ?_ _ | with_reducible refine Below.alloc' ?_ _ | with_reducible refine Below.setCell ?_ (by first | exact Nat.le_refl _ | omega | (simp; done) | (simp; omega)) _ | with_reducible refine Below.after ?_ ‹_›)⟩
  · have e : parseC s.data.toList = (0, 3) := parseC_no (fun t' h1 h2 => by
      obtain ⟨n', k, k1, k2, _⟩ := parts h1 h2
      rw [len_data] at k
      omega)
    rw [e]
    go_enter Tryd.func20, Tryd.ntmps20
    go_wp2
    all_goals go_ret2
    all_goals exact ⟨rfl, Below.refl _ _⟩
end Go.Proofs.YtjmbbhhfbdjbdaaDoor
