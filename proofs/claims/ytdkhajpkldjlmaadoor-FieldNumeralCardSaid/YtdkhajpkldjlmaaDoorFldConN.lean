/-
  The contracts of the landed package field: isDecimal, Number.
-/
import Derived.Test.YtdkhajpkldjlmaaDoorFldConA
namespace Go.Proofs.YtdkhajpkldjlmaaDoor
set_option linter.unusedVariables false
set_option linter.unusedSimpArgs false
open Go.RowKit

def decB (d : List UInt8) : Bool := d.all isD && (!d.isEmpty && (!zeroL d || decide (d = [48])))
theorem bad_dec (s : List UInt8) : badL s = (!decB (digsL s) || (isNeg s && decide (digsL s = [48]))) := by
  unfold badL decB
  cases hn : isNeg s
  · have hd : digsL s = s := by unfold digsL; rw [hn]; rfl
    rw [hd]
    cases s.all isD <;> cases s.isEmpty <;> cases zeroL s <;> cases decide (s = [48]) <;> rfl
  · have h48 : decide (s = [48]) = false := by
      apply decide_eq_false
      rintro rfl
      cases hn
    have hz : decide (digsL s = [48]) = true → zeroL (digsL s) = true := fun h => by
      rw [of_decide_eq_true h]; rfl
    rw [h48]
    cases (digsL s).all isD <;> cases (digsL s).isEmpty <;> cases hz0 : zeroL (digsL s) <;> cases hd0 : decide (digsL s = [48]) <;> first | rfl | (rw [hz hd0] at hz0; cases hz0)

set_option maxRecDepth 20000 in
set_option maxHeartbeats 4000000 in
theorem isDec_any (s : ByteArray) (w : World) (hs : s.size ≤ 1000000) :
    Calls Tryd.prog 9 #[.string s] w fun e w' => e = .returned (.bool (decB s.data.toList)) ∧ w = w' := by
  by_cases h0 : s.size = 0
  · obtain rfl := is_empty h0
    clear h0
    go_enter Tryd.func9, Tryd.ntmps9
    go_wp2
    go_loop [3, 6] (fun _ i => i = .int .i64 0) (fun _ _ => 0)
    case atStart => exact rfl
    case round =>
      obtain rfl := hrel
      go_wp2
      go_ret
      exact ⟨rfl, rfl⟩
  · have hs0 : 0 < s.size := by omega
    have Hzr := Lib.hid (zero_is s hs0)
    obtain ⟨e1, e2⟩ := ne_empty hs0
    have hne : s.data.toList.isEmpty = false := by rw [← ByteArray.toList_eq]; exact e1
    have Hne := Lib.hid hne
    obtain ⟨q, hq⟩ : ∃ q, (s.toList == [48]) = q := ⟨_, rfl⟩
    have Hq := Lib.hid (show decide (s.data.toList = [48]) = q by rw [← str_zero, hq])
    clear h0 hne
    obtain ⟨z, hz⟩ : ∃ y : Nat, (s[0]'hs0).toNat = y := ⟨_, rfl⟩
    have Hz := Lib.hid hz
    go_enter Tryd.func9, Tryd.ntmps9
    go_wp2
    go_loop [3, 6] (fun _ i => ∃ k : Nat, k ≤ s.size ∧ i = .int .i64 k ∧ Hid ((s.data.toList.take k).all isD = true)) (fun _ i => s.size - (intOf i).toNat)
    case atStart => exact ⟨0, Nat.zero_le _, rfl, rfl⟩
    case round =>
      obtain ⟨k, hk, rfl, Hall⟩ := hrel
      by_cases hlt : k < s.size
      · have Hx2 := Lib.hid (all_take isD s k hlt)
        have Hn2 := Lib.hid (all_not isD s k hlt)
        clear hz e1 e2 hq
        obtain ⟨y, hy⟩ : ∃ y : Nat, (s[k]'hlt).toNat = y := ⟨_, rfl⟩
        have Hy := Lib.hid hy
        have hu : y < 256 := by rw [← hy]; exact (s[k]'hlt).toNat_lt
        by_cases h2 : y < 48
        · have E := Lib.hid (show decB s.data.toList = false by unfold decB; rw [Hn2.out (by simp [isD, Hy.out]; omega)]; rfl)
          go_wp2
          go_ret
          exact ⟨by rw [E.out]; rfl, rfl⟩
        · by_cases h3 : 57 < y
          · have E := Lib.hid (show decB s.data.toList = false by unfold decB; rw [Hn2.out (by simp [isD, Hy.out]; omega)]; rfl)
            go_wp2
            go_ret
            exact ⟨by rw [E.out]; rfl, rfl⟩
          · have E := Lib.hid (show (s.data.toList.take (k + 1)).all isD = true by rw [Hx2.out, Hall.out]; simp [isD, Hy.out]; omega)
            go_wp2
            go_round
            case rel => exact ⟨k + 1, by omega, by go_num, E⟩
            case measure => simp [intOf]; omega
      · have HA := Lib.hid (all_end isD s k hlt Hall.out)
        by_cases hz48 : z = 48
        · have E := Lib.hid (show decB s.data.toList = q by
            unfold decB
            rw [HA.out, Hne.out, Hzr.out, Hz.out, Hq.out, hz48]
            cases q <;> rfl)
          have n1 : ((z : Int) != 48) = false := by simp; omega
          have n2 : ((z : Int) == 48) = true := by simp; omega
          clear hz48
          go_wp2
          go_ret
          exact ⟨by rw [E.out]; rfl, rfl⟩
        · have E := Lib.hid (show decB s.data.toList = true by
            unfold decB
            rw [HA.out, Hne.out, Hzr.out, Hz.out, decide_eq_false hz48]
            rfl)
          have n1 : ((z : Int) != 48) = true := by simpa using (by omega : (z : Int) ≠ 48)
          have n2 : ((z : Int) == 48) = false := by simp; omega
          clear hz48
          go_wp2
          go_ret
          exact ⟨by rw [E.out]; rfl, rfl⟩
theorem isDec_is {s : ByteArray} {r : Bool} (h : decB s.data.toList = r) (w : World) (hs : s.size ≤ 1000000) :
    Calls Tryd.prog 9 #[.string s] w fun e w' => e = .returned (.bool r) ∧ w = w' := by
  have := isDec_any s w hs
  rwa [h] at this
theorem cutP_is {s d : ByteArray} {g : Bool} (hd : ofL (digsL s.data.toList) = d) (hg : isNeg s.data.toList = g) (w : World) :
    Calls Tryd.prog 8 #[.string s, .string ⟨#[45]⟩] w fun e w' => e = .returned (.tuple #[.string d, .bool g]) ∧ w = w' := by
  have := cutPrefix_any s w
  rwa [hd, hg] at this

set_option maxRecDepth 20000 in
set_option maxHeartbeats 8000000 in
theorem number_any (s : ByteArray) (w : World) (hs : s.size ≤ 1000000) :
    Calls Tryd.prog 5 #[.string s] w fun e w' => e = .returned (.tuple #[.int .i64 (numL s.data.toList).1, .int .i64 (numL s.data.toList).2]) ∧ w = w' := by
  obtain ⟨R, hR⟩ : ∃ R, numL s.data.toList = R := ⟨_, rfl⟩
  have HR := Lib.hid hR
  rw [hR]
  clear hR
  obtain ⟨d, hd⟩ : ∃ d, ofL (digsL s.data.toList) = d := ⟨_, rfl⟩
  obtain ⟨g, hg⟩ : ∃ g, isNeg s.data.toList = g := ⟨_, rfl⟩
  obtain ⟨b, hb⟩ : ∃ b, decB d.data.toList = b := ⟨_, rfl⟩
  obtain ⟨q, hq⟩ : ∃ q, (d.toList == [48]) = q := ⟨_, rfl⟩
  have hd' : digsL s.data.toList = d.data.toList := by rw [← hd]; rfl
  have hds : d.size ≤ s.size := by
    have h1 : d.size = d.data.toList.length := rfl
    have h2 : s.size = s.data.toList.length := rfl
    rw [h1, h2, ← hd']
    unfold digsL
    split
    · simp
    · exact Nat.le_refl _
  have HD := Lib.hid hd'
  have HN := Lib.hid hg
  have HB := Lib.hid (show badL s.data.toList = (!b || (g && q)) by rw [bad_dec, hd', hb, hg, ← str_zero, hq])
  have HC := Lib.hid (cutP_is hd hg w)
  have HI := Lib.hid (isDec_is hb w (by omega))
  have HA := Lib.hid (show b = true → d.data.toList.all isD = true from fun h => by
    rw [h] at hb
    unfold decB at hb
    rw [Bool.and_eq_true] at hb
    exact hb.1)
  clear hd hg hb hd'
  by_cases hbad : badL s.data.toList = true
  · have E := Lib.hid (show R = (0, 3) by rw [← HR.out, num_bad hbad])
    rw [HB.out] at hbad
    cases b
    · clear hbad
      go_enter Tryd.func5, Tryd.ntmps5
      go_wp2_with fail
      ((with_reducible refine HC.out.mono ?_))
      rintro e w1 ⟨rfl, rfl⟩
      go_wp2_with fail
      ((with_reducible refine HI.out.mono ?_))
      rintro e w1 ⟨rfl, rfl⟩
      go_wp2
      go_ret2
      exact ⟨by rw [E.out]; rfl, rfl⟩
    · obtain ⟨rfl, rfl⟩ : g = true ∧ q = true := by simpa using hbad
      clear hbad
      go_enter Tryd.func5, Tryd.ntmps5
      go_wp2_with fail
      ((with_reducible refine HC.out.mono ?_))
      rintro e w1 ⟨rfl, rfl⟩
      go_wp2_with fail
      ((with_reducible refine HI.out.mono ?_))
      rintro e w1 ⟨rfl, rfl⟩
      go_wp2
      go_ret2
      exact ⟨by rw [E.out]; rfl, rfl⟩
  · have hbad2 : badL s.data.toList = false := by simpa using hbad
    have HG := Lib.hid hbad2
    rw [HB.out] at hbad2
    have hb1 : b = true := by cases b with | true => rfl | false => cases hbad2
    subst hb1
    have HA2 := Lib.hid (HA.out rfl)
    clear hbad
    cases g
    · clear hbad2
      go_enter Tryd.func5, Tryd.ntmps5
      go_wp2_with fail
      ((with_reducible refine HC.out.mono ?_))
      rintro e w1 ⟨rfl, rfl⟩
      go_wp2_with fail
      ((with_reducible refine HI.out.mono ?_))
      rintro e w1 ⟨rfl, rfl⟩
      go_wp2
      clear hq
      go_loop [6, 7, 25] (fun t _ i => ∃ (k n : Nat), k ≤ d.size ∧ i = .int .i64 k ∧ t = .int .i64 n ∧ n ≤ 1000000000000 ∧ Hid (rdA (d.data.toList.take k) 0 = n)) (fun _ _ i => d.size - (intOf i).toNat)
      case atStart => exact ⟨0, 0, Nat.zero_le _, rfl, rfl, Nat.zero_le _, rfl⟩
      case round =>
        obtain ⟨k, n, hk, rfl, rfl, hn, Hr⟩ := hrel
        by_cases hlt : k < d.size
        · obtain ⟨y, hy⟩ : ∃ y : Nat, (d[k]'hlt).toNat = y := ⟨_, rfl⟩
          have hdg : 48 ≤ y ∧ y ≤ 57 := by
            have := List.all_eq_true.1 HA2.out (d[k]'hlt) (List.getElem_mem (by simpa using hlt))
            rw [← hy]
            simpa [isD] using this
          obtain ⟨y1, y2⟩ := hdg
          have Hst := Lib.hid (show rdA (d.data.toList.take (k + 1)) 0 = 10 * n + (y - 48) by rw [rdA_take d k hlt (by rw [hy]; exact ⟨y1, y2⟩), Hr.out, hy])
          have Hle := Lib.hid (rdA_take_le d (k + 1))
          have i1 : (48 : Int) ≤ (y : Int) := by omega
          have i2 : (y : Int) ≤ 57 := by omega
          obtain ⟨m, hm⟩ : ∃ m, 10 * n + (y - 48) = m := ⟨_, rfl⟩
          have hmi : 10 * (n : Int) + ((y : Int) - 48) = (m : Int) := by omega
          rw [hm] at Hst
          have hm2 : m ≤ 20000000000000 := by omega
          clear hm
          by_cases hg : 1000000000000 < m
          · have E := Lib.hid (show R = (0, 1) by
              rw [← HR.out]
              exact num_range HG.out HD.out (by have h1 := Hst.out; have h2 := Hle.out; omega))
            go_wp2
            go_ret2
            exact ⟨by rw [E.out]; rfl, rfl⟩
          · go_wp2
            go_round
            case rel => exact ⟨k + 1, m, by omega, by go_num, by go_num, by omega, Hst⟩
            case measure => simp [intOf]; omega
        · have E := Lib.hid (show R = ((n : Int), 0) by
            have h2 : d.data.toList.take k = d.data.toList := List.take_of_length_le (by have : d.data.toList.length = d.size := rfl; omega)
            have h3 := Hr.out
            rw [h2] at h3
            rw [← HR.out, num_pos HG.out HD.out (by omega) HN.out, h3])
          go_wp2
          go_ret2
          exact ⟨by rw [E.out]; rfl, rfl⟩
    · obtain rfl : q = false := by simpa using hbad2
      clear hbad2
      go_enter Tryd.func5, Tryd.ntmps5
      go_wp2_with fail
      ((with_reducible refine HC.out.mono ?_))
      rintro e w1 ⟨rfl, rfl⟩
      go_wp2_with fail
      ((with_reducible refine HI.out.mono ?_))
      rintro e w1 ⟨rfl, rfl⟩
      go_wp2
      clear hq
      go_loop [6, 7, 25] (fun t _ i => ∃ (k n : Nat), k ≤ d.size ∧ i = .int .i64 k ∧ t = .int .i64 n ∧ n ≤ 1000000000000 ∧ Hid (rdA (d.data.toList.take k) 0 = n)) (fun _ _ i => d.size - (intOf i).toNat)
      case atStart => exact ⟨0, 0, Nat.zero_le _, rfl, rfl, Nat.zero_le _, rfl⟩
      case round =>
        obtain ⟨k, n, hk, rfl, rfl, hn, Hr⟩ := hrel
        by_cases hlt : k < d.size
        · obtain ⟨y, hy⟩ : ∃ y : Nat, (d[k]'hlt).toNat = y := ⟨_, rfl⟩
          have hdg : 48 ≤ y ∧ y ≤ 57 := by
            have := List.all_eq_true.1 HA2.out (d[k]'hlt) (List.getElem_mem (by simpa using hlt))
            rw [← hy]
            simpa [isD] using this
          obtain ⟨y1, y2⟩ := hdg
          have Hst := Lib.hid (show rdA (d.data.toList.take (k + 1)) 0 = 10 * n + (y - 48) by rw [rdA_take d k hlt (by rw [hy]; exact ⟨y1, y2⟩), Hr.out, hy])
          have Hle := Lib.hid (rdA_take_le d (k + 1))
          have i1 : (48 : Int) ≤ (y : Int) := by omega
          have i2 : (y : Int) ≤ 57 := by omega
          obtain ⟨m, hm⟩ : ∃ m, 10 * n + (y - 48) = m := ⟨_, rfl⟩
          have hmi : 10 * (n : Int) + ((y : Int) - 48) = (m : Int) := by omega
          rw [hm] at Hst
          have hm2 : m ≤ 20000000000000 := by omega
          clear hm
          by_cases hg : 1000000000000 < m
          · have E := Lib.hid (show R = (0, 1) by
              rw [← HR.out]
              exact num_range HG.out HD.out (by have h1 := Hst.out; have h2 := Hle.out; omega))
            go_wp2
            go_ret2
            exact ⟨by rw [E.out]; rfl, rfl⟩
          · go_wp2
            go_round
            case rel => exact ⟨k + 1, m, by omega, by go_num, by go_num, by omega, Hst⟩
            case measure => simp [intOf]; omega
        · have E := Lib.hid (show R = (-(n : Int), 0) by
            have h2 : d.data.toList.take k = d.data.toList := List.take_of_length_le (by have : d.data.toList.length = d.size := rfl; omega)
            have h3 := Hr.out
            rw [h2] at h3
            rw [← HR.out, num_neg HG.out HD.out (by omega) HN.out, h3])
          go_wp2
          go_ret2
          exact ⟨by rw [E.out]; rfl, rfl⟩
end Go.Proofs.YtdkhajpkldjlmaaDoor
