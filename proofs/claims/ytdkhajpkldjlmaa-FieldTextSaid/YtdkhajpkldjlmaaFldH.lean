/-
  Walks over the reference of package field: Number.
-/
import Derived.Test.YtdkhajpkldjlmaaFldU
namespace Go.Proofs.Ytdkhajpkldjlmaa
set_option linter.unusedVariables false
set_option linter.unusedSimpArgs false
open Go.RowKit

set_option maxRecDepth 20000 in
set_option maxHeartbeats 8000000 in
theorem rNumber_any (s : ByteArray) (w : World) (hs : s.size ≤ 1000000) :
    Calls Try.prog 21 #[.string s] w fun e w' => e = .returned (.tuple #[.int .i64 (numL s.data.toList).1, .int .i64 (numL s.data.toList).2]) ∧ w = w' := by
  obtain ⟨R, hR⟩ : ∃ R, numL s.data.toList = R := ⟨_, rfl⟩
  have HR := Lib.hid hR
  rw [hR]
  clear hR
  by_cases h0 : s.size = 0
  · obtain rfl := is_empty h0
    have E := Lib.hid (show R = (0, 3) by rw [← HR.out]; rfl)
    clear h0
    go_enter Try.func21, Try.ntmps21
    go_wp2
    go_ret2
    exact ⟨by rw [E.out]; rfl, rfl⟩
  · obtain ⟨e1, e2⟩ := ne_empty (s := s) (by omega)
    have hs0 : 0 < s.size := by omega
    have Hng := Lib.hid (neg_is s hs0)
    obtain ⟨x, hx⟩ : ∃ y : Nat, (s[0]'hs0).toNat = y := ⟨_, rfl⟩
    have Hx := Lib.hid hx
    have Htl := Lib.hid (tail_at s 0 hs0)
    obtain ⟨q, hq⟩ : ∃ q, (s.toList == [48]) = q := ⟨_, rfl⟩
    have Hq := Lib.hid (show decide (s.data.toList = [48]) = q by rw [← str_zero, hq])
    clear h0
    by_cases hneg : x = 45
    · have n0 : ((x : Int) == 45) = true := by simp; omega
      have HN := Lib.hid (show isNeg s.data.toList = true by rw [Hng.out, Hx.out]; simpa using hneg)
      obtain ⟨d, hd, hzd, hsd⟩ := slice_drop s 1 (by omega)
      have HD := Lib.hid (show digsL s.data.toList = d.data.toList by
        unfold digsL
        rw [HN.out, hd]
        simp)
      clear hd hneg
      have hsd' : ∀ (W : World), (Instr.slice 9 (.string s) (some (.int .i64 1)) none none).run Try.prog W = .ok (.string d) W := hsd
      clear hsd
      by_cases hd0 : d.size = 0
      · obtain rfl := is_empty hd0
        have E := Lib.hid (show R = (0, 3) by rw [← HR.out, num_bad (bad_empty HD.out)])
        clear hd0 hzd
        go_enter Try.func21, Try.ntmps21
        go_wp2
        go_ret2
        exact ⟨by rw [E.out]; rfl, rfl⟩
      · obtain ⟨d1, d2⟩ := ne_empty (s := d) (by omega)
        have hdp : 0 < d.size := by omega
        have hdm : d.size ≤ 1000000 := by omega
        have Hzr := Lib.hid (zero_is d hdp)
        obtain ⟨z, hz⟩ : ∃ y : Nat, (d[0]'hdp).toNat = y := ⟨_, rfl⟩
        have Hz := Lib.hid hz
        have HB := Lib.hid (bad_is HD.out (show d.data.toList ≠ [] from fun e => by
          have h : d.data.toList.length = d.size := rfl
          rw [e] at h
          simp at h
          omega))
        clear hd0 hzd
        by_cases hbad : z = 48 ∧ q = false
        · obtain ⟨hz48, rfl⟩ := hbad
          have E := Lib.hid (show R = (0, 3) by
            rw [← HR.out, num_bad]
            rw [HB.out, Hzr.out, Hz.out, Hq.out, hz48]
            rfl)
          have n1 : ((z : Int) == 48) = true := by simp; omega
          clear hz48
          go_enter Try.func21, Try.ntmps21
          go_wp2
          go_ret2
          exact ⟨by rw [E.out]; rfl, rfl⟩
        · have HB2 := Lib.hid (show badL s.data.toList = !d.data.toList.all isD by
            rw [HB.out, Hzr.out, Hz.out, Hq.out]
            by_cases h : z = 48
            · have : q = true := by cases q with | true => rfl | false => exact absurd ⟨h, rfl⟩ hbad
              simp [this]
            · simp [h])
          by_cases hz48 : z = 48
          · obtain rfl : q = true := by cases q with | true => rfl | false => exact absurd ⟨hz48, rfl⟩ hbad
            have n1 : ((z : Int) == 48) = true := by simp; omega
            clear hbad hz48
            go_enter Try.func21, Try.ntmps21
            go_wp2
            go_loop [6] (fun i => ∃ k : Nat, k ≤ d.size ∧ i = .int .i64 k ∧ Hid ((d.data.toList.take k).all isD = true)) (fun i => d.size - (intOf i).toNat)
            case atStart => exact ⟨0, Nat.zero_le _, rfl, rfl⟩
            case round =>
              obtain ⟨k, hk, rfl, Hall⟩ := hrel
              clear hz n1 d1 d2
              by_cases hlt : k < d.size
              · have Hx2 := Lib.hid (all_take isD d k hlt)
                have Hn2 := Lib.hid (all_not isD d k hlt)
                obtain ⟨y, hy⟩ : ∃ y : Nat, (d[k]'hlt).toNat = y := ⟨_, rfl⟩
                have Hy := Lib.hid hy
                have hu : y < 256 := by rw [← hy]; exact (d[k]'hlt).toNat_lt
                by_cases h2 : y < 48
                · have E := Lib.hid (show R = (0, 3) by rw [← HR.out, num_bad (by rw [HB2.out, Hn2.out (by simp [isD, Hy.out]; omega)]; rfl)])
                  go_wp2
                  go_ret2
                  exact ⟨by rw [E.out]; rfl, rfl⟩
                · by_cases h3 : 57 < y
                  · have E := Lib.hid (show R = (0, 3) by rw [← HR.out, num_bad (by rw [HB2.out, Hn2.out (by simp [isD, Hy.out]; omega)]; rfl)])
                    go_wp2
                    go_ret2
                    exact ⟨by rw [E.out]; rfl, rfl⟩
                  · have E := Lib.hid (show (d.data.toList.take (k + 1)).all isD = true by rw [Hx2.out, Hall.out]; simp [isD, Hy.out]; omega)
                    go_wp2
                    go_round
                    case rel => exact ⟨k + 1, by omega, by go_num, E⟩
                    case measure => simp [intOf]; omega
              · have HG := Lib.hid (show badL s.data.toList = false by rw [HB2.out, all_end isD d k hlt Hall.out]; rfl)
                have HA := Lib.hid (all_end isD d k hlt Hall.out)
                go_wp2
                go_loop [7, 8] (fun t i => ∃ (k n : Nat), k ≤ d.size ∧ i = .int .i64 k ∧ t = .int .i64 n ∧ n ≤ 1000000000000 ∧ Hid (rdA (d.data.toList.take k) 0 = n)) (fun _ i => d.size - (intOf i).toNat)
                case atStart => exact ⟨0, 0, Nat.zero_le _, rfl, rfl, Nat.zero_le _, rfl⟩
                case round =>
                  clear hk hlt Hall
                  obtain ⟨k, n, hk, rfl, rfl, hn, Hr⟩ := hrel
                  by_cases hlt : k < d.size
                  · obtain ⟨y, hy⟩ : ∃ y : Nat, (d[k]'hlt).toNat = y := ⟨_, rfl⟩
                    have hdg : 48 ≤ y ∧ y ≤ 57 := by
                      have := List.all_eq_true.1 HA.out (d[k]'hlt) (List.getElem_mem (by simpa using hlt))
                      rw [← hy]
                      simpa [isD] using this
                    obtain ⟨y1, y2⟩ := hdg
                    have Hst := Lib.hid (show rdA (d.data.toList.take (k + 1)) 0 = 10 * n + (y - 48) by rw [rdA_take d k hlt (by rw [hy]; exact ⟨y1, y2⟩), Hr.out, hy])
                    have Hle := Lib.hid (rdA_take_le d (k + 1))
                    have i1 : (48 : Int) ≤ (y : Int) := by omega
                    have i2 : (y : Int) ≤ 57 := by omega
                    obtain ⟨m, hm⟩ : ∃ m, 10 * n + (y - 48) = m := ⟨_, rfl⟩
                    have hmi : 10 * (n : Int) + ((y : Int) - 48) = (m : Int) := by omega
                    rw [hm] at Hst
                    have hm2 : m ≤ 20000000000000 := by omega
                    clear hm
                    by_cases hg : 1000000000000 < m
                    · have E := Lib.hid (show R = (0, 1) by
                        rw [← HR.out]
                        exact num_range HG.out HD.out (by have h1 := Hst.out; have h2 := Hle.out; omega))
                      go_wp2
                      go_ret2
                      exact ⟨by rw [E.out]; rfl, rfl⟩
                    · go_wp2
                      go_round
                      case rel => exact ⟨k + 1, m, by omega, by go_num, by go_num, by omega, Hst⟩
                      case measure => simp [intOf]; omega
                  · have E := Lib.hid (show R = (-(n : Int), 0) by
                      have h2 : d.data.toList.take k = d.data.toList := List.take_of_length_le (by have : d.data.toList.length = d.size := rfl; omega)
                      have h3 := Hr.out
                      rw [h2] at h3
                      rw [← HR.out, num_neg HG.out HD.out (by omega) HN.out, h3])
                    go_wp2
                    go_ret2
                    exact ⟨by rw [E.out]; rfl, rfl⟩
          · have n1 : ((z : Int) == 48) = false := by simp; omega
            clear hbad hz48
            go_enter Try.func21, Try.ntmps21
            go_wp2
            go_loop [6] (fun i => ∃ k : Nat, k ≤ d.size ∧ i = .int .i64 k ∧ Hid ((d.data.toList.take k).all isD = true)) (fun i => d.size - (intOf i).toNat)
            case atStart => exact ⟨0, Nat.zero_le _, rfl, rfl⟩
            case round =>
              obtain ⟨k, hk, rfl, Hall⟩ := hrel
              clear hz n1 d1 d2
              by_cases hlt : k < d.size
              · have Hx2 := Lib.hid (all_take isD d k hlt)
                have Hn2 := Lib.hid (all_not isD d k hlt)
                obtain ⟨y, hy⟩ : ∃ y : Nat, (d[k]'hlt).toNat = y := ⟨_, rfl⟩
                have Hy := Lib.hid hy
                have hu : y < 256 := by rw [← hy]; exact (d[k]'hlt).toNat_lt
                by_cases h2 : y < 48
                · have E := Lib.hid (show R = (0, 3) by rw [← HR.out, num_bad (by rw [HB2.out, Hn2.out (by simp [isD, Hy.out]; omega)]; rfl)])
                  go_wp2
                  go_ret2
                  exact ⟨by rw [E.out]; rfl, rfl⟩
                · by_cases h3 : 57 < y
                  · have E := Lib.hid (show R = (0, 3) by rw [← HR.out, num_bad (by rw [HB2.out, Hn2.out (by simp [isD, Hy.out]; omega)]; rfl)])
                    go_wp2
                    go_ret2
                    exact ⟨by rw [E.out]; rfl, rfl⟩
                  · have E := Lib.hid (show (d.data.toList.take (k + 1)).all isD = true by rw [Hx2.out, Hall.out]; simp [isD, Hy.out]; omega)
                    go_wp2
                    go_round
                    case rel => exact ⟨k + 1, by omega, by go_num, E⟩
                    case measure => simp [intOf]; omega
              · have HG := Lib.hid (show badL s.data.toList = false by rw [HB2.out, all_end isD d k hlt Hall.out]; rfl)
                have HA := Lib.hid (all_end isD d k hlt Hall.out)
                go_wp2
                go_loop [7, 8] (fun t i => ∃ (k n : Nat), k ≤ d.size ∧ i = .int .i64 k ∧ t = .int .i64 n ∧ n ≤ 1000000000000 ∧ Hid (rdA (d.data.toList.take k) 0 = n)) (fun _ i => d.size - (intOf i).toNat)
                case atStart => exact ⟨0, 0, Nat.zero_le _, rfl, rfl, Nat.zero_le _, rfl⟩
                case round =>
                  clear hk hlt Hall
                  obtain ⟨k, n, hk, rfl, rfl, hn, Hr⟩ := hrel
                  by_cases hlt : k < d.size
                  · obtain ⟨y, hy⟩ : ∃ y : Nat, (d[k]'hlt).toNat = y := ⟨_, rfl⟩
                    have hdg : 48 ≤ y ∧ y ≤ 57 := by
                      have := List.all_eq_true.1 HA.out (d[k]'hlt) (List.getElem_mem (by simpa using hlt))
                      rw [← hy]
                      simpa [isD] using this
                    obtain ⟨y1, y2⟩ := hdg
                    have Hst := Lib.hid (show rdA (d.data.toList.take (k + 1)) 0 = 10 * n + (y - 48) by rw [rdA_take d k hlt (by rw [hy]; exact ⟨y1, y2⟩), Hr.out, hy])
                    have Hle := Lib.hid (rdA_take_le d (k + 1))
                    have i1 : (48 : Int) ≤ (y : Int) := by omega
                    have i2 : (y : Int) ≤ 57 := by omega
                    obtain ⟨m, hm⟩ : ∃ m, 10 * n + (y - 48) = m := ⟨_, rfl⟩
                    have hmi : 10 * (n : Int) + ((y : Int) - 48) = (m : Int) := by omega
                    rw [hm] at Hst
                    have hm2 : m ≤ 20000000000000 := by omega
                    clear hm
                    by_cases hg : 1000000000000 < m
                    · have E := Lib.hid (show R = (0, 1) by
                        rw [← HR.out]
                        exact num_range HG.out HD.out (by have h1 := Hst.out; have h2 := Hle.out; omega))
                      go_wp2
                      go_ret2
                      exact ⟨by rw [E.out]; rfl, rfl⟩
                    · go_wp2
                      go_round
                      case rel => exact ⟨k + 1, m, by omega, by go_num, by go_num, by omega, Hst⟩
                      case measure => simp [intOf]; omega
                  · have E := Lib.hid (show R = (-(n : Int), 0) by
                      have h2 : d.data.toList.take k = d.data.toList := List.take_of_length_le (by have : d.data.toList.length = d.size := rfl; omega)
                      have h3 := Hr.out
                      rw [h2] at h3
                      rw [← HR.out, num_neg HG.out HD.out (by omega) HN.out, h3])
                    go_wp2
                    go_ret2
                    exact ⟨by rw [E.out]; rfl, rfl⟩
    · have n0 : ((x : Int) == 45) = false := by simp; omega
      have HN := Lib.hid (show isNeg s.data.toList = false by rw [Hng.out, Hx.out]; simpa using hneg)
      obtain ⟨d, hd, hzd, hsd⟩ := slice_drop s 0 (by omega)
      have HD := Lib.hid (show digsL s.data.toList = d.data.toList by
        unfold digsL
        rw [HN.out, hd]
        simp)
      clear hd hneg
      have hsd' : ∀ (W : World), (Instr.slice 9 (.string s) (some (.int .i64 0)) none none).run Try.prog W = .ok (.string d) W := hsd
      clear hsd
      by_cases hd0 : d.size = 0
      · obtain rfl := is_empty hd0
        have E := Lib.hid (show R = (0, 3) by rw [← HR.out, num_bad (bad_empty HD.out)])
        clear hd0 hzd
        go_enter Try.func21, Try.ntmps21
        go_wp2
        go_ret2
        exact ⟨by rw [E.out]; rfl, rfl⟩
      · obtain ⟨d1, d2⟩ := ne_empty (s := d) (by omega)
        have hdp : 0 < d.size := by omega
        have hdm : d.size ≤ 1000000 := by omega
        have Hzr := Lib.hid (zero_is d hdp)
        obtain ⟨z, hz⟩ : ∃ y : Nat, (d[0]'hdp).toNat = y := ⟨_, rfl⟩
        have Hz := Lib.hid hz
        have HB := Lib.hid (bad_is HD.out (show d.data.toList ≠ [] from fun e => by
          have h : d.data.toList.length = d.size := rfl
          rw [e] at h
          simp at h
          omega))
        clear hd0 hzd
        by_cases hbad : z = 48 ∧ q = false
        · obtain ⟨hz48, rfl⟩ := hbad
          have E := Lib.hid (show R = (0, 3) by
            rw [← HR.out, num_bad]
            rw [HB.out, Hzr.out, Hz.out, Hq.out, hz48]
            rfl)
          have n1 : ((z : Int) == 48) = true := by simp; omega
          clear hz48
          go_enter Try.func21, Try.ntmps21
          go_wp2
          go_ret2
          exact ⟨by rw [E.out]; rfl, rfl⟩
        · have HB2 := Lib.hid (show badL s.data.toList = !d.data.toList.all isD by
            rw [HB.out, Hzr.out, Hz.out, Hq.out]
            by_cases h : z = 48
            · have : q = true := by cases q with | true => rfl | false => exact absurd ⟨h, rfl⟩ hbad
              simp [this]
            · simp [h])
          by_cases hz48 : z = 48
          · obtain rfl : q = true := by cases q with | true => rfl | false => exact absurd ⟨hz48, rfl⟩ hbad
            have n1 : ((z : Int) == 48) = true := by simp; omega
            clear hbad hz48
            go_enter Try.func21, Try.ntmps21
            go_wp2
            go_loop [6] (fun i => ∃ k : Nat, k ≤ d.size ∧ i = .int .i64 k ∧ Hid ((d.data.toList.take k).all isD = true)) (fun i => d.size - (intOf i).toNat)
            case atStart => exact ⟨0, Nat.zero_le _, rfl, rfl⟩
            case round =>
              obtain ⟨k, hk, rfl, Hall⟩ := hrel
              clear hz n1 d1 d2
              by_cases hlt : k < d.size
              · have Hx2 := Lib.hid (all_take isD d k hlt)
                have Hn2 := Lib.hid (all_not isD d k hlt)
                obtain ⟨y, hy⟩ : ∃ y : Nat, (d[k]'hlt).toNat = y := ⟨_, rfl⟩
                have Hy := Lib.hid hy
                have hu : y < 256 := by rw [← hy]; exact (d[k]'hlt).toNat_lt
                by_cases h2 : y < 48
                · have E := Lib.hid (show R = (0, 3) by rw [← HR.out, num_bad (by rw [HB2.out, Hn2.out (by simp [isD, Hy.out]; omega)]; rfl)])
                  go_wp2
                  go_ret2
                  exact ⟨by rw [E.out]; rfl, rfl⟩
                · by_cases h3 : 57 < y
                  · have E := Lib.hid (show R = (0, 3) by rw [← HR.out, num_bad (by rw [HB2.out, Hn2.out (by simp [isD, Hy.out]; omega)]; rfl)])
                    go_wp2
                    go_ret2
                    exact ⟨by rw [E.out]; rfl, rfl⟩
                  · have E := Lib.hid (show (d.data.toList.take (k + 1)).all isD = true by rw [Hx2.out, Hall.out]; simp [isD, Hy.out]; omega)
                    go_wp2
                    go_round
                    case rel => exact ⟨k + 1, by omega, by go_num, E⟩
                    case measure => simp [intOf]; omega
              · have HG := Lib.hid (show badL s.data.toList = false by rw [HB2.out, all_end isD d k hlt Hall.out]; rfl)
                have HA := Lib.hid (all_end isD d k hlt Hall.out)
                go_wp2
                go_loop [7, 8] (fun t i => ∃ (k n : Nat), k ≤ d.size ∧ i = .int .i64 k ∧ t = .int .i64 n ∧ n ≤ 1000000000000 ∧ Hid (rdA (d.data.toList.take k) 0 = n)) (fun _ i => d.size - (intOf i).toNat)
                case atStart => exact ⟨0, 0, Nat.zero_le _, rfl, rfl, Nat.zero_le _, rfl⟩
                case round =>
                  clear hk hlt Hall
                  obtain ⟨k, n, hk, rfl, rfl, hn, Hr⟩ := hrel
                  by_cases hlt : k < d.size
                  · obtain ⟨y, hy⟩ : ∃ y : Nat, (d[k]'hlt).toNat = y := ⟨_, rfl⟩
                    have hdg : 48 ≤ y ∧ y ≤ 57 := by
                      have := List.all_eq_true.1 HA.out (d[k]'hlt) (List.getElem_mem (by simpa using hlt))
                      rw [← hy]
                      simpa [isD] using this
                    obtain ⟨y1, y2⟩ := hdg
                    have Hst := Lib.hid (show rdA (d.data.toList.take (k + 1)) 0 = 10 * n + (y - 48) by rw [rdA_take d k hlt (by rw [hy]; exact ⟨y1, y2⟩), Hr.out, hy])
                    have Hle := Lib.hid (rdA_take_le d (k + 1))
                    have i1 : (48 : Int) ≤ (y : Int) := by omega
                    have i2 : (y : Int) ≤ 57 := by omega
                    obtain ⟨m, hm⟩ : ∃ m, 10 * n + (y - 48) = m := ⟨_, rfl⟩
                    have hmi : 10 * (n : Int) + ((y : Int) - 48) = (m : Int) := by omega
                    rw [hm] at Hst
                    have hm2 : m ≤ 20000000000000 := by omega
                    clear hm
                    by_cases hg : 1000000000000 < m
                    · have E := Lib.hid (show R = (0, 1) by
                        rw [← HR.out]
                        exact num_range HG.out HD.out (by have h1 := Hst.out; have h2 := Hle.out; omega))
                      go_wp2
                      go_ret2
                      exact ⟨by rw [E.out]; rfl, rfl⟩
                    · go_wp2
                      go_round
                      case rel => exact ⟨k + 1, m, by omega, by go_num, by go_num, by omega, Hst⟩
                      case measure => simp [intOf]; omega
                  · have E := Lib.hid (show R = ((n : Int), 0) by
                      have h2 : d.data.toList.take k = d.data.toList := List.take_of_length_le (by have : d.data.toList.length = d.size := rfl; omega)
                      have h3 := Hr.out
                      rw [h2] at h3
                      rw [← HR.out, num_pos HG.out HD.out (by omega) HN.out, h3])
                    go_wp2
                    go_ret2
                    exact ⟨by rw [E.out]; rfl, rfl⟩
          · have n1 : ((z : Int) == 48) = false := by simp; omega
            clear hbad hz48
            go_enter Try.func21, Try.ntmps21
            go_wp2
            go_loop [6] (fun i => ∃ k : Nat, k ≤ d.size ∧ i = .int .i64 k ∧ Hid ((d.data.toList.take k).all isD = true)) (fun i => d.size - (intOf i).toNat)
            case atStart => exact ⟨0, Nat.zero_le _, rfl, rfl⟩
            case round =>
              obtain ⟨k, hk, rfl, Hall⟩ := hrel
              clear hz n1 d1 d2
              by_cases hlt : k < d.size
              · have Hx2 := Lib.hid (all_take isD d k hlt)
                have Hn2 := Lib.hid (all_not isD d k hlt)
                obtain ⟨y, hy⟩ : ∃ y : Nat, (d[k]'hlt).toNat = y := ⟨_, rfl⟩
                have Hy := Lib.hid hy
                have hu : y < 256 := by rw [← hy]; exact (d[k]'hlt).toNat_lt
                by_cases h2 : y < 48
                · have E := Lib.hid (show R = (0, 3) by rw [← HR.out, num_bad (by rw [HB2.out, Hn2.out (by simp [isD, Hy.out]; omega)]; rfl)])
                  go_wp2
                  go_ret2
                  exact ⟨by rw [E.out]; rfl, rfl⟩
                · by_cases h3 : 57 < y
                  · have E := Lib.hid (show R = (0, 3) by rw [← HR.out, num_bad (by rw [HB2.out, Hn2.out (by simp [isD, Hy.out]; omega)]; rfl)])
                    go_wp2
                    go_ret2
                    exact ⟨by rw [E.out]; rfl, rfl⟩
                  · have E := Lib.hid (show (d.data.toList.take (k + 1)).all isD = true by rw [Hx2.out, Hall.out]; simp [isD, Hy.out]; omega)
                    go_wp2
                    go_round
                    case rel => exact ⟨k + 1, by omega, by go_num, E⟩
                    case measure => simp [intOf]; omega
              · have HG := Lib.hid (show badL s.data.toList = false by rw [HB2.out, all_end isD d k hlt Hall.out]; rfl)
                have HA := Lib.hid (all_end isD d k hlt Hall.out)
                go_wp2
                go_loop [7, 8] (fun t i => ∃ (k n : Nat), k ≤ d.size ∧ i = .int .i64 k ∧ t = .int .i64 n ∧ n ≤ 1000000000000 ∧ Hid (rdA (d.data.toList.take k) 0 = n)) (fun _ i => d.size - (intOf i).toNat)
                case atStart => exact ⟨0, 0, Nat.zero_le _, rfl, rfl, Nat.zero_le _, rfl⟩
                case round =>
                  clear hk hlt Hall
                  obtain ⟨k, n, hk, rfl, rfl, hn, Hr⟩ := hrel
                  by_cases hlt : k < d.size
                  · obtain ⟨y, hy⟩ : ∃ y : Nat, (d[k]'hlt).toNat = y := ⟨_, rfl⟩
                    have hdg : 48 ≤ y ∧ y ≤ 57 := by
                      have := List.all_eq_true.1 HA.out (d[k]'hlt) (List.getElem_mem (by simpa using hlt))
                      rw [← hy]
                      simpa [isD] using this
                    obtain ⟨y1, y2⟩ := hdg
                    have Hst := Lib.hid (show rdA (d.data.toList.take (k + 1)) 0 = 10 * n + (y - 48) by rw [rdA_take d k hlt (by rw [hy]; exact ⟨y1, y2⟩), Hr.out, hy])
                    have Hle := Lib.hid (rdA_take_le d (k + 1))
                    have i1 : (48 : Int) ≤ (y : Int) := by omega
                    have i2 : (y : Int) ≤ 57 := by omega
                    obtain ⟨m, hm⟩ : ∃ m, 10 * n + (y - 48) = m := ⟨_, rfl⟩
                    have hmi : 10 * (n : Int) + ((y : Int) - 48) = (m : Int) := by omega
                    rw [hm] at Hst
                    have hm2 : m ≤ 20000000000000 := by omega
                    clear hm
                    by_cases hg : 1000000000000 < m
                    · have E := Lib.hid (show R = (0, 1) by
                        rw [← HR.out]
                        exact num_range HG.out HD.out (by have h1 := Hst.out; have h2 := Hle.out; omega))
                      go_wp2
                      go_ret2
                      exact ⟨by rw [E.out]; rfl, rfl⟩
                    · go_wp2
                      go_round
                      case rel => exact ⟨k + 1, m, by omega, by go_num, by go_num, by omega, Hst⟩
                      case measure => simp [intOf]; omega
                  · have E := Lib.hid (show R = ((n : Int), 0) by
                      have h2 : d.data.toList.take k = d.data.toList := List.take_of_length_le (by have : d.data.toList.length = d.size := rfl; omega)
                      have h3 := Hr.out
                      rw [h2] at h3
                      rw [← HR.out, num_pos HG.out HD.out (by omega) HN.out, h3])
                    go_wp2
                    go_ret2
                    exact ⟨by rw [E.out]; rfl, rfl⟩
end Go.Proofs.Ytdkhajpkldjlmaa
