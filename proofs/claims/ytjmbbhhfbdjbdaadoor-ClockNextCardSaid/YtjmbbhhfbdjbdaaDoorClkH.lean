/-
  Walks over the reference of package clock: Decimal, Format.
-/
import Derived.Test.YtjmbbhhfbdjbdaaDoorClkPlain4
namespace Go.Proofs.YtjmbbhhfbdjbdaaDoor
open Go.RowKit

set_option maxRecDepth 20000 in
set_option maxHeartbeats 1000000 in
theorem rDecimal_any (N wd : Nat) (w : World) (hN : N ≤ 1125899906842624) (hwd : wd ≤ 6) :
    Calls Tryd.prog 34 #[.int .i64 N, .int .i64 wd] w fun e w' => e = .returned (str (decL N wd)) ∧ Below w.heap.size w w' := by
  go_enter Tryd.func34, Tryd.ntmps34
  go_wp2
  go_loopw [0, 5] (fun r t wr => ∃ (k m : Nat) (s : ByteArray), k ≤ max (nd 20 N) wd ∧ Hid (N / 10 ^ k = m) ∧ r = .int .i64 m ∧ t = .string s ∧ Hid (s.data.toList = low k N) ∧ m ≤ 1125899906842624 ∧ s.size = k ∧ Below w.heap.size w wr) (fun _ t _ => 30 - lenOf t)
  case atStart => exact ⟨0, N, ⟨#[]⟩, by omega, by simp [Hid], rfl, rfl, by simp [Hid, low], hN, rfl, Below.refl _ _⟩
  case round =>
    obtain ⟨k, m, s, hk, hm, rfl, rfl, hs, hmb, hsz, hb⟩ := hrel
    have h16 : nd 20 N ≤ 16 := (nd_le 20 N 16 (lt20 hN)).2 (Nat.div_eq_of_lt (Nat.lt_of_le_of_lt hN (by decide)))
    have hk16 : k ≤ 16 := by omega
    have hmz : m = 0 → nd 20 N ≤ k := fun h => (nd_le 20 N k (lt20 hN)).2 (by rw [hm.out, h])
    have hmp : 0 < m → k + 1 ≤ nd 20 N := fun h => by
      apply Classical.byContradiction
      intro hc
      have := (nd_le 20 N k (lt20 hN)).1 (by omega)
      rw [hm.out] at this
      omega
    have hcv := fun W => run_byte_string (48 + (m : Int) % 10) W
    rw [byte_dg] at hcv
    by_cases hm0 : 0 < m
    · have HK := Lib.hid (show k + 1 ≤ max (nd 20 N) wd by have := hmp hm0; omega)
      clear hk hmz hmp h16
      go_wp2
      go_roundw
      case rel =>
        refine ⟨k + 1, m / 10, ⟨#[dg m]⟩ ++ s, HK.out, div_next hm.out, by go_num, rfl, ?_, by omega, ?_, hb.alloc' _⟩
        · unfold Hid; rw [data_add, hs.out, low_left, hm.out]
        · rw [size_add, hsz]
      case measure => show 30 - ((⟨#[dg m]⟩ : ByteArray) ++ s).size < 30 - s.size; rw [size_add]; omega
    · by_cases hkw : k < wd
      · have HK := Lib.hid (show k + 1 ≤ max (nd 20 N) wd by omega)
        have hkw' : (s.size : Int) < (wd : Int) := by omega
        clear hk hmz hmp h16
        go_wp2
        go_roundw
        case rel =>
          refine ⟨k + 1, m / 10, ⟨#[dg m]⟩ ++ s, HK.out, div_next hm.out, by go_num, rfl, ?_, by omega, ?_, hb.alloc' _⟩
          · unfold Hid; rw [data_add, hs.out, low_left, hm.out]
          · rw [size_add, hsz]
        case measure => show 30 - ((⟨#[dg m]⟩ : ByteArray) ++ s).size < 30 - s.size; rw [size_add]; omega
      · have E := Lib.hid (show max (nd 20 N) wd = k by have := hmz (by omega); omega)
        have hkw' : ¬ (s.size : Int) < (wd : Int) := by omega
        have hm' : m = 0 := by omega
        subst hm'
        clear hk hmz hmp h16 hm0 hcv
        go_wp2
        go_ret
        refine ⟨?_, hb⟩
        show Ending.returned (Value.string s) = _
        unfold decL
        rw [E.out, ← str_of hs.out]

theorem decL_len {N wd : Nat} (hN : N ≤ 1125899906842624) (hwd : wd ≤ 6) : (decL N wd).length ≤ 16 := by
  have h16 : nd 20 N ≤ 16 := (nd_le 20 N 16 (lt20 hN)).2 (Nat.div_eq_of_lt (Nat.lt_of_le_of_lt hN (by decide)))
  unfold decL
  rw [low_length]
  omega
theorem rDecimal_at (n : Int) (wd : Nat) (W : Int) (hW : (wd : Int) = W) (w : World) (h0 : 0 ≤ n) (hN : n ≤ 1125899906842624) (hwd : wd ≤ 6) :
    Calls Tryd.prog 34 #[.int .i64 n, .int .i64 W] w fun e w' => ∃ s : ByteArray, e = .returned (.string s) ∧ Hid (s.data.toList = decL n.toNat wd) ∧ s.size ≤ 16 ∧ Below w.heap.size w w' := by
  obtain ⟨N, rfl⟩ := Int.eq_ofNat_of_zero_le h0
  subst hW
  have hN' : N ≤ 1125899906842624 := by omega
  refine (rDecimal_any N wd w hN' hwd).mono ?_
  rintro e w' ⟨rfl, hb⟩
  exact ⟨_, rfl, rfl, decL_len hN' hwd, hb⟩

set_option maxRecDepth 20000 in
set_option maxHeartbeats 2000000 in
theorem rFormat_any (t : Int) (w : World) :
    Calls Tryd.prog 18 #[.int .i64 t] w fun e w' => e = .returned (.tuple #[str (formatC t).1, .int .i64 (formatC t).2]) ∧ Below w.heap.size w w' := by
  cases hm : mB t
  · have e := formatC_no hm
    have ed : dateS t = (0, 0, 1) := by simp [dateS, hm]
    rw [e]
    clear e hm
    go_enter Tryd.func18, Tryd.ntmps18
    go_wp2_with fail
    refine (rDate_any _ _).mono ?_
    rintro e w1 ⟨rfl, rfl⟩
    rw [ed]
    clear ed
    go_wp2
    go_ret2
    exact ⟨rfl, Below.refl _ _⟩
  · have e := formatC_yes hm
    have ed : dateS t = (t / 86400, t % 86400, 0) := by simp [dateS, hm]
    have hm' := mB_true.1 hm
    rw [e]
    clear e hm
    have b0 : 0 ≤ t / 86400 ∧ t / 86400 ≤ 36524 := by omega
    have b1 : 0 ≤ t % 86400 ∧ t % 86400 < 86400 := by omega
    have b2 : 0 ≤ t % 86400 / 3600 ∧ t % 86400 / 3600 < 24 := by omega
    have b3 : 0 ≤ t % 86400 / 60 ∧ t % 86400 / 60 < 1440 := by omega
    have b4 : 0 ≤ t % 86400 / 60 % 60 ∧ t % 86400 / 60 % 60 < 60 := by omega
    have b5 : 0 ≤ t % 60 ∧ t % 60 < 60 := by omega
    go_enter Tryd.func18, Tryd.ntmps18
    go_wp2_with fail
    refine (rDate_any _ _).mono ?_
    rintro e w1 ⟨rfl, rfl⟩
    rw [ed]
    clear ed
    go_wp2_with fail
    refine (rDecimal_at _ 1 1 rfl _ b0.1 (Int.le_trans b0.2 (by decide)) (by decide)).mono ?_
    rintro e w1 ⟨s1, rfl, hs1, hz1, hb1⟩
    go_wp2_with fail
    refine (rDecimal_at _ 2 2 rfl _ b2.1 (Int.le_trans (Int.le_of_lt b2.2) (by decide)) (by decide)).mono ?_
    rintro e w2 ⟨s2, rfl, hs2, hz2, hb2⟩
    go_wp2_with fail
    refine (rDecimal_at _ 2 2 rfl _ b4.1 (Int.le_trans (Int.le_of_lt b4.2) (by decide)) (by decide)).mono ?_
    rintro e w3 ⟨s3, rfl, hs3, hz3, hb3⟩
    go_wp2_with fail
    refine (rDecimal_at _ 2 2 rfl _ b5.1 (Int.le_trans (Int.le_of_lt b5.2) (by decide)) (by decide)).mono ?_
    rintro e w4 ⟨s4, rfl, hs4, hz4, hb4⟩
    go_wp2
    go_ret2
    refine ⟨?_, by (repeat' first | with_reducible assumption | exact Below.refl _ _ | with_reducible refine Below.drew ?_ | with_reducible refine Below.drewN ?_ _ | with_reducible refine Below.alloc' ?_ _ | with_reducible refine Below.setCell ?_ (by first | exact Nat.le_refl _ | omega | (simp; done) | (simp; omega)) _ | with_reducible refine Below.after ?_ ‹_›)⟩
    show Ending.returned (.tuple #[.string (s1 ++ ⟨#[32]⟩ ++ s2 ++ ⟨#[58]⟩ ++ s3 ++ ⟨#[58]⟩ ++ s4), .int .i64 0]) = .returned (.tuple #[str (fmtC t), .int .i64 0])
    rw [str_of (l := fmtC t)]
    rw [data_app, data_app, data_app, data_app, data_app, data_app, hs1.out, hs2.out, hs3.out, hs4.out]
    rfl
end Go.Proofs.YtjmbbhhfbdjbdaaDoor
