/-
  The walks of NumGcds and NumRoundTrip.
-/
import Derived.Test.YtejokpbmdhmhfaaNumW
namespace Go.Proofs.Ytejokpbmdhmhfaa
open Go.RowKit

theorem i64_of_wf {a : Int} (h : (Lit.int .i64 a).wf = true) : -9223372036854775808 ≤ a ∧ a ≤ 9223372036854775807 := by
  exact bounds_i64 h

theorem tmod_zero_of_dvd {a g : Int} (h : g ∣ a) : (a.tmod g != 0) = false := by
  have := Int.tmod_eq_zero_of_dvd h
  simp [this]
theorem tmod_bound (a d : Int) (h : -1125899906842624 ≤ a ∧ a ≤ 1125899906842624) : -1125899906842624 ≤ a.tmod d ∧ a.tmod d ≤ 1125899906842624 := by
  have h1 : (a.tmod d).natAbs ≤ a.natAbs := by
    rw [Int.natAbs_tmod]
    exact Nat.mod_le _ _
  revert h1
  generalize a.tmod d = r
  omega

theorem gcdS_good {a b : Int} (h1 : inRB a = true) (h2 : inRB b = true) : gcdS a b = ((Int.gcd a b : Int), 0) := by simp [gcdS, h1, h2]
theorem rgcd_is {a b x e : Int} (h : gcdS a b = (x, e)) (w : World) :
    Calls Try.prog 27 #[.int .i64 a, .int .i64 b] w fun r w' => r = .returned (.tuple #[.int .i64 x, .int .i64 e]) ∧ Below w.heap.size w w' := by
  have := rGcd_any a b w
  rwa [h] at this
theorem gcd_small {a b : Int} (h1 : -1125899906842624 ≤ a ∧ a ≤ 1125899906842624) (h2 : -1125899906842624 ≤ b ∧ b ≤ 1125899906842624) : Int.gcd a b ≤ 1125899906842624 := by
  by_cases ha : a = 0
  · subst ha
    rw [Int.gcd_zero_left]; omega
  · have : Int.gcd a b ∣ a.natAbs := Nat.gcd_dvd_left _ _
    have := Nat.le_of_dvd (by omega) this
    omega

set_option maxRecDepth 100000 in
set_option maxHeartbeats 2000000 in
theorem numGcds_walk (a b d : Int) (w : World) (_h0 : (Lit.int .i64 a).wf = true) (_h1 : (Lit.int .i64 b).wf = true) (hd : (Lit.int .i64 d).wf = true) :
    Calls Try.prog 8 #[.int .i64 a, .int .i64 b, .int .i64 d] w fun e w' => e = .returned (.bool true) ∧ Below w.heap.size w w' := by
  have bd := i64_of_wf hd
  clear _h0 _h1 hd
  cases hok : (inRB a && inRB b)
  · have e : gcdS a b = (0, 1) := by simp [gcdS, hok]
    have HE := Lib.hid e
    clear e hok
    go_enter Try.func8, Try.ntmps8
    go_wp2_with fail
    refine (gcd_is HE.out _).mono ?_
    rintro e w1 ⟨rfl, hb1⟩
    go_wp2_with fail
    refine (rgcd_is HE.out _).mono ?_
    rintro e w2 ⟨rfl, hb2⟩
    go_wp2_with fail
    refine (awake_any _).mono ?_
    rintro e w3 ⟨rfl, hb3⟩
    go_wp2
    go_ret
    have c1 := hb1.trans (hb2.mono hb1.size)
    exact ⟨rfl, c1.trans (hb3.mono c1.size)⟩
  have hh : inRB a = true ∧ inRB b = true := by simpa using hok
  have ba := inRB_true.1 hh.1
  have bb := inRB_true.1 hh.2
  have e := gcdS_good hh.1 hh.2
  have hgs := gcd_small ba bb
  have hda : ((Int.gcd a b : Nat) : Int) ∣ a := Int.gcd_dvd_left ..
  have hdb : ((Int.gcd a b : Nat) : Int) ∣ b := Int.gcd_dvd_right ..
  have hdd : ∀ x : Int, x ∣ a → x ∣ b → x ∣ ((Int.gcd a b : Nat) : Int) := fun x h1 h2 => Int.dvd_coe_gcd h1 h2
  have h00 : Int.gcd a b = 0 → a = 0 ∧ b = 0 := Int.gcd_eq_zero_iff.1
  obtain ⟨g, hg⟩ : ∃ g, Int.gcd a b = g := ⟨_, rfl⟩
  rw [hg] at e hgs hda hdb hdd h00
  have HE := Lib.hid e
  clear e hok hh hg
  by_cases g0 : g = 0
  · obtain ⟨rfl, rfl⟩ := h00 g0
    subst g0
    clear hda hdb hdd h00
    go_enter Try.func8, Try.ntmps8
    go_wp2_with fail
    refine (gcd_is HE.out _).mono ?_
    rintro e w1 ⟨rfl, hb1⟩
    go_wp2_with fail
    refine (rgcd_is HE.out _).mono ?_
    rintro e w2 ⟨rfl, hb2⟩
    go_wp2_with fail
    refine (awake_any _).mono ?_
    rintro e w3 ⟨rfl, hb3⟩
    go_wp2
    go_ret
    have c1 := hb1.trans (hb2.mono hb1.size)
    exact ⟨rfl, c1.trans (hb3.mono c1.size)⟩
  · have g1 : 0 < g := by omega
    have ta := tmod_zero_of_dvd hda
    have tb := tmod_zero_of_dvd hdb
    have ba' := tmod_bound a g ba
    have bb' := tmod_bound b g bb
    clear h00 g0
    by_cases d0 : d = 0
    · subst d0
      clear hda hdb hdd
      go_enter Try.func8, Try.ntmps8
      go_wp2_with fail
      refine (gcd_is HE.out _).mono ?_
      rintro e w1 ⟨rfl, hb1⟩
      go_wp2_with fail
      refine (rgcd_is HE.out _).mono ?_
      rintro e w2 ⟨rfl, hb2⟩
      go_wp2_with fail
      refine (awake_any _).mono ?_
      rintro e w3 ⟨rfl, hb3⟩
      go_wp2
      go_ret
      have c1 := hb1.trans (hb2.mono hb1.size)
      exact ⟨rfl, c1.trans (hb3.mono c1.size)⟩
    · have dn : 0 < d.natAbs := by omega
      have da := tmod_bound a d ba
      have db := tmod_bound b d bb
      have dg := tmod_bound (g : Int) d (by omega)
      rw [Int.tmod_eq_emod_of_nonneg (Int.natCast_nonneg g)] at dg
      by_cases t1 : a.tmod d = 0
      · have t1' : (a.tmod d != 0) = false := by simp [t1]
        by_cases t2 : b.tmod d = 0
        · have t2' : (b.tmod d != 0) = false := by simp [t2]
          have t3 : ((g : Int) % d == 0) = true := by
            have := Int.emod_eq_zero_of_dvd (hdd d (Int.dvd_of_tmod_eq_zero t1) (Int.dvd_of_tmod_eq_zero t2))
            simp [this]
          clear hda hdb hdd t1 t2 d0
          go_enter Try.func8, Try.ntmps8
          go_wp2_with fail
          refine (gcd_is HE.out _).mono ?_
          rintro e w1 ⟨rfl, hb1⟩
          go_wp2_with fail
          refine (rgcd_is HE.out _).mono ?_
          rintro e w2 ⟨rfl, hb2⟩
          go_wp2_with fail
          refine (awake_any _).mono ?_
          rintro e w3 ⟨rfl, hb3⟩
          go_wp2
          go_ret
          have c1 := hb1.trans (hb2.mono hb1.size)
          exact ⟨rfl, c1.trans (hb3.mono c1.size)⟩
        · have t2' : (b.tmod d != 0) = true := by simp [t2]
          clear hda hdb hdd t1 t2 d0
          go_enter Try.func8, Try.ntmps8
          go_wp2_with fail
          refine (gcd_is HE.out _).mono ?_
          rintro e w1 ⟨rfl, hb1⟩
          go_wp2_with fail
          refine (rgcd_is HE.out _).mono ?_
          rintro e w2 ⟨rfl, hb2⟩
          go_wp2_with fail
          refine (awake_any _).mono ?_
          rintro e w3 ⟨rfl, hb3⟩
          go_wp2
          go_ret
          have c1 := hb1.trans (hb2.mono hb1.size)
          exact ⟨rfl, c1.trans (hb3.mono c1.size)⟩
      · have t1' : (a.tmod d != 0) = true := by simp [t1]
        clear hda hdb hdd t1 d0
        go_enter Try.func8, Try.ntmps8
        go_wp2_with fail
        refine (gcd_is HE.out _).mono ?_
        rintro e w1 ⟨rfl, hb1⟩
        go_wp2_with fail
        refine (rgcd_is HE.out _).mono ?_
        rintro e w2 ⟨rfl, hb2⟩
        go_wp2_with fail
        refine (awake_any _).mono ?_
        rintro e w3 ⟨rfl, hb3⟩
        go_wp2
        go_ret
        have c1 := hb1.trans (hb2.mono hb1.size)
        exact ⟨rfl, c1.trans (hb3.mono c1.size)⟩

theorem parse_is {s : ByteArray} {p x e : Int} (hs : s.size ≤ 9223372036854775807) (h : parseS s.data.toList p = (x, e)) (w : World) :
    Calls Try.prog 30 #[.string s, .int .i64 p] w fun r w' => r = .returned (.tuple #[.int .i64 x, .int .i64 e]) ∧ Below w.heap.size w w' := by
  have := parse_any s p w hs
  rwa [h] at this
theorem fmt_size (n : Int) (p : Nat) : (formS n p).length ≤ wid p n.natAbs + 2 := by
  have h1 : (sgn n).length ≤ 1 := by unfold sgn; split <;> simp
  have h2 : (txt p (wid p n.natAbs) n.natAbs).length ≤ wid p n.natAbs + 1 := by
    unfold txt; split
    · simp only [List.length_append, List.length_cons, low_length]; omega
    · rw [low_length]; omega
  simp only [formS, List.length_append]; omega

/-- what Parse can return -/
theorem parse_cases (l : List UInt8) (p : Int) : (parseS l p = (0, 1)) ∨ (parseS l p = (0, 3)) ∨ ∃ m : Int, parseS l p = (m, 0) ∧ inRB m = true ∧ 0 ≤ p ∧ p ≤ 6 ∧ formS m p.toNat = l := by
  cases h : okPlaces p
  · left; simp [parseS, h]
  · right
    have hp := okPlaces_true.1 h
    have e : parseS l p = parseL l p.toNat := by simp [parseS, h]
    rw [e]
    unfold parseL
    split
    · rename_i hc
      right
      exact ⟨_, rfl, inRB_abs hc.1, hp.1, hp.2, hc.2⟩
    · left; rfl

theorem fmtS_good {n p : Int} (h1 : inRB n = true) (h2 : okPlaces p = true) : fmtS n p = (formS n p.toNat, 0) := by simp [fmtS, h1, h2]
theorem fmtS_bad {n p : Int} (h : (inRB n && okPlaces p) = false) : fmtS n p = ([], 1) := by simp [fmtS, h]

theorem format_str {n : Int} {p : Int} {s : ByteArray} (h1 : inRB n = true) (h2 : 0 ≤ p ∧ p ≤ 6) (h : s.data.toList = formS n p.toNat) (w : World) :
    Calls Try.prog 28 #[.int .i64 n, .int .i64 p] w fun e w' => e = .returned (.tuple #[.string s, .int .i64 0]) ∧ Below w.heap.size w w' := by
  have := format_any n p w
  rwa [fmtS_good h1 (okPlaces_true.2 h2), ← str_of h] at this
end Go.Proofs.Ytejokpbmdhmhfaa
