/-
  Walks over the reference of package wire: PutInt, TakeInt, length.
-/
import Derived.Test.YtcbaihaigamalaaWirB0
namespace Go.Proofs.Ytcbaihaigamalaa
set_option linter.unusedVariables false
set_option linter.unusedSimpArgs false
open Go.RowKit

set_option maxRecDepth 20000 in
set_option maxHeartbeats 4000000 in
theorem rPutInt_any (a : Option Addr) (l : List UInt8) (n cap : Nat) (x : Int) (w : World) (hn : l.length = n) (hb : n ≤ 900000) (hl : Bytes w a l) (h1 : -9223372036854775808 ≤ x) (h2 : x ≤ 9223372036854775807) :
    Calls Try.prog 20 #[.slice a n cap, .int .i64 x] w (GivesOwn w (l ++ iL x)) := by
  have hz := zz_lt h1 h2
  obtain ⟨R, hR⟩ : ∃ R, l ++ iL x = R := ⟨_, rfl⟩
  have hR2 : l ++ vL (zz x) = R := hR
  rw [hR]
  have HP := Lib.hid (rPutUint_is hR2 a n cap w hn hb hl hz)
  clear hR hR2 hn hl
  by_cases h0 : 0 ≤ x
  · obtain ⟨m, rfl⟩ := Int.eq_ofNat_of_zero_le h0
    obtain ⟨Z, hZ⟩ : ∃ Z, zz (m : Int) = Z := ⟨_, rfl⟩
    rw [hZ] at HP
    have hzi : 2 * (m : Int) = (Z : Int) := by rw [← hZ]; unfold zz; rw [if_pos h0]; simp
    clear hZ hz
    go_enter Try.func20, Try.ntmps20
    go_wp2_with fail
    refine HP.out.mono ?_
    rintro e w1 ⟨v, rfl, ho, hb1⟩
    go_wp2
    go_ret
    exact ⟨v, rfl, ho, hb1⟩
  · obtain ⟨m, rfl⟩ : ∃ m : Nat, x = -(m : Int) - 1 := ⟨(-(x + 1)).toNat, by omega⟩
    obtain ⟨Z, hZ⟩ : ∃ Z, zz (-(m : Int) - 1) = Z := ⟨_, rfl⟩
    rw [hZ] at HP
    have hzi : 2 * (m : Int) + 1 = (Z : Int) := by rw [← hZ]; unfold zz; rw [if_neg h0]; omega
    have h3 : (-(m : Int) - 1) + 1 = -(m : Int) := by omega
    have h4 : -(m : Int) - 1 < 0 := by omega
    have hm : m ≤ 9223372036854775807 := by omega
    clear hZ hz h0
    go_enter Try.func20, Try.ntmps20
    go_wp2_with fail
    refine HP.out.mono ?_
    rintro e w1 ⟨v, rfl, ho, hb1⟩
    go_wp2
    go_ret
    exact ⟨v, rfl, ho, hb1⟩
theorem rPutInt_is {l R : List UInt8} {x : Int} (h : l ++ iL x = R) (a : Option Addr) (n cap : Nat) (w : World) (hn : l.length = n) (hb : n ≤ 900000) (hl : Bytes w a l) (h1 : -9223372036854775808 ≤ x) (h2 : x ≤ 9223372036854775807) :
    Calls Try.prog 20 #[.slice a n cap, .int .i64 x] w (GivesOwn w R) := by
  have := rPutInt_any a l n cap x w hn hb hl h1 h2
  rwa [h] at this

set_option maxRecDepth 20000 in
set_option maxHeartbeats 4000000 in
theorem rTakeInt_any (a : Option Addr) (l : List UInt8) (n cap : Nat) (w : World) (hn : l.length = n) (hb : n ≤ 1000000) (hl : Bytes w a l) :
    Calls Try.prog 18 #[.slice a n cap] w fun e w' => e = .returned (.tuple #[.int .i64 (takeI l).1, .int .i64 ((takeI l).2.1 : Int), .int .i64 (takeI l).2.2]) ∧ w = w' := by
  obtain ⟨⟨u, k, e⟩, hr⟩ : ∃ r, takeU l = r := ⟨_, rfl⟩
  have HT := Lib.hid (rTakeUint_is hr a n cap w hn hb hl)
  have hI : takeI l = if e = 0 then (unzz u, k, 0) else (0, 0, e) := by unfold takeI; rw [hr]
  have hub : e = 0 → u < 18446744073709551616 := fun h => (take_back (l := l) (x := u) (k := k) (by rw [hr, h])).2.2.2
  have hkb : e = 0 → k ≤ 1000000 := fun h => by have := (take_back (l := l) (x := u) (k := k) (by rw [hr, h])).2.2.1; omega
  obtain ⟨R, hR⟩ : ∃ R, takeI l = R := ⟨_, rfl⟩
  rw [hR] at hI ⊢
  have HI := Lib.hid hI
  clear hR hI hr hn hl
  by_cases he : e = 0
  · have hu := hub he
    have hk := hkb he
    subst he
    clear hub hkb
    obtain ⟨h, hh⟩ : ∃ h, u / 2 = h := ⟨_, rfl⟩
    have hhi : (u : Int) / 2 = (h : Int) := by rw [← hh]; simp
    have hhb : h ≤ 9223372036854775807 := by omega
    by_cases h2 : u % 2 = 0
    · have E := Lib.hid (show R = ((h : Int), k, 0) by rw [HI.out, if_pos rfl]; unfold unzz; rw [if_pos h2, hh])
      have e2 : ((u : Int) % 2 == 0) = true := by simp; omega
      clear hh h2
      go_enter Try.func18, Try.ntmps18
      go_wp2_with fail
      refine HT.out.mono ?_
      rintro e w1 ⟨rfl, rfl⟩
      go_wp2
      go_ret3
      exact ⟨by rw [E.out]; rfl, rfl⟩
    · have E := Lib.hid (show R = (-(h : Int) - 1, k, 0) by rw [HI.out, if_pos rfl]; unfold unzz; rw [if_neg h2, hh])
      have e2 : ((u : Int) % 2 == 0) = false := by simp; omega
      clear hh h2
      go_enter Try.func18, Try.ntmps18
      go_wp2_with fail
      refine HT.out.mono ?_
      rintro e w1 ⟨rfl, rfl⟩
      go_wp2
      go_ret3
      exact ⟨by rw [E.out]; rfl, rfl⟩
  · have E := Lib.hid (show R = (0, 0, e) by rw [HI.out, if_neg he])
    have e0 : (e != 0) = true := by simpa using he
    clear he hub hkb
    go_enter Try.func18, Try.ntmps18
    go_wp2_with fail
    refine HT.out.mono ?_
    rintro e w1 ⟨rfl, rfl⟩
    go_wp2
    go_ret3
    exact ⟨by rw [E.out]; rfl, rfl⟩
theorem rTakeInt_is {l : List UInt8} {x : Int} {k : Nat} {e : Int} (h : takeI l = (x, k, e)) (a : Option Addr) (n cap : Nat) (w : World) (hn : l.length = n) (hb : n ≤ 1000000) (hl : Bytes w a l) :
    Calls Try.prog 18 #[.slice a n cap] w fun e' w' => e' = .returned (.tuple #[.int .i64 x, .int .i64 (k : Int), .int .i64 e]) ∧ w = w' := by
  have := rTakeInt_any a l n cap w hn hb hl
  rwa [h] at this

set_option maxRecDepth 20000 in
set_option maxHeartbeats 4000000 in
theorem rLength_any (a : Option Addr) (l : List UInt8) (n cap : Nat) (most : Int) (w : World) (hn : l.length = n) (hb : n ≤ 1000000) (hl : Bytes w a l) (hm : most ≤ 9223372036854775807) :
    Calls Try.prog 35 #[.slice a n cap, .int .i64 most] w fun e w' => e = .returned (.tuple #[.int .i64 ((lenS l most).1 : Int), .int .i64 ((lenS l most).2.1 : Int), .int .i64 (lenS l most).2.2]) ∧ w = w' := by
  obtain ⟨⟨u, k, e⟩, hr⟩ : ∃ r, takeU l = r := ⟨_, rfl⟩
  have HT := Lib.hid (rTakeUint_is hr a n cap w hn hb hl)
  have hI : lenS l most = if e = 0 then (if most < 0 ∨ most < (u : Int) then (0, 0, 8) else (u, k, e)) else (0, 0, e) := by unfold lenS; rw [hr]
  obtain ⟨R, hR⟩ : ∃ R, lenS l most = R := ⟨_, rfl⟩
  rw [hR] at hI ⊢
  have HI := Lib.hid hI
  clear hR hI hr hn hl
  by_cases he : e = 0
  · subst he
    by_cases h0 : most < 0
    · have E := Lib.hid (show R = (0, 0, 8) by rw [HI.out, if_pos rfl, if_pos (Or.inl h0)])
      go_enter Try.func35, Try.ntmps35
      go_wp2_with fail
      refine HT.out.mono ?_
      rintro e w1 ⟨rfl, rfl⟩
      go_wp2
      go_ret3
      exact ⟨by rw [E.out]; rfl, rfl⟩
    · have h0' : 0 ≤ most := by omega
      by_cases h1 : most < (u : Int)
      · have E := Lib.hid (show R = (0, 0, 8) by rw [HI.out, if_pos rfl, if_pos (Or.inr h1)])
        clear h0
        go_enter Try.func35, Try.ntmps35
        go_wp2_with fail
        refine HT.out.mono ?_
        rintro e w1 ⟨rfl, rfl⟩
        go_wp2
        go_ret3
        exact ⟨by rw [E.out]; rfl, rfl⟩
      · have E := Lib.hid (show R = (u, k, 0) by rw [HI.out, if_pos rfl, if_neg (by omega)])
        have h1' : (u : Int) ≤ most := by omega
        clear h0 h1
        go_enter Try.func35, Try.ntmps35
        go_wp2_with fail
        refine HT.out.mono ?_
        rintro e w1 ⟨rfl, rfl⟩
        go_wp2
        go_ret3
        exact ⟨by rw [E.out]; rfl, rfl⟩
  · have E := Lib.hid (show R = (0, 0, e) by rw [HI.out, if_neg he])
    have e0 : (e != 0) = true := by simpa using he
    clear he
    go_enter Try.func35, Try.ntmps35
    go_wp2_with fail
    refine HT.out.mono ?_
    rintro e w1 ⟨rfl, rfl⟩
    go_wp2
    go_ret3
    exact ⟨by rw [E.out]; rfl, rfl⟩
theorem rLength_is {l : List UInt8} {most : Int} {u k : Nat} {e : Int} (h : lenS l most = (u, k, e)) (a : Option Addr) (n cap : Nat) (w : World) (hn : l.length = n) (hb : n ≤ 1000000) (hl : Bytes w a l) (hm : most ≤ 9223372036854775807) :
    Calls Try.prog 35 #[.slice a n cap, .int .i64 most] w fun e' w' => e' = .returned (.tuple #[.int .i64 (u : Int), .int .i64 (k : Int), .int .i64 e]) ∧ w = w' := by
  have := rLength_any a l n cap most w hn hb hl hm
  rwa [h] at this
end Go.Proofs.Ytcbaihaigamalaa
