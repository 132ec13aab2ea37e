/-
  The contracts of the landed package wire: PutUint, PutInt, TakeInt, takeLength, PutText, TakeText.
-/
import Derived.Test.YtcbaihaigamalaaWirConA
import Derived.Test.YtcbaihaigamalaaWirConB
namespace Go.Proofs.Ytcbaihaigamalaa
set_option linter.unusedVariables false
set_option linter.unusedSimpArgs false
open Go.RowKit

set_option maxRecDepth 20000 in
set_option maxHeartbeats 4000000 in
theorem putUint_any (a : Option Addr) (l : List UInt8) (n cap u : Nat) (w : World) (hn : l.length = n) (hb : n ≤ 400000) (hl : Bytes w a l) (hu : u < 18446744073709551616) :
    Calls Try.prog 15 #[.slice a n cap, .int .u64 (u : Int)] w (GivesOwn w (l ++ vL u)) := by
  have HP := Lib.hid (copied_any a l n cap 10 w hn hb (by omega) hl)
  obtain ⟨R, hR⟩ : ∃ R, l ++ vL u = R := ⟨_, rfl⟩
  have HR := Lib.hid hR
  have Hn := Lib.hid hn
  rw [hR]
  clear hR hn hl
  go_enter Try.func15, Try.ntmps15
  go_wp2_with fail
  refine HP.out.mono ?_
  rintro e w1 ⟨v, rfl, ho, hb1⟩
  rw [Hn.out] at ho
  go_wp2_with fail
  refine (appendUint_is HR.out w.heap.size v n w1 ho hb1.size (by omega) hu).mono ?_
  rintro e w2 ⟨v2, rfl, o2, hb2, -⟩
  go_wp2
  go_ret
  exact ⟨v2, rfl, o2, hb1.trans hb2⟩
theorem putUint_is {l R : List UInt8} {u : Nat} (h : l ++ vL u = R) (a : Option Addr) (n cap : Nat) (w : World) (hn : l.length = n) (hb : n ≤ 400000) (hl : Bytes w a l) (hu : u < 18446744073709551616) :
    Calls Try.prog 15 #[.slice a n cap, .int .u64 (u : Int)] w (GivesOwn w R) := by
  have := putUint_any a l n cap u w hn hb hl hu
  rwa [h] at this

set_option maxRecDepth 20000 in
set_option maxHeartbeats 4000000 in
theorem putInt_any (a : Option Addr) (l : List UInt8) (n cap : Nat) (x : Int) (w : World) (hn : l.length = n) (hb : n ≤ 400000) (hl : Bytes w a l) (h1 : -9223372036854775808 ≤ x) (h2 : x ≤ 9223372036854775807) :
    Calls Try.prog 19 #[.slice a n cap, .int .i64 x] w (GivesOwn w (l ++ iL x)) := by
  have hz := zz_lt h1 h2
  obtain ⟨Z, hZ⟩ : ∃ Z, zz x = Z := ⟨_, rfl⟩
  have HZ := Lib.hid (zigzag_is hZ w h1 h2)
  obtain ⟨R, hR⟩ : ∃ R, l ++ iL x = R := ⟨_, rfl⟩
  have hR2 : l ++ vL Z = R := by rw [← hZ]; exact hR
  rw [hZ] at hz
  rw [hR]
  have HP := Lib.hid (putUint_is hR2 a n cap w hn hb hl hz)
  clear hR hR2 hn hl hZ
  go_enter Try.func19, Try.ntmps19
  go_wp2_with fail
  refine HZ.out.mono ?_
  rintro e w1 ⟨rfl, rfl⟩
  go_wp2_with fail
  refine HP.out.mono ?_
  rintro e w1 ⟨v, rfl, ho, hb1⟩
  go_wp2
  go_ret
  exact ⟨v, rfl, ho, hb1⟩

set_option maxRecDepth 20000 in
set_option maxHeartbeats 4000000 in
theorem takeInt_any (a : Option Addr) (l : List UInt8) (n cap : Nat) (w : World) (hn : l.length = n) (hb : n ≤ 1000000) (hl : Bytes w a l) :
    Calls Try.prog 17 #[.slice a n cap] w fun e w' => e = .returned (.tuple #[.int .i64 (takeI l).1, .int .i64 ((takeI l).2.1 : Int), .int .i64 (takeI l).2.2]) ∧ w = w' := by
  obtain ⟨⟨u, k, e⟩, hr⟩ : ∃ r, takeU l = r := ⟨_, rfl⟩
  have HT := Lib.hid (takeUint_is hr a n cap w hn hb hl)
  have hI : takeI l = if e = 0 then (unzz u, k, 0) else (0, 0, e) := by unfold takeI; rw [hr]
  have hub : e = 0 → u < 18446744073709551616 := fun h => (take_back (l := l) (x := u) (k := k) (by rw [hr, h])).2.2.2
  obtain ⟨R, hR⟩ : ∃ R, takeI l = R := ⟨_, rfl⟩
  rw [hR] at hI ⊢
  have HI := Lib.hid hI
  clear hR hI hr hn hl
  by_cases he : e = 0
  · have hu := hub he
    subst he
    clear hub
    obtain ⟨x, hx⟩ : ∃ x, unzz u = x := ⟨_, rfl⟩
    have HU := Lib.hid (unzigzag_is hx w hu)
    have E := Lib.hid (show R = (x, k, 0) by rw [HI.out, if_pos rfl, hx])
    clear hx
    go_enter Try.func17, Try.ntmps17
    go_wp2_with fail
    refine HT.out.mono ?_
    rintro e w1 ⟨rfl, rfl⟩
    go_wp2_with fail
    refine HU.out.mono ?_
    rintro e w1 ⟨rfl, rfl⟩
    go_wp2
    go_ret3
    exact ⟨by rw [E.out]; rfl, rfl⟩
  · have E := Lib.hid (show R = (0, 0, e) by rw [HI.out, if_neg he])
    have e0 : (e != 0) = true := by simpa using he
    clear he hub
    go_enter Try.func17, Try.ntmps17
    go_wp2_with fail
    refine HT.out.mono ?_
    rintro e w1 ⟨rfl, rfl⟩
    go_wp2
    go_ret3
    exact ⟨by rw [E.out]; rfl, rfl⟩
theorem takeInt_is {l : List UInt8} {x : Int} {k : Nat} {e : Int} (h : takeI l = (x, k, e)) (a : Option Addr) (n cap : Nat) (w : World) (hn : l.length = n) (hb : n ≤ 1000000) (hl : Bytes w a l) :
    Calls Try.prog 17 #[.slice a n cap] w fun e' w' => e' = .returned (.tuple #[.int .i64 x, .int .i64 (k : Int), .int .i64 e]) ∧ w = w' := by
  have := takeInt_any a l n cap w hn hb hl
  rwa [h] at this

set_option maxRecDepth 20000 in
set_option maxHeartbeats 4000000 in
theorem takeLength_any (a : Option Addr) (l : List UInt8) (n cap : Nat) (most : Int) (w : World) (hn : l.length = n) (hb : n ≤ 1000000) (hl : Bytes w a l) (hm : most ≤ 9223372036854775807) :
    Calls Try.prog 34 #[.slice a n cap, .int .i64 most] w fun e w' => e = .returned (.tuple #[.int .i64 ((lenS l most).1 : Int), .int .i64 ((lenS l most).2.1 : Int), .int .i64 (lenS l most).2.2]) ∧ w = w' := by
  obtain ⟨⟨u, k, e⟩, hr⟩ : ∃ r, takeU l = r := ⟨_, rfl⟩
  have HT := Lib.hid (takeUint_is hr a n cap w hn hb hl)
  have hI : lenS l most = if e = 0 then (if most < 0 ∨ most < (u : Int) then (0, 0, 8) else (u, k, e)) else (0, 0, e) := by unfold lenS; rw [hr]
  obtain ⟨R, hR⟩ : ∃ R, lenS l most = R := ⟨_, rfl⟩
  rw [hR] at hI ⊢
  have HI := Lib.hid hI
  clear hR hI hr hn hl
  by_cases he : e = 0
  · subst he
    by_cases h0 : most < 0
    · have E := Lib.hid (show R = (0, 0, 8) by rw [HI.out, if_pos rfl, if_pos (Or.inl h0)])
      go_enter Try.func34, Try.ntmps34
      go_wp2_with fail
      refine HT.out.mono ?_
      rintro e w1 ⟨rfl, rfl⟩
      go_wp2
      go_ret3
      exact ⟨by rw [E.out]; rfl, rfl⟩
    · have h0' : 0 ≤ most := by omega
      by_cases h1 : most < (u : Int)
      · have E := Lib.hid (show R = (0, 0, 8) by rw [HI.out, if_pos rfl, if_pos (Or.inr h1)])
        clear h0
        go_enter Try.func34, Try.ntmps34
        go_wp2_with fail
        refine HT.out.mono ?_
        rintro e w1 ⟨rfl, rfl⟩
        go_wp2
        go_ret3
        exact ⟨by rw [E.out]; rfl, rfl⟩
      · have E := Lib.hid (show R = (u, k, 0) by rw [HI.out, if_pos rfl, if_neg (by omega)])
        have h1' : (u : Int) ≤ most := by omega
        clear h0 h1
        go_enter Try.func34, Try.ntmps34
        go_wp2_with fail
        refine HT.out.mono ?_
        rintro e w1 ⟨rfl, rfl⟩
        go_wp2
        go_ret3
        exact ⟨by rw [E.out]; rfl, rfl⟩
  · have E := Lib.hid (show R = (0, 0, e) by rw [HI.out, if_neg he])
    have e0 : (e != 0) = true := by simpa using he
    clear he
    go_enter Try.func34, Try.ntmps34
    go_wp2_with fail
    refine HT.out.mono ?_
    rintro e w1 ⟨rfl, rfl⟩
    go_wp2
    go_ret3
    exact ⟨by rw [E.out]; rfl, rfl⟩
theorem takeLength_is {l : List UInt8} {most : Int} {u k : Nat} {e : Int} (h : lenS l most = (u, k, e)) (a : Option Addr) (n cap : Nat) (w : World) (hn : l.length = n) (hb : n ≤ 1000000) (hl : Bytes w a l) (hm : most ≤ 9223372036854775807) :
    Calls Try.prog 34 #[.slice a n cap, .int .i64 most] w fun e' w' => e' = .returned (.tuple #[.int .i64 (u : Int), .int .i64 (k : Int), .int .i64 e]) ∧ w = w' := by
  have := takeLength_any a l n cap most w hn hb hl hm
  rwa [h] at this

set_option maxRecDepth 20000 in
set_option maxHeartbeats 4000000 in
theorem putText_any (a : Option Addr) (l : List UInt8) (n cap : Nat) (s : ByteArray) (w : World) (hn : l.length = n) (hb : n ≤ 400000) (hl : Bytes w a l) (hs : s.size ≤ 400000) :
    Calls Try.prog 23 #[.slice a n cap, .string s] w (GivesOwn w (l ++ textL s.data.toList)) := by
  obtain ⟨i0, hi, hz0, hz1, hz2⟩ := info_parts info_byte
  have hsl : s.data.toList.length = s.size := rfl
  obtain ⟨R, hR⟩ : ∃ R, l ++ vL s.size = R := ⟨_, rfl⟩
  have hlen : R.length ≤ 400010 := by
    have := (vL_le10 (show s.size < 18446744073709551616 by omega)).2
    rw [← hR, List.length_append]
    omega
  have E := Lib.hid (show l ++ textL s.data.toList = R ++ s.data.toList by unfold textL; rw [hsl, ← hR, List.append_assoc])
  have HR := Lib.hid hR
  have Hn := Lib.hid hn
  obtain ⟨room, hroom⟩ : ∃ room, 10 + s.size = room := ⟨_, rfl⟩
  have h10 : (10 : Int) + (s.size : Int) = (room : Int) := by omega
  have HP := Lib.hid (copied_any a l n cap room w hn hb (by omega) hl)
  clear hroom
  rw [E.out]
  obtain ⟨q, hq⟩ : ∃ q, R.length = q := ⟨_, rfl⟩
  have Hq := Lib.hid hq
  rw [hq] at hlen
  clear hR hq hsl hn hl
  go_enter Try.func23, Try.ntmps23
  go_wp2_with fail
  refine HP.out.mono ?_
  rintro e w1 ⟨v, rfl, ho, hb1⟩
  rw [Hn.out] at ho
  go_wp2_with fail
  refine (appendUint_is HR.out w.heap.size v n w1 ho hb1.size (by omega) (by omega)).mono ?_
  rintro e w2 ⟨v2, rfl, o2, hb2, hsz2⟩
  rw [Hq.out] at o2
  have hb3 := hb1.trans hb2
  go_wp2_with (at_builtin; refine Lib.wpList_append_own_string w2 rfl (.tmp 15) (.tmp 16) 22 9 rfl w.heap.size 5 i0 Try.underlying22 Try.underlying9 hi hz0 hz1 hz2 v2 q (bytV R) rfl o2 s rfl (by unfold maxLen; omega) (by omega) hb3.size ?_; intro v3 w3 o3 g3 _)
  have hb4 : Below w.heap.size w w3 := below_own hb3 g3 (own_base o2)
  rw [strCells_bytV, ← bytV_append] at o3
  go_ret
  refine ⟨v3, rfl, ?_, hb4⟩
  rw [List.length_append, Hq.out]
  exact o3

set_option maxRecDepth 20000 in
set_option maxHeartbeats 4000000 in
theorem takeText_any (a : Option Addr) (l : List UInt8) (n cap : Nat) (most : Int) (w : World) (hn : l.length = n) (hb : n ≤ 1000000) (hcap : n ≤ cap) (hl : Bytes w a l) (hm : most ≤ 9223372036854775807) :
    Calls Try.prog 21 #[.slice a n cap, .int .i64 most] w fun e w' => e = .returned (.tuple #[.string ⟨(takeT l most).1.toArray⟩, .int .i64 ((takeT l most).2.1 : Int), .int .i64 (takeT l most).2.2]) ∧ w = w' := by
  obtain ⟨⟨u, k, e⟩, hr⟩ : ∃ r, lenS l most = r := ⟨_, rfl⟩
  have HT := Lib.hid (takeLength_is hr a n cap w hn hb hl hm)
  have hI : takeT l most = if e = 0 then (if l.length - k < u then ([], 0, 4) else ((l.drop k).take u, k + u, 0)) else ([], 0, e) := by unfold takeT; rw [hr]
  obtain ⟨R, hR⟩ : ∃ R, takeT l most = R := ⟨_, rfl⟩
  rw [hR] at hI ⊢
  have HI := Lib.hid hI
  clear hR hI
  by_cases he : e = 0
  · subst he
    obtain ⟨-, hk0, hkl, hu64, hum⟩ := lenS_back hr
    rw [hn] at hkl
    obtain ⟨p, hp, hpr⟩ := part_from und_bytes size_bytes hl (n := n) (i := k) (cap := cap) (I := (k : Int)) rfl (by rw [bytV_length]; exact hn) hkl hcap
    by_cases h1 : n - k < u
    · have E := Lib.hid (show R = ([], 0, 4) by rw [HI.out, if_pos rfl, if_pos (by rw [hn]; exact h1)])
      have h1' : ((n - k : Nat) : Int) < (u : Int) := by omega
      clear hn hl hr hpr
      go_enter Try.func21, Try.ntmps21
      go_wp2_with fail
      refine HT.out.mono ?_
      rintro e w1 ⟨rfl, rfl⟩
      go_wp2
      go_ret3
      exact ⟨by rw [E.out]; rfl, rfl⟩
    · have E := Lib.hid (show R = ((l.drop k).take u, k + u, 0) by rw [HI.out, if_pos rfl, if_neg (by rw [hn]; exact h1)])
      have h1' : (u : Int) ≤ ((n - k : Nat) : Int) := by omega
      rw [bytV_drop] at hpr
      obtain ⟨p2, hp2, hpr2⟩ := part_upto und_bytes size_bytes hpr (n := n - k) (j := u) (cap := cap - k) (J := (u : Int)) rfl (by rw [bytV_length, List.length_drop]; omega) (by omega)
      rw [bytV_take] at hpr2
      have hcv := run_string_bytes Try.underlying22 Try.underlying5 Try.underlying9 w p2 ((l.drop k).take u) u (cap - k) (by rw [List.length_take, List.length_drop]; omega) hpr2
      obtain ⟨v, hv⟩ : ∃ v, (⟨((l.drop k).take u).toArray⟩ : ByteArray) = v := ⟨_, rfl⟩
      rw [hv] at hcv
      have Hv := Lib.hid hv
      clear hn hl hr h1 hpr hpr2 hv
      go_enter Try.func21, Try.ntmps21
      go_wp2_with fail
      refine HT.out.mono ?_
      rintro e w1 ⟨rfl, rfl⟩
      go_wp2
      go_ret3
      exact ⟨by rw [E.out, Hv.out]; rfl, rfl⟩
  · have E := Lib.hid (show R = ([], 0, e) by rw [HI.out, if_neg he])
    have e0 : (e != 0) = true := by simpa using he
    clear he hn hl hr
    go_enter Try.func21, Try.ntmps21
    go_wp2_with fail
    refine HT.out.mono ?_
    rintro e w1 ⟨rfl, rfl⟩
    go_wp2
    go_ret3
    exact ⟨by rw [E.out]; rfl, rfl⟩
end Go.Proofs.Ytcbaihaigamalaa
