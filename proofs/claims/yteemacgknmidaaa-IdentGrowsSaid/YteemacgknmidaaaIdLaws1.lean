/-
  Walks over the laws of package ident: awake, Valid, same, News.
-/
import Derived.Test.YteemacgknmidaaaIdK
namespace Go.Proofs.Yteemacgknmidaaa
set_option linter.unusedVariables false
set_option linter.unusedSimpArgs false
open Go.RowKit

theorem strs_lit (w : World) (l : List ByteArray) (t : TypeId) : Strs (w.alloc (.cells (strV l).toArray t)) (some ⟨w.heap.size, 0, none⟩) l := by
  intro _
  refine ⟨w.heap.size, 0, rfl, fun k hk => ?_⟩
  have := strV_at l k hk
  simp [go_sem, this]

def nB : ByteArray := ⟨#[98]⟩
def nA : ByteArray := ⟨#[97]⟩
def nBB : ByteArray := ⟨#[66]⟩
def nC : ByteArray := ⟨#[99]⟩
def nOne : ByteArray := ⟨#[49]⟩
theorem small_sizes {l : List ByteArray} (h : (l.all fun s => decide (s.size ≤ 200)) = true) : ∀ s ∈ l, s.size ≤ 9223372036854775807 := fun s hs => by
  have := List.all_eq_true.1 h s hs
  simp at this
  omega

section
variable {Tab : TabP} (K : IdCon Tab)
include K

set_option maxRecDepth 100000 in
set_option maxHeartbeats 4000000 in
theorem idAwake_any (w : World) :
    Calls Try.prog 12 #[] w fun e w' => e = .returned (.bool true) ∧ Below w.heap.size w w' := by
  have E1 := Lib.hid (show newS [] [nB, nA, nBB] = ([nB, nA, nBB], 0) by decide +kernel)
  have E2 := Lib.hid (show findS [nB, nA, nBB] nA = (1, true) by decide +kernel)
  have E3 := Lib.hid (show findS [nB, nA, nBB] ⟨#[65]⟩ = (0, false) by decide +kernel)
  have E4 := Lib.hid (show nameS [nB, nA, nBB] 2 = (nBB, true) by decide +kernel)
  have E5 := Lib.hid (show addS [nB, nA, nBB] nC = ([nB, nA, nBB, nC], 3, 0) by decide +kernel)
  have E6 := Lib.hid (show addS [nB, nA, nBB, nC] nC = ([nB, nA, nBB, nC], 0, 6) by decide +kernel)
  have E7 := Lib.hid (show newS [] [nA, nOne, nA] = ([], 5) by decide +kernel)
  have E8 := Lib.hid (show idB ⟨#[120, 46, 121, 95, 122]⟩ = true by decide +kernel)
  have E9 := Lib.hid (show idB ⟨#[49, 97]⟩ = false by decide +kernel)
  go_enter Try.func12, Try.ntmps12
  go_wp2_with fail
  refine (K.new_yes E1.out _ 3 3 _ rfl (by decide) (strs_lit w [nB, nA, nBB] 9) (small_sizes (by decide +kernel))).mono ?_
  rintro e w1 ⟨p, F, rfl, hT, hF, hb1⟩
  go_wp2_with fail
  refine (K.len p _ F 3 _ hT rfl (by decide)).mono ?_
  rintro e w2 ⟨rfl, hb2⟩
  have hT := K.on hT hb2
  go_wp2_with fail
  refine (K.find_is E2.out _ hT (by decide) (by decide)).mono ?_
  rintro e w3 ⟨rfl, hb3⟩
  have hT := K.on hT hb3
  go_wp2_with fail
  refine (K.find_is E3.out _ hT (by decide) (by decide)).mono ?_
  rintro e w4 ⟨rfl, hb4⟩
  have hT := K.on hT hb4
  go_wp2_with fail
  refine (K.name_is E4.out _ hT (by decide)).mono ?_
  rintro e w5 ⟨rfl, hb5⟩
  have hT := K.on hT hb5
  rw [show nBB = ⟨#[66]⟩ from rfl]
  have hbw : Below w.heap.size w w5 := by (repeat' first | with_reducible assumption | exact Below.refl _ _ | with_reducible refine Below.drew ?_ | with_reducible refine Below.drewN ?_ _ | with_reducible refine Below.alloc' ?_ _ | with_reducible refine Below.setCell ?_ (by first | exact Nat.le_refl _ | omega | (simp; done) | (simp; omega)) _ | with_reducible refine Below.after ?_ ‹_›)
  go_wp2_with fail
  refine (K.add_is E5.out _ hT (by decide) (by decide)).mono ?_
  rintro e w6 ⟨rfl, F', hT', hF', ho6⟩
  have hb6 : Below w.heap.size w5 w6 := ho6.below hbw.size (fun k hk => by have := hF k hk; simp at this; omega)
  have hbw : Below w.heap.size w w6 := hbw.trans hb6
  go_wp2_with fail
  refine (K.add_is E6.out _ hT' (by decide) (by decide)).mono ?_
  rintro e w7 ⟨rfl, F'', hT'', hF'', ho7⟩
  have hb7 : Below w.heap.size w6 w7 := ho7.below hbw.size (fun k hk => by
    have hs5 := (show Below w.heap.size w w5 by assumption).size
    rcases hF' k hk with h | h
    · have := hF k h; simp at this; omega
    · omega)
  have hbw : Below w.heap.size w w7 := hbw.trans hb7
  go_wp2_with fail
  refine (K.new_no E7.out (by decide) _ 3 3 _ rfl (by decide) (strs_lit w7 [nA, nOne, nA] 9) (small_sizes (by decide +kernel))).mono ?_
  rintro e w8 ⟨rfl, hb8⟩
  have hb78 : Below w7.heap.size w7 w8 := by (repeat' first | exact Below.refl _ _ | with_reducible refine Below.drew ?_ | with_reducible refine Below.drewN ?_ _ | with_reducible refine Below.alloc' ?_ _ | with_reducible refine Below.setCell ?_ (by first | exact Nat.le_refl _ | (simp; done) | (simp; omega)) _ | with_reducible refine Below.after ?_ ‹_›)
  have hT := K.on hT'' hb78
  have hbw : Below w.heap.size w w8 := hbw.trans (hb78.mono hbw.size)
  go_wp2_with fail
  refine (K.valid_is E8.out _ (by decide)).mono ?_
  rintro e w9 ⟨rfl, hb9⟩
  have hT := K.on hT hb9
  go_wp2_with fail
  refine (K.valid_is E9.out _ (by decide)).mono ?_
  rintro e w10 ⟨rfl, hb10⟩
  have hT := K.on hT hb10
  go_wp2_with fail
  refine (K.len p _ F'' 4 _ hT rfl (by decide)).mono ?_
  rintro e w11 ⟨rfl, hb11⟩
  go_wp2
  go_ret
  exact ⟨rfl, by (repeat' first | with_reducible assumption | exact Below.refl _ _ | with_reducible refine Below.drew ?_ | with_reducible refine Below.drewN ?_ _ | with_reducible refine Below.alloc' ?_ _ | with_reducible refine Below.setCell ?_ (by first | exact Nat.le_refl _ | omega | (simp; done) | (simp; omega)) _ | with_reducible refine Below.after ?_ ‹_›)⟩

set_option maxRecDepth 100000 in
set_option maxHeartbeats 4000000 in
theorem identValid_of (s : ByteArray) (w : World) (hs : s.size ≤ 9223372036854775807) :
    Calls Try.prog 3 #[.string s] w fun e w' => e = .returned (.bool true) ∧ Below w.heap.size w w' := by
  obtain ⟨r, hr⟩ : ∃ r, idB s = r := ⟨_, rfl⟩
  have HR := Lib.hid hr
  clear hr
  go_enter Try.func3, Try.ntmps3
  go_wp2_with fail
  refine (K.valid_is HR.out _ hs).mono ?_
  rintro e w1 ⟨rfl, hb1⟩
  go_wp2_with fail
  refine (rValid_is HR.out _ hs).mono ?_
  rintro e w2 ⟨rfl, rfl⟩
  go_wp2_with fail
  refine (idAwake_any K _).mono ?_
  rintro e w3 ⟨rfl, hb3⟩
  go_wp2
  go_ret
  exact ⟨rfl, by (repeat' first | with_reducible assumption | exact Below.refl _ _ | with_reducible refine Below.drew ?_ | with_reducible refine Below.drewN ?_ _ | with_reducible refine Below.alloc' ?_ _ | with_reducible refine Below.setCell ?_ (by first | exact Nat.le_refl _ | omega | (simp; done) | (simp; omega)) _ | with_reducible refine Below.after ?_ ‹_›)⟩

set_option maxRecDepth 100000 in
set_option maxHeartbeats 4000000 in
/-- same: of a table and a state with the same identifiers -/
theorem same_any (p : Addr) (l : List ByteArray) (F : Nat → Prop) (a : Option Addr) (n cap : Nat) (w : World) (hT : Tab w p l F) (hn : l.length = n) (hb : n ≤ 1000) (hl : Strs w a l) (hd : distinct l) (hsz : ∀ s ∈ l, s.size ≤ 9223372036854775807) :
    Calls Try.prog 16 #[.pointer (some p), .agg #[.slice a n cap]] w fun e w' => e = .returned (.bool true) ∧ Below w.heap.size w w' := by
  have Hn := Lib.hid hn
  have Hd := Lib.hid hd
  have Hsz := Lib.hid hsz
  have hbl : l.length ≤ 1000 := by omega
  have Hbl := Lib.hid hbl
  clear hn hd hsz hbl
  go_enter Try.func16, Try.ntmps16
  go_wp2_with fail
  go_region_held3 (fun W => W.cell? ⟨w.heap.size, 0, none⟩ = some (.slice a n cap))
    (first | go_keep | (refine kept ‹Below _ _ _› ?_; assumption))
    (first | (go_at_call 23; refine (K.len p l F n _ (K.on hT (by (repeat' first | with_reducible assumption | exact Below.refl _ _ | with_reducible refine Below.drew ?_ | with_reducible refine Below.drewN ?_ _ | with_reducible refine Below.alloc' ?_ _ | with_reducible refine Below.setCell ?_ (by first | exact Nat.le_refl _ | omega | (simp; done) | (simp; omega)) _ | with_reducible refine Below.after ?_ ‹_›))) Hn.out hb).mono ?_; rintro e w1 ⟨rfl, hb1⟩))
  all_goals
    have c0 : w1.cell? ⟨w.heap.size, 0, none⟩ = some (.slice a n cap) := by assumption
    have hbw : Below w.heap.size w w1 := by (repeat' first | exact Below.refl _ _ | with_reducible refine Below.drew ?_ | with_reducible refine Below.drewN ?_ _ | with_reducible refine Below.alloc' ?_ _ | with_reducible refine Below.setCell ?_ (by first | exact Nat.le_refl _ | (simp; done) | (simp; omega)) _ | with_reducible refine Below.after ?_ ‹_›)
    obtain ⟨W1, hW1⟩ : ∃ W1, W1 = w1 := ⟨_, rfl⟩
    subst hW1
    have hT1 := K.on hT hbw
    have hl1 := hl.kept hbw
    clear hb1
    go_wp2
    go_loopw [5, 6, 7, 8, 9, 10, 11] (fun i _ _ _ _ _ _ wr => ∃ d : Int, i = .int .i64 d ∧ -1 ≤ d ∧ d ≤ n + 1 ∧ Below W1.heap.size W1 wr) (fun i _ _ _ _ _ _ _ => ((n : Int) + 1 - intOf i).toNat)
    case atStart => exact ⟨-1, rfl, by omega, by omega, Below.refl _ _⟩
    case round =>
      obtain ⟨d, rfl, hd0, hd1, hbr⟩ := hrel
      have c1 := kept hbr c0
      by_cases hle : d ≤ n
      · by_cases hin : 0 ≤ d ∧ d < n
        · obtain ⟨k, rfl⟩ := Int.eq_ofNat_of_zero_le hin.1
          have hk : k < n := by omega
          have hkl : k < l.length := by rw [Hn.out]; exact hk
          have E1 := Lib.hid (show nameS l ((k : Nat) : Int) = (l[k]?.getD ByteArray.empty, true) by unfold nameS; rw [if_pos (by omega)]; rfl)
          have E2 := Lib.hid (show findS l (l[k]?.getD ByteArray.empty) = ((k : Int), true) from findS_at l _ k hkl (fun j hj => Hd.out j k hj hkl) rfl)
          have hu := Hsz.out (l[k]?.getD ByteArray.empty) (by rw [List.getElem?_eq_getElem hkl]; exact List.getElem_mem hkl)
          obtain ⟨u, hu2⟩ : ∃ u, l[k]?.getD ByteArray.empty = u := ⟨_, rfl⟩
          rw [hu2] at E1 E2 hu
          clear hu2 hin
          have hts : (u.toList == u.toList) = true := by simp
          go_wp2_with fail
          refine (K.name_is E1.out _ (K.on hT1 hbr) Hbl.out).mono ?_
          rintro e w2 ⟨rfl, hb2⟩
          have c2 := kept hb2 c1
          have hr := rName_any a l n cap (k : Int) w2 Hn.out (by omega) ((hl1.kept hbr).kept hb2)
          rw [E1.out] at hr
          have HR := Lib.hid hr
          clear hr
          go_wp2_with fail
          refine HR.out.mono ?_
          rintro e w3 ⟨rfl, hb3⟩
          have c3 := kept hb3 c2
          go_wp2_with fail
          refine (K.find_is E2.out _ (K.on hT1 (by (repeat' first | with_reducible assumption | exact Below.refl _ _ | with_reducible refine Below.drew ?_ | with_reducible refine Below.drewN ?_ _ | with_reducible refine Below.alloc' ?_ _ | with_reducible refine Below.setCell ?_ (by first | exact Nat.le_refl _ | omega | (simp; done) | (simp; omega)) _ | with_reducible refine Below.after ?_ ‹_›))) Hbl.out hu).mono ?_
          rintro e w4 ⟨rfl, hb4⟩
          go_wp2
          go_roundw
          case rel => exact ⟨(k : Int) + 1, by go_num, by omega, by omega, by (repeat' first | with_reducible assumption | exact Below.refl _ _ | with_reducible refine Below.drew ?_ | with_reducible refine Below.drewN ?_ _ | with_reducible refine Below.alloc' ?_ _ | with_reducible refine Below.setCell ?_ (by first | exact Nat.le_refl _ | omega | (simp; done) | (simp; omega)) _ | with_reducible refine Below.after ?_ ‹_›)⟩
          case measure => simp [intOf]; omega
        · have E1 := Lib.hid (show nameS l d = (⟨#[]⟩, false) by unfold nameS; rw [if_neg (by rw [Hn.out]; omega)])
          clear hin
          go_wp2_with fail
          refine (K.name_is E1.out _ (K.on hT1 hbr) Hbl.out).mono ?_
          rintro e w2 ⟨rfl, hb2⟩
          have c2 := kept hb2 c1
          have hr := rName_any a l n cap d w2 Hn.out (by omega) ((hl1.kept hbr).kept hb2)
          rw [E1.out] at hr
          have HR := Lib.hid hr
          clear hr
          go_wp2_with fail
          refine HR.out.mono ?_
          rintro e w3 ⟨rfl, hb3⟩
          go_wp2
          go_roundw
          case rel => exact ⟨d + 1, by go_num, by omega, by omega, by (repeat' first | with_reducible assumption | exact Below.refl _ _ | with_reducible refine Below.drew ?_ | with_reducible refine Below.drewN ?_ _ | with_reducible refine Below.alloc' ?_ _ | with_reducible refine Below.setCell ?_ (by first | exact Nat.le_refl _ | omega | (simp; done) | (simp; omega)) _ | with_reducible refine Below.after ?_ ‹_›)⟩
          case measure => simp [intOf]; omega
      · have hle' : (n : Int) < d := by omega
        clear hle
        go_wp2
        go_ret
        exact ⟨rfl, hbw.trans (hbr.mono hbw.size)⟩

set_option maxRecDepth 100000 in
set_option maxHeartbeats 4000000 in
theorem identNews_of (a : Option Addr) (l : List ByteArray) (n cap : Nat) (w : World) (hn : l.length = n) (hl : Strs w a l) (hsz : ∀ s ∈ l, s.size ≤ maxLen) (hnm : n ≤ maxLen) :
    Calls Try.prog 4 #[.slice a n cap] w fun e w' => e = .returned (.bool true) ∧ Below w.heap.size w w' := by
  have Hn := Lib.hid hn
  have Hsz := Lib.hid hsz
  have Hsz2 := Lib.hid (show ∀ s ∈ l, s.size ≤ 9223372036854775807 from fun s hs => by have := hsz s hs; unfold maxLen at this; omega)
  clear hn hsz
  have hsh := short_any a l n cap 60 w Hn.out (by omega) Hsz.out hl hnm
  cases hq : shortB l 60
  · rw [hq] at hsh
    have HS := Lib.hid hsh
    clear hsh hq
    go_enter Try.func4, Try.ntmps4
    go_wp2_with fail
    refine HS.out.mono ?_
    rintro e w1 ⟨rfl, rfl⟩
    go_wp2_with fail
    refine (idAwake_any K _).mono ?_
    rintro e w3 ⟨rfl, hb3⟩
    go_wp2
    go_ret
    exact ⟨rfl, by (repeat' first | with_reducible assumption | exact Below.refl _ _ | with_reducible refine Below.drew ?_ | with_reducible refine Below.drewN ?_ _ | with_reducible refine Below.alloc' ?_ _ | with_reducible refine Below.setCell ?_ (by first | exact Nat.le_refl _ | omega | (simp; done) | (simp; omega)) _ | with_reducible refine Below.after ?_ ‹_›)⟩
  · rw [hq] at hsh
    have HS := Lib.hid hsh
    have hn60 : n ≤ 60 := by
      unfold shortB at hq
      simp at hq
      have := hq.1
      rw [Hn.out] at this
      omega
    have herr := newS_err l []
    have hlen := newS_len l []
    have hdis := newS_distinct l [] (fun i j _ hj => by simp at hj)
    have hmem := newS_mem l []
    have hnew := rNew_any a l n cap
    obtain ⟨⟨r, x⟩, hr⟩ : ∃ y, newS [] l = y := ⟨_, rfl⟩
    rw [hr] at herr hlen hdis hmem hnew
    simp only [List.length_nil, Nat.zero_add] at herr hlen hdis hmem
    rw [Hn.out] at hlen
    have HR := Lib.hid hr
    have Hdis := Lib.hid hdis
    have Hmem := Lib.hid (show ∀ s ∈ r, s.size ≤ 9223372036854775807 from fun s hs => by
      rcases hmem s hs with h | h
      · simp at h
      · exact Hsz2.out s h)
    have Hnew := Lib.hid hnew
    obtain ⟨m, hm⟩ : ∃ m, r.length = m := ⟨_, rfl⟩
    have HM := Lib.hid hm
    have hm60 : m ≤ 60 := by omega
    clear hsh hq hr hdis hmem hnew hm hlen
    rcases herr with rfl | herr
    · go_enter Try.func4, Try.ntmps4
      go_wp2_with fail
      refine HS.out.mono ?_
      rintro e w1 ⟨rfl, rfl⟩
      go_wp2_with fail
      refine (K.new_yes HR.out a n cap _ Hn.out (by omega) hl Hsz2.out).mono ?_
      rintro e w2 ⟨p, F, rfl, hT, hF, hb2⟩
      go_wp2_with fail
      refine (Hnew.out _ Hn.out (by omega) (hl.kept (by (repeat' first | with_reducible assumption | exact Below.refl _ _ | with_reducible refine Below.drew ?_ | with_reducible refine Below.drewN ?_ _ | with_reducible refine Below.alloc' ?_ _ | with_reducible refine Below.setCell ?_ (by first | exact Nat.le_refl _ | omega | (simp; done) | (simp; omega)) _ | with_reducible refine Below.after ?_ ‹_›))) Hsz2.out).mono ?_
      rintro e w3 ⟨b, c, rfl, hst, hfar, hb3⟩
      rw [HM.out]
      have hT3 := K.on hT hb3
      go_wp2_with fail
      refine (same_any K p r F b m c _ (K.on hT3 (by (repeat' first | with_reducible assumption | exact Below.refl _ _ | with_reducible refine Below.drew ?_ | with_reducible refine Below.drewN ?_ _ | with_reducible refine Below.alloc' ?_ _ | with_reducible refine Below.setCell ?_ (by first | exact Nat.le_refl _ | omega | (simp; done) | (simp; omega)) _ | with_reducible refine Below.after ?_ ‹_›))) HM.out (by omega) (hst.kept (by (repeat' first | with_reducible assumption | exact Below.refl _ _ | with_reducible refine Below.drew ?_ | with_reducible refine Below.drewN ?_ _ | with_reducible refine Below.alloc' ?_ _ | with_reducible refine Below.setCell ?_ (by first | exact Nat.le_refl _ | omega | (simp; done) | (simp; omega)) _ | with_reducible refine Below.after ?_ ‹_›))) Hdis.out Hmem.out).mono ?_
      rintro e w4 ⟨rfl, hb4⟩
      go_wp2_with fail
      refine (idAwake_any K _).mono ?_
      rintro e w5 ⟨rfl, hb5⟩
      go_wp2
      go_ret
      exact ⟨rfl, by (repeat' first | with_reducible assumption | exact Below.refl _ _ | with_reducible refine Below.drew ?_ | with_reducible refine Below.drewN ?_ _ | with_reducible refine Below.alloc' ?_ _ | with_reducible refine Below.setCell ?_ (by first | exact Nat.le_refl _ | omega | (simp; done) | (simp; omega)) _ | with_reducible refine Below.after ?_ ‹_›)⟩
    · have hx : x ≠ 0 := by omega
      have hx1 : (x != 0) = true := by simpa using hx
      have hx2 : (x == 0) = false := by simpa using hx
      have HX := Lib.hid hx
      clear hx
      go_enter Try.func4, Try.ntmps4
      go_wp2_with fail
      refine HS.out.mono ?_
      rintro e w1 ⟨rfl, rfl⟩
      go_wp2_with fail
      refine (K.new_no HR.out HX.out a n cap _ Hn.out (by omega) hl Hsz2.out).mono ?_
      rintro e w2 ⟨rfl, hb2⟩
      go_wp2_with fail
      refine (Hnew.out _ Hn.out (by omega) (hl.kept (by (repeat' first | with_reducible assumption | exact Below.refl _ _ | with_reducible refine Below.drew ?_ | with_reducible refine Below.drewN ?_ _ | with_reducible refine Below.alloc' ?_ _ | with_reducible refine Below.setCell ?_ (by first | exact Nat.le_refl _ | omega | (simp; done) | (simp; omega)) _ | with_reducible refine Below.after ?_ ‹_›))) Hsz2.out).mono ?_
      rintro e w3 ⟨b, c, rfl, hst, hfar, hb3⟩
      go_wp2_with fail
      refine (idAwake_any K _).mono ?_
      rintro e w5 ⟨rfl, hb5⟩
      go_wp2
      go_ret
      exact ⟨rfl, by (repeat' first | with_reducible assumption | exact Below.refl _ _ | with_reducible refine Below.drew ?_ | with_reducible refine Below.drewN ?_ _ | with_reducible refine Below.alloc' ?_ _ | with_reducible refine Below.setCell ?_ (by first | exact Nat.le_refl _ | omega | (simp; done) | (simp; omega)) _ | with_reducible refine Below.after ?_ ‹_›)⟩
end
end Go.Proofs.Yteemacgknmidaaa
