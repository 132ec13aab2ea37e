/-
  Walks over the laws of package clock: Shared.
-/
import Derived.Test.YtjmbbhhfbdjbdaaDoorClkLaws2
namespace Go.Proofs.YtjmbbhhfbdjbdaaDoor
open Go.RowKit

theorem comS_no {l m : List (Int × Int)} (h : (l.all wB && m.all wB) = false) : comS l m = ([], 1) := by unfold comS; rw [h]; rfl
theorem comS_yes {l m : List (Int × Int)} (h : (l.all wB && m.all wB) = true) : comS l m = (inter (unite l) (unite m), 0) := by unfold comS; rw [h]; rfl
theorem inter_unite_ins (l m : List (Int × Int)) (t : Int) : insB (inter (unite l) (unite m)) t = (insB l t && insB m t) := by
  rw [inter_ins, unite_ins, unite_ins]
theorem inter_comm (l m : List (Int × Int)) : inter (unite l) (unite m) = inter (unite m) (unite l) :=
  canon_unique _ _ (inter_canon (unite_canon l) (unite_canon m)) (inter_canon (unite_canon m) (unite_canon l)) (fun t => by rw [inter_unite_ins, inter_unite_ins, Bool.and_comm])
theorem conCommon_is (K : ClkCon) {l m : List (Int × Int)} {r : List (Int × Int)} {x : Int} (h : comS l m = (r, x)) (a b : Option Addr) (n n' cap cap' k : Nat) (w : World) (hn : l.length = n) (hn' : m.length = n') (hb : n ≤ 100) (hb' : n' ≤ 100) (hl : Pairs w a l) (hm : Pairs w b m) (hk : r.length = k) :
    Calls Tryd.prog 26 #[.slice a n cap, .slice b n' cap'] w fun e w' => ∃ d c, e = .returned (.tuple #[.slice d k c, .int .i64 x]) ∧ Pairs w' d r ∧ Below w.heap.size w w' := by
  have := K.common a b l m n n' cap cap' w hn hn' hb hb' hl hm
  rw [h] at this
  subst hk
  exact this
theorem conInside_is (K : ClkCon) {l : List (Int × Int)} {t : Int} {r : Bool} (h : insB l t = r) (a : Option Addr) (n cap : Nat) (w : World) (hn : l.length = n) (hb : n ≤ 100000) (hl : Pairs w a l) :
    Calls Tryd.prog 24 #[.slice a n cap, .int .i64 t] w fun e w' => e = .returned (.bool r) ∧ Below w.heap.size w w' := by
  have := K.inside a l n cap t w hn hb hl
  rwa [h] at this

set_option maxRecDepth 100000 in
set_option maxHeartbeats 4000000 in
theorem clockShared_of (K : ClkCon) (a1 a2 : Option Addr) (l m : List (Int × Int)) (n n' cap cap' : Nat) (t : Int) (w : World) (hT : Tabs w) (hn : l.length = n) (hn' : m.length = n') (hl : Pairs w a1 l) (hm : Pairs w a2 m) :
    Calls Tryd.prog 10 #[.slice a1 n cap, .slice a2 n' cap', .int .i64 t] w fun e w' => e = .returned (.bool true) ∧ Below w.heap.size w w' := by
  by_cases h2 : n ≤ 100 ∧ n' ≤ 100
  · obtain ⟨h2, h3⟩ := h2
    cases hv : (l.all wB && m.all wB)
    · have H1 := Lib.hid (comS_no hv)
      have H2 := Lib.hid (comS_no (show (m.all wB && l.all wB) = false by rw [Bool.and_comm]; exact hv))
      have Hn := Lib.hid hn
      have Hn' := Lib.hid hn'
      clear hv hn hn'
      go_enter Tryd.func10, Tryd.ntmps10
      go_wp2_with fail
      refine (conCommon_is K H1.out a1 a2 n n' cap cap' 0 _ Hn.out Hn'.out h2 h3 hl hm rfl).mono ?_
      rintro e w1 ⟨d1, c1, rfl, _, hb1⟩
      go_wp2_with fail
      refine (conCommon_is K H2.out a2 a1 n' n cap' cap 0 _ Hn'.out Hn.out h3 h2 (hm.kept hb1) (hl.kept hb1) rfl).mono ?_
      rintro e w2 ⟨d2, c2, rfl, _, hb2⟩
      go_wp2_with fail
      refine (clkAwake_any K _ (hT.on (by (repeat' first | with_reducible assumption | exact Below.refl _ _ | with_reducible refine Below.drew ?_ | with_reducible refine Below.drewN ?_ _ | with_reducible refine Below.alloc' ?_ _ | with_reducible refine Below.setCell ?_ (by first | exact Nat.le_refl _ | omega | (simp; done) | (simp; omega)) _ | with_reducible refine Below.after ?_ ‹_›)))).mono ?_
      rintro e w9 ⟨rfl, hb9⟩
      go_wp2
      go_ret
      exact ⟨rfl, by (repeat' first | with_reducible assumption | exact Below.refl _ _ | with_reducible refine Below.drew ?_ | with_reducible refine Below.drewN ?_ _ | with_reducible refine Below.alloc' ?_ _ | with_reducible refine Below.setCell ?_ (by first | exact Nat.le_refl _ | omega | (simp; done) | (simp; omega)) _ | with_reducible refine Below.after ?_ ‹_›)⟩
    · have H1 := Lib.hid (comS_yes hv)
      have H2 := Lib.hid (show comS m l = (inter (unite l) (unite m), 0) by rw [comS_yes (show (m.all wB && l.all wB) = true by rw [Bool.and_comm]; exact hv), inter_comm])
      have Hi := Lib.hid (inter_unite_ins l m t)
      have hr : (inter (unite l) (unite m)).length ≤ 10000 := by
        have := comS_len l m
        rw [H1.out, hn, hn'] at this
        exact Nat.le_trans this (Nat.mul_le_mul h2 h3)
      have Hn := Lib.hid hn
      have Hn' := Lib.hid hn'
      clear hv hn hn'
      generalize inter (unite l) (unite m) = r at H1 H2 Hi hr
      obtain ⟨k, hk⟩ : ∃ k, r.length = k := ⟨_, rfl⟩
      have hk2 : k ≤ 10000 := by omega
      have Hk := Lib.hid hk
      clear hr hk
      cases hi : insB l t
      · have HL := Lib.hid hi
        have HX := Lib.hid (show insB r t = false by rw [Hi.out, hi]; rfl)
        clear hi Hi
        go_enter Tryd.func10, Tryd.ntmps10
        go_wp2_with fail
        refine (conCommon_is K H1.out a1 a2 n n' cap cap' k _ Hn.out Hn'.out h2 h3 hl hm Hk.out).mono ?_
        rintro e w1 ⟨d1, c1, rfl, p1, hb1⟩
        go_wp2_with fail
        refine (conCommon_is K H2.out a2 a1 n' n cap' cap k _ Hn'.out Hn.out h3 h2 (hm.kept hb1) (hl.kept hb1) Hk.out).mono ?_
        rintro e w2 ⟨d2, c2, rfl, p2, hb2⟩
        go_wp2_with fail
        refine (conInside_is K HX.out d1 k c1 _ Hk.out (by omega) (p1.kept hb2)).mono ?_
        rintro e w3 ⟨rfl, hb3⟩
        go_wp2_with fail
        refine (conInside_is K HL.out a1 n cap _ Hn.out (by omega) (((hl.kept hb1).kept hb2).kept hb3)).mono ?_
        rintro e w4 ⟨rfl, hb4⟩
        go_wp2_with fail
        refine (rSame_any d1 d2 r r k k c1 c2 _ Hk.out Hk.out (by omega) (by omega) (((p1.kept hb2).kept hb3).kept hb4) ((p2.kept hb3).kept hb4)).mono ?_
        rintro e w6 ⟨rfl, hb6⟩
        rw [show sameB r r = true by simp [sameB]]
        go_wp2_with fail
        refine (clkAwake_any K _ (hT.on (by (repeat' first | with_reducible assumption | exact Below.refl _ _ | with_reducible refine Below.drew ?_ | with_reducible refine Below.drewN ?_ _ | with_reducible refine Below.alloc' ?_ _ | with_reducible refine Below.setCell ?_ (by first | exact Nat.le_refl _ | omega | (simp; done) | (simp; omega)) _ | with_reducible refine Below.after ?_ ‹_›)))).mono ?_
        rintro e w9 ⟨rfl, hb9⟩
        go_wp2
        go_ret
        exact ⟨rfl, by (repeat' first | with_reducible assumption | exact Below.refl _ _ | with_reducible refine Below.drew ?_ | with_reducible refine Below.drewN ?_ _ | with_reducible refine Below.alloc' ?_ _ | with_reducible refine Below.setCell ?_ (by first | exact Nat.le_refl _ | omega | (simp; done) | (simp; omega)) _ | with_reducible refine Below.after ?_ ‹_›)⟩
      · have HL := Lib.hid hi
        obtain ⟨q, hq⟩ : ∃ q, insB m t = q := ⟨_, rfl⟩
        have HQ := Lib.hid hq
        have HX := Lib.hid (show insB r t = q by rw [Hi.out, hi, hq]; rfl)
        clear hq
        clear hi Hi
        go_enter Tryd.func10, Tryd.ntmps10
        go_wp2_with fail
        refine (conCommon_is K H1.out a1 a2 n n' cap cap' k _ Hn.out Hn'.out h2 h3 hl hm Hk.out).mono ?_
        rintro e w1 ⟨d1, c1, rfl, p1, hb1⟩
        go_wp2_with fail
        refine (conCommon_is K H2.out a2 a1 n' n cap' cap k _ Hn'.out Hn.out h3 h2 (hm.kept hb1) (hl.kept hb1) Hk.out).mono ?_
        rintro e w2 ⟨d2, c2, rfl, p2, hb2⟩
        go_wp2_with fail
        refine (conInside_is K HX.out d1 k c1 _ Hk.out (by omega) (p1.kept hb2)).mono ?_
        rintro e w3 ⟨rfl, hb3⟩
        go_wp2_with fail
        refine (conInside_is K HL.out a1 n cap _ Hn.out (by omega) (((hl.kept hb1).kept hb2).kept hb3)).mono ?_
        rintro e w4 ⟨rfl, hb4⟩
        go_wp2_with fail
        refine (conInside_is K HQ.out a2 n' cap' _ Hn'.out (by omega) ((((hm.kept hb1).kept hb2).kept hb3).kept hb4)).mono ?_
        rintro e w5 ⟨rfl, hb5⟩
        go_wp2_with fail
        refine (rSame_any d1 d2 r r k k c1 c2 _ Hk.out Hk.out (by omega) (by omega) ((((p1.kept hb2).kept hb3).kept hb4).kept hb5) (((p2.kept hb3).kept hb4).kept hb5)).mono ?_
        rintro e w6 ⟨rfl, hb6⟩
        rw [show sameB r r = true by simp [sameB]]
        go_wp2_with fail
        refine (clkAwake_any K _ (hT.on (by (repeat' first | with_reducible assumption | exact Below.refl _ _ | with_reducible refine Below.drew ?_ | with_reducible refine Below.drewN ?_ _ | with_reducible refine Below.alloc' ?_ _ | with_reducible refine Below.setCell ?_ (by first | exact Nat.le_refl _ | omega | (simp; done) | (simp; omega)) _ | with_reducible refine Below.after ?_ ‹_›)))).mono ?_
        rintro e w9 ⟨rfl, hb9⟩
        go_wp2
        go_ret
        exact ⟨rfl, by (repeat' first | with_reducible assumption | exact Below.refl _ _ | with_reducible refine Below.drew ?_ | with_reducible refine Below.drewN ?_ _ | with_reducible refine Below.alloc' ?_ _ | with_reducible refine Below.setCell ?_ (by first | exact Nat.le_refl _ | omega | (simp; done) | (simp; omega)) _ | with_reducible refine Below.after ?_ ‹_›)⟩
  · by_cases h4 : n ≤ 100
    · have h5 : ¬ n' ≤ 100 := fun h => h2 ⟨h4, h⟩
      clear h2
      go_enter Tryd.func10, Tryd.ntmps10
      go_wp2_with fail
      refine (clkAwake_any K _ (hT.on (by (repeat' first | with_reducible assumption | exact Below.refl _ _ | with_reducible refine Below.drew ?_ | with_reducible refine Below.drewN ?_ _ | with_reducible refine Below.alloc' ?_ _ | with_reducible refine Below.setCell ?_ (by first | exact Nat.le_refl _ | omega | (simp; done) | (simp; omega)) _ | with_reducible refine Below.after ?_ ‹_›)))).mono ?_
      rintro e w9 ⟨rfl, hb9⟩
      go_wp2
      go_ret
      exact ⟨rfl, by (repeat' first | with_reducible assumption | exact Below.refl _ _ | with_reducible refine Below.drew ?_ | with_reducible refine Below.drewN ?_ _ | with_reducible refine Below.alloc' ?_ _ | with_reducible refine Below.setCell ?_ (by first | exact Nat.le_refl _ | omega | (simp; done) | (simp; omega)) _ | with_reducible refine Below.after ?_ ‹_›)⟩
    · clear h2
      go_enter Tryd.func10, Tryd.ntmps10
      go_wp2_with fail
      refine (clkAwake_any K _ (hT.on (by (repeat' first | with_reducible assumption | exact Below.refl _ _ | with_reducible refine Below.drew ?_ | with_reducible refine Below.drewN ?_ _ | with_reducible refine Below.alloc' ?_ _ | with_reducible refine Below.setCell ?_ (by first | exact Nat.le_refl _ | omega | (simp; done) | (simp; omega)) _ | with_reducible refine Below.after ?_ ‹_›)))).mono ?_
      rintro e w9 ⟨rfl, hb9⟩
      go_wp2
      go_ret
      exact ⟨rfl, by (repeat' first | with_reducible assumption | exact Below.refl _ _ | with_reducible refine Below.drew ?_ | with_reducible refine Below.drewN ?_ _ | with_reducible refine Below.alloc' ?_ _ | with_reducible refine Below.setCell ?_ (by first | exact Nat.le_refl _ | omega | (simp; done) | (simp; omega)) _ | with_reducible refine Below.after ?_ ‹_›)⟩
end Go.Proofs.YtjmbbhhfbdjbdaaDoor
