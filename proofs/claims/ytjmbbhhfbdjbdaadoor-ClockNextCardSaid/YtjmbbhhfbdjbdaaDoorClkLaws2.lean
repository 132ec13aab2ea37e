/-
  Walks over the laws of package clock: Unions, Commons.
-/
import Derived.Test.YtjmbbhhfbdjbdaaDoorClkLaws
namespace Go.Proofs.YtjmbbhhfbdjbdaaDoor
open Go.RowKit

theorem unite_len (l : List (Int × Int)) : (unite l).length ≤ l.length := by
  have h1 := sort_length l []
  have h2 := join_all_length (sortS l) []
  rw [← sortS_fold] at h1
  unfold unite
  rw [List.length_reverse]
  simp only [List.length_nil, Nat.zero_add] at h1 h2
  omega
theorem mrg_len (l : List (Int × Int)) : (mrg l).1.length ≤ l.length := by
  unfold mrg
  split
  · exact unite_len l
  · exact Nat.zero_le _
theorem comS_len (a b : List (Int × Int)) : (comS a b).1.length ≤ a.length * b.length := by
  unfold comS
  split
  · exact Nat.le_trans (inter_length _ _) (Nat.mul_le_mul (unite_len a) (unite_len b))
  · exact Nat.zero_le _

set_option maxRecDepth 100000 in
set_option maxHeartbeats 4000000 in
theorem clockUnions_of (K : ClkCon) (a : Option Addr) (l : List (Int × Int)) (n cap : Nat) (t : Int) (w : World) (hT : Tabs w) (hn : l.length = n) (hl : Pairs w a l) :
    Calls Tryd.prog 5 #[.slice a n cap, .int .i64 t] w fun e w' => e = .returned (.bool true) ∧ Below w.heap.size w w' := by
  by_cases h2 : n ≤ 200
  · have hr : (mrg l).1.length ≤ 200 := Nat.le_trans (mrg_len l) (by omega)
    have Hn := Lib.hid hn
    have Hr := Lib.hid hr
    clear hn hr
    obtain ⟨⟨r, x⟩, he⟩ : ∃ y, mrg l = y := ⟨_, rfl⟩
    rw [he] at Hr
    have HE := Lib.hid he
    clear he
    have d1 := K.merge a l n cap w Hn.out (by omega) hl
    rw [HE.out] at d1
    go_enter Tryd.func5, Tryd.ntmps5
    go_wp2_with fail
    refine d1.mono ?_
    rintro e w1 ⟨b, c, rfl, hp, hb1⟩
    clear d1
    simp only []
    go_wp2_with fail
    refine (rMerge_is HE.out a n cap _ Hn.out (by omega) (hl.kept hb1)).mono ?_
    rintro e w2 ⟨b', c', rfl, _, hp', hb2⟩
    obtain ⟨m, hm⟩ : ∃ m, r.length = m := ⟨_, rfl⟩
    have Hm := Lib.hid hm
    rw [hm]
    have hm2 : m ≤ 200 := by rw [← hm]; exact Hr.out
    clear hm
    go_wp2_with fail
    refine (rSame_any b b' r r m m c c' _ Hm.out Hm.out (by omega) (by omega) (hp.kept hb2) hp').mono ?_
    rintro e w3 ⟨rfl, hb3⟩
    rw [show sameB r r = true by simp [sameB]]
    go_wp2_with fail
    refine (K.inside a l n cap t _ Hn.out (by omega) (((hl.kept hb1).kept hb2).kept hb3)).mono ?_
    rintro e w4 ⟨rfl, hb4⟩
    go_wp2_with fail
    refine (rInside_any a l n cap t _ Hn.out (by omega) ((((hl.kept hb1).kept hb2).kept hb3).kept hb4)).mono ?_
    rintro e w5 ⟨rfl, hb5⟩
    go_wp2_with fail
    refine (clkAwake_any K _ (hT.on (by (repeat' first | with_reducible assumption | exact Below.refl _ _ | with_reducible refine Below.drew ?_ | with_reducible refine Below.drewN ?_ _ | with_reducible refine Below.alloc' ?_ _ | with_reducible refine Below.setCell ?_ (by first | exact Nat.le_refl _ | omega | (simp; done) | (simp; omega)) _ | with_reducible refine Below.after ?_ ‹_›)))).mono ?_
    rintro e w6 ⟨rfl, hb6⟩
    go_wp2
    go_ret
    exact ⟨rfl, by (repeat' first | with_reducible assumption | exact Below.refl _ _ | with_reducible refine Below.drew ?_ | with_reducible refine Below.drewN ?_ _ | with_reducible refine Below.alloc' ?_ _ | with_reducible refine Below.setCell ?_ (by first | exact Nat.le_refl _ | omega | (simp; done) | (simp; omega)) _ | with_reducible refine Below.after ?_ ‹_›)⟩
  · go_enter Tryd.func5, Tryd.ntmps5
    go_wp2_with fail
    refine (clkAwake_any K _ (hT.on (by (repeat' first | with_reducible assumption | exact Below.refl _ _ | with_reducible refine Below.drew ?_ | with_reducible refine Below.drewN ?_ _ | with_reducible refine Below.alloc' ?_ _ | with_reducible refine Below.setCell ?_ (by first | exact Nat.le_refl _ | omega | (simp; done) | (simp; omega)) _ | with_reducible refine Below.after ?_ ‹_›)))).mono ?_
    rintro e w5 ⟨rfl, hb5⟩
    go_wp2
    go_ret
    exact ⟨rfl, by (repeat' first | with_reducible assumption | exact Below.refl _ _ | with_reducible refine Below.drew ?_ | with_reducible refine Below.drewN ?_ _ | with_reducible refine Below.alloc' ?_ _ | with_reducible refine Below.setCell ?_ (by first | exact Nat.le_refl _ | omega | (simp; done) | (simp; omega)) _ | with_reducible refine Below.after ?_ ‹_›)⟩

set_option maxRecDepth 100000 in
set_option maxHeartbeats 4000000 in
theorem clockCommons_of (K : ClkCon) (a1 a2 : Option Addr) (l m : List (Int × Int)) (n n' cap cap' : Nat) (w : World) (hT : Tabs w) (hn : l.length = n) (hn' : m.length = n') (hl : Pairs w a1 l) (hm : Pairs w a2 m) :
    Calls Tryd.prog 6 #[.slice a1 n cap, .slice a2 n' cap'] w fun e w' => e = .returned (.bool true) ∧ Below w.heap.size w w' := by
  by_cases h2 : n ≤ 100 ∧ n' ≤ 100
  · obtain ⟨h2, h3⟩ := h2
    have hr : (comS l m).1.length ≤ 10000 := Nat.le_trans (comS_len l m) (by rw [hn, hn']; exact Nat.mul_le_mul h2 h3)
    have Hn := Lib.hid hn
    have Hn' := Lib.hid hn'
    have Hr := Lib.hid hr
    clear hn hn' hr
    obtain ⟨⟨r, x⟩, he⟩ : ∃ y, comS l m = y := ⟨_, rfl⟩
    rw [he] at Hr
    have HE := Lib.hid he
    clear he
    have d1 := K.common a1 a2 l m n n' cap cap' w Hn.out Hn'.out h2 h3 hl hm
    rw [HE.out] at d1
    go_enter Tryd.func6, Tryd.ntmps6
    go_wp2_with fail
    refine d1.mono ?_
    rintro e w1 ⟨b, c, rfl, hp, hb1⟩
    clear d1
    simp only []
    go_wp2_with fail
    have d2 := rCommon_any a1 a2 l m n n' cap cap' w1 Hn.out Hn'.out (by omega) (by omega) (hl.kept hb1) (hm.kept hb1)
    rw [HE.out] at d2
    refine d2.mono ?_
    intro e w2 hg
    obtain ⟨b', c', rfl, hp', hb2⟩ := hg.list
    clear d2 hg
    simp only []
    obtain ⟨k, hk⟩ : ∃ k, r.length = k := ⟨_, rfl⟩
    have Hk := Lib.hid hk
    rw [hk]
    have hk2 : k ≤ 10000 := by rw [← hk]; exact Hr.out
    clear hk
    go_wp2_with fail
    refine (rSame_any b b' r r k k c c' _ Hk.out Hk.out (by omega) (by omega) (hp.kept hb2) hp').mono ?_
    rintro e w3 ⟨rfl, hb3⟩
    rw [show sameB r r = true by simp [sameB]]
    go_wp2_with fail
    refine (clkAwake_any K _ (hT.on (by (repeat' first | with_reducible assumption | exact Below.refl _ _ | with_reducible refine Below.drew ?_ | with_reducible refine Below.drewN ?_ _ | with_reducible refine Below.alloc' ?_ _ | with_reducible refine Below.setCell ?_ (by first | exact Nat.le_refl _ | omega | (simp; done) | (simp; omega)) _ | with_reducible refine Below.after ?_ ‹_›)))).mono ?_
    rintro e w6 ⟨rfl, hb6⟩
    go_wp2
    go_ret
    exact ⟨rfl, by (repeat' first | with_reducible assumption | exact Below.refl _ _ | with_reducible refine Below.drew ?_ | with_reducible refine Below.drewN ?_ _ | with_reducible refine Below.alloc' ?_ _ | with_reducible refine Below.setCell ?_ (by first | exact Nat.le_refl _ | omega | (simp; done) | (simp; omega)) _ | with_reducible refine Below.after ?_ ‹_›)⟩
  · by_cases h4 : n ≤ 100
    · have h5 : ¬ n' ≤ 100 := fun h => h2 ⟨h4, h⟩
      clear h2
      go_enter Tryd.func6, Tryd.ntmps6
      go_wp2_with fail
      refine (clkAwake_any K _ (hT.on (by (repeat' first | with_reducible assumption | exact Below.refl _ _ | with_reducible refine Below.drew ?_ | with_reducible refine Below.drewN ?_ _ | with_reducible refine Below.alloc' ?_ _ | with_reducible refine Below.setCell ?_ (by first | exact Nat.le_refl _ | omega | (simp; done) | (simp; omega)) _ | with_reducible refine Below.after ?_ ‹_›)))).mono ?_
      rintro e w5 ⟨rfl, hb5⟩
      go_wp2
      go_ret
      exact ⟨rfl, by (repeat' first | with_reducible assumption | exact Below.refl _ _ | with_reducible refine Below.drew ?_ | with_reducible refine Below.drewN ?_ _ | with_reducible refine Below.alloc' ?_ _ | with_reducible refine Below.setCell ?_ (by first | exact Nat.le_refl _ | omega | (simp; done) | (simp; omega)) _ | with_reducible refine Below.after ?_ ‹_›)⟩
    · clear h2
      go_enter Tryd.func6, Tryd.ntmps6
      go_wp2_with fail
      refine (clkAwake_any K _ (hT.on (by (repeat' first | with_reducible assumption | exact Below.refl _ _ | with_reducible refine Below.drew ?_ | with_reducible refine Below.drewN ?_ _ | with_reducible refine Below.alloc' ?_ _ | with_reducible refine Below.setCell ?_ (by first | exact Nat.le_refl _ | omega | (simp; done) | (simp; omega)) _ | with_reducible refine Below.after ?_ ‹_›)))).mono ?_
      rintro e w5 ⟨rfl, hb5⟩
      go_wp2
      go_ret
      exact ⟨rfl, by (repeat' first | with_reducible assumption | exact Below.refl _ _ | with_reducible refine Below.drew ?_ | with_reducible refine Below.drewN ?_ _ | with_reducible refine Below.alloc' ?_ _ | with_reducible refine Below.setCell ?_ (by first | exact Nat.le_refl _ | omega | (simp; done) | (simp; omega)) _ | with_reducible refine Below.after ?_ ‹_›)⟩
end Go.Proofs.YtjmbbhhfbdjbdaaDoor
