/-
  Walks over the laws of package field: great, Splits, Joins, Lines, Numbers.
-/
import Derived.Test.YtdkhajpkldjlmaaFldK
import Derived.Test.YtdkhajpkldjlmaaFldG
import Derived.Test.YtdkhajpkldjlmaaFldH
namespace Go.Proofs.Ytdkhajpkldjlmaa
set_option linter.unusedVariables false
set_option linter.unusedSimpArgs false
open Go.RowKit

def greatB (l : List ByteArray) : Bool := decide (60 < l.length) || !(l.all fun s => decide (s.size ≤ 600))
theorem great_no {l : List ByteArray} (h : greatB l = false) : l.length ≤ 60 ∧ ∀ s ∈ l, s.size ≤ 600 := by
  unfold greatB at h
  simp at h
  exact ⟨h.1, fun s hs => h.2 s hs⟩
theorem great_yes {l : List ByteArray} {k : Nat} (hk : k < l.length) (h : 600 < (l[k]?.getD ByteArray.empty).size) : greatB l = true := by
  unfold greatB
  have : (l.all fun s => decide (s.size ≤ 600)) = false := by
    rw [List.all_eq_false]
    refine ⟨l[k]?.getD ByteArray.empty, by rw [List.getElem?_eq_getElem hk]; exact List.getElem_mem hk, ?_⟩
    simp
    omega
  rw [this]
  simp
theorem all_upto (l : List ByteArray) (p : ByteArray → Bool) (k : Nat) (hk : k < l.length) (h : ((l.take k).all p) = true) (hp : p (l[k]?.getD ByteArray.empty) = true) : ((l.take (k + 1)).all p) = true := by
  rw [List.take_add_one, List.all_append, h, List.getElem?_eq_getElem hk]
  rw [List.getElem?_eq_getElem hk] at hp
  simpa using hp
set_option maxRecDepth 20000 in
set_option maxHeartbeats 2000000 in
theorem great_any (a : Option Addr) (l : List ByteArray) (n cap : Nat) (w : World) (hn : l.length = n) (hb : n ≤ maxLen) (hl : Strs w a l) (hsz : ∀ s ∈ l, s.size ≤ maxLen) :
    Calls Try.prog 14 #[.slice a n cap] w fun e w' => e = .returned (.bool (greatB l)) ∧ w = w' := by
  have Hn := Lib.hid hn
  have Hsz := Lib.hid hsz
  clear hn hsz
  unfold maxLen at hb
  by_cases h1 : 60 < n
  · have E := Lib.hid (show greatB l = true by unfold greatB; rw [Hn.out, decide_eq_true h1]; rfl)
    go_enter Try.func14, Try.ntmps14
    go_wp2
    go_ret
    exact ⟨by rw [E.out]; rfl, rfl⟩
  · have h2 : n ≤ 60 := by omega
    have HG := Lib.hid (show (l.all fun s => decide (s.size ≤ 600)) = true → greatB l = false from fun h => by unfold greatB; rw [h, Hn.out, decide_eq_false h1]; rfl)
    clear h1
    go_enter Try.func14, Try.ntmps14
    go_wp2
    go_loop [3] (fun i => ∃ k : Nat, k ≤ n ∧ i = .int .i64 k ∧ Hid (((l.take k).all fun s => decide (s.size ≤ 600)) = true)) (fun i => n - (intOf i).toNat)
    case atStart => exact ⟨0, Nat.zero_le _, rfl, rfl⟩
    case round =>
      obtain ⟨k, hk, rfl, Hall⟩ := hrel
      by_cases hlt : k < n
      · have hkl : k < l.length := by rw [Hn.out]; exact hlt
        obtain ⟨b, off, rfl, hc⟩ := hl.at_ (k := k) hkl
        have hu1 := Hsz.out (l[k]?.getD ByteArray.empty) (by
          rw [List.getElem?_eq_getElem hkl]
          exact List.getElem_mem hkl)
        have Hy := Lib.hid (great_yes hkl)
        have Hu := Lib.hid (all_upto l (fun s => decide (s.size ≤ 600)) k hkl Hall.out)
        obtain ⟨u, hu⟩ : ∃ u, l[k]?.getD ByteArray.empty = u := ⟨_, rfl⟩
        rw [hu] at hc Hy Hu hu1
        unfold maxLen at hu1
        clear hu hkl
        by_cases h3 : 600 < u.size
        · have E := Lib.hid (Hy.out h3)
          go_wp2
          go_ret
          exact ⟨by rw [E.out]; rfl, rfl⟩
        · have E := Lib.hid (Hu.out (by simp; omega))
          go_wp2
          go_round
          case rel => exact ⟨k + 1, by omega, by go_num, E⟩
          case measure => simp [intOf]; omega
      · have E := Lib.hid (HG.out (by
          have h := Hall.out
          rwa [List.take_of_length_le (by rw [Hn.out]; omega)] at h))
        go_wp2
        go_ret
        exact ⟨by rw [E.out]; rfl, rfl⟩
theorem great_is {l : List ByteArray} {r : Bool} (h : greatB l = r) (a : Option Addr) (n cap : Nat) (w : World) (hn : l.length = n) (hb : n ≤ maxLen) (hl : Strs w a l) (hsz : ∀ s ∈ l, s.size ≤ maxLen) :
    Calls Try.prog 14 #[.slice a n cap] w fun e w' => e = .returned (.bool r) ∧ w = w' := by
  have := great_any a l n cap w hn hb hl hsz
  rwa [h] at this

section
variable (K : FldCon)
include K
set_option maxRecDepth 100000 in
set_option maxHeartbeats 4000000 in
theorem fieldSplits_of (s : ByteArray) (w : World) (hs : s.size ≤ maxLen) :
    Calls Try.prog 3 #[.string s] w fun e w' => e = .returned (.bool true) ∧ Below w.heap.size w w' := by
  unfold maxLen at hs
  by_cases h1 : 2000 < s.size
  · go_enter Try.func3, Try.ntmps3
    go_wp2_with fail
    refine (fldAwake_any K _).mono ?_
    rintro e w1 ⟨rfl, hb1⟩
    go_wp2
    go_ret
    exact ⟨rfl, hb1⟩
  · have h2 : s.size ≤ 2000 := by omega
    clear h1
    obtain ⟨r, hr⟩ : ∃ r, splitL s.data.toList = r := ⟨_, rfl⟩
    have HR := Lib.hid hr
    have hcnt := split_count s.data.toList
    rw [hr] at hcnt
    clear hr
    go_enter Try.func3, Try.ntmps3
    go_wp2_with fail
    refine (K.split_is HR.out _ (by omega)).mono ?_
    rintro e w1 ⟨b1, c1, l1, rfl, hl1, hs1, -, hb1⟩
    have Hl1 := Lib.hid (of_B hl1)
    clear hl1
    have hS := rSplit_any s w1 (by omega)
    rw [HR.out] at hS
    have HS := Lib.hid hS
    clear hS
    have hlen : l1.length ≤ 1025 := by rw [Hl1.out]; simpa using hcnt
    obtain ⟨n1, hn1⟩ : ∃ n, l1.length = n := ⟨_, rfl⟩
    rw [hn1] at hlen ⊢
    have Hn1 := Lib.hid hn1
    clear hn1
    go_wp2_with fail
    refine HS.out.mono ?_
    rintro e w2 ⟨b2, c2, l2, rfl, hl2, hs2, -, hb2⟩
    have Hl2 := Lib.hid (of_B hl2)
    clear hl2
    obtain ⟨n2, hn2⟩ : ∃ n, l2.length = n := ⟨_, rfl⟩
    have hlen2 : n2 ≤ 1025 := by rw [← hn2, Hl2.out]; simpa using hcnt
    rw [hn2]
    have Hn2 := Lib.hid hn2
    clear hn2
    obtain ⟨x, hx⟩ : ∃ x, r.2 = x := ⟨_, rfl⟩
    rw [hx]
    clear hx
    go_wp2_with fail
    refine (rSame_is (l := l1) (m := l2) (r := true) (decide_eq_true (Hl1.out.trans Hl2.out.symm)) b1 b2 n1 c1 n2 c2 _ Hn1.out Hn2.out (by omega) (by omega) (hs1.kept hb2) hs2).mono ?_
    rintro e w3 ⟨rfl, hb3⟩
    go_wp2_with fail
    refine (fldAwake_any K _).mono ?_
    rintro e w4 ⟨rfl, hb4⟩
    go_wp2
    go_ret
    exact ⟨rfl, by (repeat' first | with_reducible assumption | exact Below.refl _ _ | with_reducible refine Below.drew ?_ | with_reducible refine Below.drewN ?_ _ | with_reducible refine Below.alloc' ?_ _ | with_reducible refine Below.setCell ?_ (by first | exact Nat.le_refl _ | omega | (simp; done) | (simp; omega)) _ | with_reducible refine Below.after ?_ ‹_›)⟩

set_option maxRecDepth 100000 in
set_option maxHeartbeats 4000000 in
theorem fieldJoins_of (a : Option Addr) (l : List ByteArray) (n cap : Nat) (w : World) (hn : l.length = n) (hb : n ≤ maxLen) (hl : Strs w a l) (hsz : ∀ s ∈ l, s.size ≤ maxLen) :
    Calls Try.prog 4 #[.slice a n cap] w fun e w' => e = .returned (.bool true) ∧ Below w.heap.size w w' := by
  cases hg : greatB l
  · have HG := Lib.hid (great_is hg a n cap w hn hb hl hsz)
    obtain ⟨h60, hsz2⟩ := great_no hg
    have Hsz2 := Lib.hid (show ∀ s ∈ l, s.size ≤ 1000000 from fun s hs => Nat.le_trans (hsz2 s hs) (by decide))
    rw [hn] at h60
    have Hn := Lib.hid hn
    obtain ⟨r, hr⟩ : ∃ r, joinL (B l) = r := ⟨_, rfl⟩
    have HR := Lib.hid hr
    obtain ⟨v, hv⟩ : ∃ v, ofL r.1 = v := ⟨_, rfl⟩
    have Hv := Lib.hid hv
    obtain ⟨x, hx⟩ : ∃ x, r.2 = x := ⟨_, rfl⟩
    have Hx := Lib.hid hx
    have hts : (v.toList == v.toList) = true := by simp
    clear hn hsz hsz2 hg hr hv hx
    go_enter Try.func4, Try.ntmps4
    go_wp2_with fail
    refine HG.out.mono ?_
    rintro e w0 ⟨rfl, rfl⟩
    go_wp2_with fail
    refine (K.join_is HR.out a n cap _ Hn.out (by omega) hl Hsz2.out).mono ?_
    rintro e w1 ⟨rfl, hb1⟩
    rw [Hv.out, Hx.out]
    have hJ := rJoin_any a l n cap w1 Hn.out (by omega) (hl.kept hb1) Hsz2.out
    rw [HR.out, Hv.out, Hx.out] at hJ
    have HJ := Lib.hid hJ
    clear hJ
    go_wp2_with fail
    refine HJ.out.mono ?_
    rintro e w2 ⟨rfl, rfl⟩
    go_wp2_with fail
    refine (fldAwake_any K _).mono ?_
    rintro e w4 ⟨rfl, hb4⟩
    go_wp2
    go_ret
    exact ⟨rfl, by (repeat' first | with_reducible assumption | exact Below.refl _ _ | with_reducible refine Below.drew ?_ | with_reducible refine Below.drewN ?_ _ | with_reducible refine Below.alloc' ?_ _ | with_reducible refine Below.setCell ?_ (by first | exact Nat.le_refl _ | omega | (simp; done) | (simp; omega)) _ | with_reducible refine Below.after ?_ ‹_›)⟩
  · have HG := Lib.hid (great_is hg a n cap w hn hb hl hsz)
    unfold maxLen at hb
    clear hn hsz hg
    go_enter Try.func4, Try.ntmps4
    go_wp2_with fail
    refine HG.out.mono ?_
    rintro e w0 ⟨rfl, rfl⟩
    go_wp2_with fail
    refine (fldAwake_any K _).mono ?_
    rintro e w1 ⟨rfl, hb1⟩
    go_wp2
    go_ret
    exact ⟨rfl, hb1⟩

set_option maxRecDepth 100000 in
set_option maxHeartbeats 4000000 in
theorem fieldNumbers_of (s : ByteArray) (w : World) (hs : s.size ≤ maxLen) :
    Calls Try.prog 6 #[.string s] w fun e w' => e = .returned (.bool true) ∧ Below w.heap.size w w' := by
  unfold maxLen at hs
  by_cases h1 : 200 < s.size
  · go_enter Try.func6, Try.ntmps6
    go_wp2_with fail
    refine (fldAwake_any K _).mono ?_
    rintro e w1 ⟨rfl, hb1⟩
    go_wp2
    go_ret
    exact ⟨rfl, hb1⟩
  · have h2 : s.size ≤ 200 := by omega
    clear h1
    obtain ⟨r, hr⟩ : ∃ r, numL s.data.toList = r := ⟨_, rfl⟩
    have HR := Lib.hid hr
    obtain ⟨v, hv⟩ : ∃ v, r.1 = v := ⟨_, rfl⟩
    have Hv := Lib.hid hv
    obtain ⟨x, hx⟩ : ∃ x, r.2 = x := ⟨_, rfl⟩
    have Hx := Lib.hid hx
    clear hr hv hx
    go_enter Try.func6, Try.ntmps6
    go_wp2_with fail
    refine (K.number_is HR.out _ (by omega)).mono ?_
    rintro e w1 ⟨rfl, hb1⟩
    rw [Hv.out, Hx.out]
    have hJ := rNumber_any s w1 (by omega)
    rw [HR.out, Hv.out, Hx.out] at hJ
    have HJ := Lib.hid hJ
    clear hJ
    go_wp2_with fail
    refine HJ.out.mono ?_
    rintro e w2 ⟨rfl, rfl⟩
    go_wp2_with fail
    refine (fldAwake_any K _).mono ?_
    rintro e w4 ⟨rfl, hb4⟩
    go_wp2
    go_ret
    exact ⟨rfl, by (repeat' first | with_reducible assumption | exact Below.refl _ _ | with_reducible refine Below.drew ?_ | with_reducible refine Below.drewN ?_ _ | with_reducible refine Below.alloc' ?_ _ | with_reducible refine Below.setCell ?_ (by first | exact Nat.le_refl _ | omega | (simp; done) | (simp; omega)) _ | with_reducible refine Below.after ?_ ‹_›)⟩
end
end Go.Proofs.Ytdkhajpkldjlmaa
