/-
  Walks over the reference of package field: Same, SameLists; slices of slices of strings.
-/
import Derived.Test.YtdkhajpkldjlmaaDoorFldU
import Derived.Deep.QuietTactic
import Derived.BigQuiet
namespace Go.Proofs.YtdkhajpkldjlmaaDoor
set_option linter.unusedVariables false
set_option linter.unusedSimpArgs false
open Go.RowKit

/-- a call that only draws -/
def Drawn (w : World) (v : Value) (e : Ending) (w' : World) : Prop := e = .returned v ∧ ∃ m, w' = w.drewN m
theorem take_same {α : Type} {l m : List α} {k : Nat} (h : l.take k = m.take k) (hl : l[k]? = m[k]?) : l.take (k + 1) = m.take (k + 1) := by
  rw [List.take_add_one, List.take_add_one, h, hl]
theorem getD_some {l : List ByteArray} {k : Nat} (h : k < l.length) : l[k]? = some (l[k]?.getD ByteArray.empty) := by
  rw [List.getElem?_eq_getElem h]; rfl
theorem drewN_below (w : World) (m : Nat) : Below w.heap.size w (w.drewN m) := by
  have := Below.drewN (Below.refl w.heap.size w) m
  exact this

set_option maxRecDepth 20000 in
set_option maxHeartbeats 4000000 in
theorem rSame_any (a b : Option Addr) (l m : List ByteArray) (n c k d : Nat) (w : World) (hn : l.length = n) (hk : m.length = k) (hb : n ≤ 1000000) (hb2 : k ≤ 1000000) (hl : Strs w a l) (hm : Strs w b m) :
    Calls Tryd.prog 13 #[.slice a n c, .slice b k d] w (Drawn w (.bool (decide (l = m)))) := by
  have Hn := Lib.hid hn
  have Hk := Lib.hid hk
  clear hn hk
  by_cases hnk : n = k
  · have Hnk := Lib.hid hnk
    have e1 : ((n : Int) != (k : Int)) = false := by simp; omega
    have e0 : n ≤ k := by omega
    clear hnk
    go_enter Tryd.func13, Tryd.ntmps13
    go_wp2
    go_loopw [5] (fun i wr => ∃ j : Nat, j ≤ n ∧ i = .int .i64 j ∧ Hid (∃ q, wr = w.drewN q) ∧ Hid (l.take j = m.take j)) (fun i _ => n - (intOf i).toNat)
    case atStart => exact ⟨0, Nat.zero_le _, rfl, ⟨0, rfl⟩, rfl⟩
    case round =>
      obtain ⟨j, hj, rfl, Hq, Ht⟩ := hrel
      by_cases hlt : j < n
      · have hjl : j < l.length := by rw [Hn.out]; exact hlt
        have hjm : j < m.length := by rw [Hk.out]; omega
        have hl' : Strs wr a l := by obtain ⟨q, rfl⟩ := Hq.out; exact hl
        have hm' : Strs wr b m := by obtain ⟨q, rfl⟩ := Hq.out; exact hm
        obtain ⟨g, off, rfl, hc⟩ := hl'.at_ (k := j) hjl
        obtain ⟨g2, off2, rfl, hc2⟩ := hm'.at_ (k := j) hjm
        have G1 := Lib.hid (getD_some hjl)
        have G2 := Lib.hid (getD_some hjm)
        obtain ⟨u, hu⟩ : ∃ u, l[j]?.getD ByteArray.empty = u := ⟨_, rfl⟩
        obtain ⟨v, hv⟩ : ∃ u, m[j]?.getD ByteArray.empty = u := ⟨_, rfl⟩
        rw [hu] at hc G1
        rw [hv] at hc2 G2
        have i0 : (0 : Int) ≤ (j : Int) := by omega
        have i1 : (j : Int) < (n : Int) := by omega
        have i2 : (j : Int) < (k : Int) := by omega
        have i3 : j < k := by omega
        clear hu hv hl' hm' hjl hjm
        by_cases huv : u = v
        · have E := Lib.hid (show l.take (j + 1) = m.take (j + 1) from take_same Ht.out (by rw [G1.out, G2.out, huv]))
          have hts : (u.toList != v.toList) = false := by rw [huv]; simp
          have hts2 : (u.toList == v.toList) = true := by rw [huv]; simp
          clear huv
          go_wp2_with fail
          go_quiet (fail)
          go_wp2
          go_roundw
          case rel => exact ⟨j + 1, by omega, by go_num, by obtain ⟨q, hq⟩ := Hq.out; exact ⟨_, by rw [hq, World.drewN_drewN]⟩, E⟩
          case measure => simp [intOf]; omega
        · have E := Lib.hid (show decide (l = m) = false from decide_eq_false (fun h => huv (by
            have h1 := G1.out
            rw [h, G2.out] at h1
            exact (Option.some.inj h1).symm)))
          have hts2 : (u.toList == v.toList) = false := by rw [str_eq]; simpa using huv
          clear huv
          go_wp2_with fail
          go_quiet (fail)
          go_wp2
          go_ret
          exact ⟨by rw [E.out]; rfl, by obtain ⟨q, hq⟩ := Hq.out; exact ⟨_, by rw [hq, World.drewN_drewN]⟩⟩
      · have E := Lib.hid (show decide (l = m) = true from decide_eq_true (by
          have h := Ht.out
          rwa [List.take_of_length_le (by rw [Hn.out]; omega), List.take_of_length_le (by rw [Hk.out, ← Hnk.out]; omega)] at h))
        go_wp2
        go_ret
        exact ⟨by rw [E.out]; rfl, Hq.out⟩
  · have E := Lib.hid (show decide (l = m) = false from decide_eq_false (fun h => hnk (by rw [← Hn.out, ← Hk.out, h])))
    have e1 : ((n : Int) != (k : Int)) = true := by simpa using (by omega : ¬ (n : Int) = (k : Int))
    have e2 : ((n : Int) == (k : Int)) = false := by simpa using (by omega : ¬ (n : Int) = (k : Int))
    clear hnk
    go_enter Tryd.func13, Tryd.ntmps13
    go_wp2
    go_ret
    exact ⟨by rw [E.out]; rfl, ⟨0, rfl⟩⟩

/-- a slice of slices of strings that reads as the list of lists -/
def Strss (w : World) (a : Option Addr) (ls : List (List ByteArray)) : Prop :=
  ls ≠ [] → ∃ b off, a = some ⟨b, off, none⟩ ∧ ∀ k, k < ls.length → ∃ x n c, w.cell? ⟨b, off + k, none⟩ = some (.slice x n c) ∧ (ls[k]?.getD []).length = n ∧ Strs w x (ls[k]?.getD [])
theorem Strss.at_ {w : World} {a : Option Addr} {ls : List (List ByteArray)} (h : Strss w a ls) {k : Nat} (hk : k < ls.length) :
    ∃ b off x n c, a = some ⟨b, off, none⟩ ∧ w.cell? ⟨b, off + k, none⟩ = some (.slice x n c) ∧ (ls[k]?.getD []).length = n ∧ Strs w x (ls[k]?.getD []) := by
  obtain ⟨b, off, e, hc⟩ := h (by intro e; subst e; simp at hk)
  obtain ⟨x, n, c, h1, h2, h3⟩ := hc k hk
  exact ⟨b, off, x, n, c, e, h1, h2, h3⟩
theorem Strss.kept {w w' : World} {a : Option Addr} {ls : List (List ByteArray)} (hb : Below w.heap.size w w') (h : Strss w a ls) : Strss w' a ls := by
  intro hne
  obtain ⟨b, off, e, hc⟩ := h hne
  refine ⟨b, off, e, fun k hk => ?_⟩
  obtain ⟨x, n, c, h1, h2, h3⟩ := hc k hk
  exact ⟨x, n, c, Go.Proofs.YtdkhajpkldjlmaaDoor.kept hb h1, h2, h3.kept hb⟩
theorem getD_some2 {l : List (List ByteArray)} {k : Nat} (h : k < l.length) : l[k]? = some (l[k]?.getD []) := by
  rw [List.getElem?_eq_getElem h]; rfl

set_option maxRecDepth 20000 in
set_option maxHeartbeats 4000000 in
theorem rSames_any (a b : Option Addr) (l m : List (List ByteArray)) (n c k d : Nat) (w : World) (hn : l.length = n) (hk : m.length = k) (hb : n ≤ 1000000) (hb2 : k ≤ 1000000) (hl : Strss w a l) (hm : Strss w b m)
    (hs : ∀ x ∈ l, x.length ≤ 1000000) (hs2 : ∀ x ∈ m, x.length ≤ 1000000) :
    Calls Tryd.prog 14 #[.slice a n c, .slice b k d] w (Drawn w (.bool (decide (l = m)))) := by
  have Hn := Lib.hid hn
  have Hk := Lib.hid hk
  have Hs := Lib.hid hs
  have Hs2 := Lib.hid hs2
  clear hn hk hs hs2
  by_cases hnk : n = k
  · have Hnk := Lib.hid hnk
    have e1 : ((n : Int) != (k : Int)) = false := by simp; omega
    have e0 : n ≤ k := by omega
    clear hnk
    go_enter Tryd.func14, Tryd.ntmps14
    go_wp2
    go_loopw [5] (fun i wr => ∃ j : Nat, j ≤ n ∧ i = .int .i64 j ∧ Hid (∃ q, wr = w.drewN q) ∧ Hid (l.take j = m.take j)) (fun i _ => n - (intOf i).toNat)
    case atStart => exact ⟨0, Nat.zero_le _, rfl, ⟨0, rfl⟩, rfl⟩
    case round =>
      obtain ⟨j, hj, rfl, Hq, Ht⟩ := hrel
      by_cases hlt : j < n
      · have hjl : j < l.length := by rw [Hn.out]; exact hlt
        have hjm : j < m.length := by rw [Hk.out]; omega
        have hl' : Strss wr a l := by obtain ⟨q, rfl⟩ := Hq.out; exact hl
        have hm' : Strss wr b m := by obtain ⟨q, rfl⟩ := Hq.out; exact hm
        obtain ⟨g, off, x, xn, xc, rfl, hc, hxn, hx⟩ := hl'.at_ (k := j) hjl
        obtain ⟨g2, off2, y, yn, yc, rfl, hc2, hyn, hy⟩ := hm'.at_ (k := j) hjm
        have G1 := Lib.hid (getD_some2 hjl)
        have G2 := Lib.hid (getD_some2 hjm)
        have b1 := Hs.out (l[j]?.getD []) (by rw [List.getElem?_eq_getElem hjl]; exact List.getElem_mem hjl)
        have b2 := Hs2.out (m[j]?.getD []) (by rw [List.getElem?_eq_getElem hjm]; exact List.getElem_mem hjm)
        obtain ⟨u, hu⟩ : ∃ u, l[j]?.getD [] = u := ⟨_, rfl⟩
        obtain ⟨v, hv⟩ : ∃ u, m[j]?.getD [] = u := ⟨_, rfl⟩
        rw [hu] at hx hxn G1 b1
        rw [hv] at hy hyn G2 b2
        have HS := Lib.hid (fun q => rSame_any x y u v xn xc yn yc (wr.drewN q) hxn hyn (by omega) (by omega) hx hy)
        have i0 : (0 : Int) ≤ (j : Int) := by omega
        have i1 : (j : Int) < (n : Int) := by omega
        have i2 : (j : Int) < (k : Int) := by omega
        have i3 : j < k := by omega
        clear hu hv hl' hm' hjl hjm hxn hyn hx hy
        by_cases huv : u = v
        · have E := Lib.hid (show l.take (j + 1) = m.take (j + 1) from take_same Ht.out (by rw [G1.out, G2.out, huv]))
          have HT := Lib.hid (show decide (u = v) = true from decide_eq_true huv)
          clear huv
          have HS' := Lib.hid (fun q => by have := HS.out q; rw [HT.out] at this; exact this)
          go_wp2_with fail
          go_quiet ((go_at_call 13; exact Calls.quiet_of (HS'.out _)))
          go_wp2
          go_roundw
          case rel => exact ⟨j + 1, by omega, by go_num, by obtain ⟨q, hq⟩ := Hq.out; exact ⟨_, by rw [hq, World.drewN_drewN]⟩, E⟩
          case measure => simp [intOf]; omega
        · have E := Lib.hid (show decide (l = m) = false from decide_eq_false (fun h => huv (by
            have h1 := G1.out
            rw [h, G2.out] at h1
            exact (Option.some.inj h1).symm)))
          have HT := Lib.hid (show decide (u = v) = false from decide_eq_false huv)
          clear huv
          have HS' := Lib.hid (fun q => by have := HS.out q; rw [HT.out] at this; exact this)
          go_wp2_with fail
          go_quiet ((go_at_call 13; exact Calls.quiet_of (HS'.out _)))
          go_wp2
          go_ret
          exact ⟨by rw [E.out]; rfl, by obtain ⟨q, hq⟩ := Hq.out; exact ⟨_, by rw [hq, World.drewN_drewN]⟩⟩
      · have E := Lib.hid (show decide (l = m) = true from decide_eq_true (by
          have h := Ht.out
          rwa [List.take_of_length_le (by rw [Hn.out]; omega), List.take_of_length_le (by rw [Hk.out, ← Hnk.out]; omega)] at h))
        go_wp2
        go_ret
        exact ⟨by rw [E.out]; rfl, Hq.out⟩
  · have E := Lib.hid (show decide (l = m) = false from decide_eq_false (fun h => hnk (by rw [← Hn.out, ← Hk.out, h])))
    have e1 : ((n : Int) != (k : Int)) = true := by simpa using (by omega : ¬ (n : Int) = (k : Int))
    have e2 : ((n : Int) == (k : Int)) = false := by simpa using (by omega : ¬ (n : Int) = (k : Int))
    clear hnk
    go_enter Tryd.func14, Tryd.ntmps14
    go_wp2
    go_ret
    exact ⟨by rw [E.out]; rfl, ⟨0, rfl⟩⟩
end Go.Proofs.YtdkhajpkldjlmaaDoor
