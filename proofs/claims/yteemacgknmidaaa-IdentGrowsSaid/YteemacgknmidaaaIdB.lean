/-
  Walks over the reference of package ident: Find, Name; the law's short.
-/
import Derived.Test.YteemacgknmidaaaIdA
namespace Go.Proofs.Yteemacgknmidaaa
set_option linter.unusedVariables false
set_option linter.unusedSimpArgs false
open Go.RowKit

/-- what Find returns -/
def findS : List ByteArray → ByteArray → Int × Bool
  | [], _ => (0, false)
  | x :: l, s => if x = s then (0, true) else if (findS l s).2 then ((findS l s).1 + 1, true) else (0, false)
theorem findS_at : ∀ (l : List ByteArray) (s : ByteArray) (k : Nat) (_hk : k < l.length), (∀ j, j < k → l[j]?.getD ByteArray.empty ≠ s) → l[k]?.getD ByteArray.empty = s → findS l s = ((k : Int), true)
  | [], _, k, hk, _, _ => by simp at hk
  | x :: l, s, 0, _, _, h => by
    have : x = s := by simpa using h
    simp [findS, this]
  | x :: l, s, k + 1, hk, hn, h => by
    have hx : x ≠ s := by simpa using hn 0 (by omega)
    have ih := findS_at l s k (by simpa using hk) (fun j hj => by simpa using hn (j + 1) (by omega)) (by simpa using h)
    simp [findS, hx, ih]
theorem findS_none : ∀ (l : List ByteArray) (s : ByteArray), (∀ j, j < l.length → l[j]?.getD ByteArray.empty ≠ s) → findS l s = (0, false)
  | [], _, _ => rfl
  | x :: l, s, hn => by
    have hx : x ≠ s := by simpa using hn 0 (by simp)
    have ih := findS_none l s (fun j hj => by simpa using hn (j + 1) (by simpa using hj))
    simp [findS, hx, ih]
theorem findS_cases (l : List ByteArray) (s : ByteArray) : (∃ k, k < l.length ∧ (∀ j, j < k → l[j]?.getD ByteArray.empty ≠ s) ∧ l[k]?.getD ByteArray.empty = s ∧ findS l s = ((k : Int), true)) ∨
    ((∀ j, j < l.length → l[j]?.getD ByteArray.empty ≠ s) ∧ findS l s = (0, false)) := by
  induction l with
  | nil => exact Or.inr ⟨fun j hj => by simp at hj, rfl⟩
  | cons x l ih =>
    by_cases hx : x = s
    · exact Or.inl ⟨0, by simp, fun j hj => by omega, by simpa using hx, by simp [findS, hx]⟩
    · rcases ih with ⟨k, h1, h2, h3, h4⟩ | ⟨h1, h2⟩
      · refine Or.inl ⟨k + 1, by simpa using h1, fun j hj => ?_, by simpa using h3, by simp [findS, hx, h4]⟩
        cases j with
        | zero => simpa using hx
        | succ j => simpa using h2 j (by omega)
      · refine Or.inr ⟨fun j hj => ?_, by simp [findS, hx, h2]⟩
        cases j with
        | zero => simpa using hx
        | succ j => simpa using h1 j (by simpa using hj)
/-- what Name returns -/
def nameS (l : List ByteArray) (i : Int) : ByteArray × Bool := if 0 ≤ i ∧ i < l.length then (l[i.toNat]?.getD ByteArray.empty, true) else (⟨#[]⟩, false)
/-- few and short strings -/
def shortB (l : List ByteArray) (most : Int) : Bool := decide ((l.length : Int) ≤ most) && l.all fun s => decide (s.size ≤ 200)

set_option maxRecDepth 20000 in
set_option maxHeartbeats 2000000 in
theorem rFind_any (a : Option Addr) (l : List ByteArray) (n cap : Nat) (s : ByteArray) (w : World) (hn : l.length = n) (hb : n ≤ 1000000) (hl : Strs w a l) :
    Calls Try.prog 20 #[.agg #[.slice a n cap], .string s] w fun e w' => e = .returned (.tuple #[.int .i64 (findS l s).1, .bool (findS l s).2]) ∧ Below w.heap.size w w' := by
  have Hn := Lib.hid hn
  clear hn
  go_enter Try.func20, Try.ntmps20
  go_wp2
  go_loop [6] (fun i => ∃ k : Nat, k ≤ n ∧ i = .int .i64 k ∧ Hid (∀ j, j < k → l[j]?.getD ByteArray.empty ≠ s)) (fun i => n - (intOf i).toNat)
  case atStart => exact ⟨0, Nat.zero_le _, rfl, fun j hj => by omega⟩
  case round =>
    obtain ⟨k, hk, rfl, Hno⟩ := hrel
    by_cases hlt : k < n
    · obtain ⟨b, off, rfl, hc⟩ := hl.at_ (k := k) (by rw [Hn.out]; exact hlt)
      have hc' := fun o => cellA (o := o) hc
      have Hat := Lib.hid (findS_at l s k (by rw [Hn.out]; exact hlt) Hno.out)
      obtain ⟨u, hu⟩ : ∃ u, l[k]?.getD ByteArray.empty = u := ⟨_, rfl⟩
      have hstep : u ≠ s → ∀ j, j < k + 1 → l[j]?.getD ByteArray.empty ≠ s := fun h j hj => by
        by_cases e : j = k
        · subst e; rw [hu]; exact h
        · exact Hno.out j (by omega)
      have Hstep := Lib.hid hstep
      rw [hu] at hc hc' Hat
      clear hu hstep
      by_cases he : u = s
      · have E := Lib.hid (Hat.out he)
        have ht : (u.toList == s.toList) = true := by rw [str_eq]; simpa using he
        clear he
        go_wp2
        go_ret2
        exact ⟨by rw [E.out]; rfl, by (repeat' first | with_reducible assumption | exact Below.refl _ _ | with_reducible refine Below.drew ?_ | with_reducible refine Below.drewN ?_ _ | with_reducible refine Below.alloc' ?_ _ | with_reducible refine Below.setCell ?_ (by first | exact Nat.le_refl _ | omega | (simp; done) | (simp; omega)) _ | with_reducible refine Below.after ?_ ‹_›)⟩
      · have E := Lib.hid (Hstep.out he)
        have ht : (u.toList == s.toList) = false := by rw [str_eq]; simpa using he
        clear he
        go_wp2
        go_round
        case rel => exact ⟨k + 1, by omega, by go_num, E.out⟩
        case measure => simp [intOf]; omega
    · have E := Lib.hid (findS_none l s (fun j hj => Hno.out j (by have := Hn.out; omega)))
      go_wp2
      go_ret2
      exact ⟨by rw [E.out]; rfl, by (repeat' first | with_reducible assumption | exact Below.refl _ _ | with_reducible refine Below.drew ?_ | with_reducible refine Below.drewN ?_ _ | with_reducible refine Below.alloc' ?_ _ | with_reducible refine Below.setCell ?_ (by first | exact Nat.le_refl _ | omega | (simp; done) | (simp; omega)) _ | with_reducible refine Below.after ?_ ‹_›)⟩

set_option maxRecDepth 20000 in
set_option maxHeartbeats 2000000 in
theorem rName_any (a : Option Addr) (l : List ByteArray) (n cap : Nat) (i : Int) (w : World) (hn : l.length = n) (hb : n ≤ 1000000) (hl : Strs w a l) :
    Calls Try.prog 22 #[.agg #[.slice a n cap], .int .i64 i] w fun e w' => e = .returned (.tuple #[.string (nameS l i).1, .bool (nameS l i).2]) ∧ Below w.heap.size w w' := by
  have Hn := Lib.hid hn
  clear hn
  by_cases h0 : i < 0
  · have E := Lib.hid (show nameS l i = (⟨#[]⟩, false) by unfold nameS; rw [if_neg (by omega)])
    go_enter Try.func22, Try.ntmps22
    go_wp2
    go_ret2
    exact ⟨by rw [E.out]; rfl, by (repeat' first | with_reducible assumption | exact Below.refl _ _ | with_reducible refine Below.drew ?_ | with_reducible refine Below.drewN ?_ _ | with_reducible refine Below.alloc' ?_ _ | with_reducible refine Below.setCell ?_ (by first | exact Nat.le_refl _ | omega | (simp; done) | (simp; omega)) _ | with_reducible refine Below.after ?_ ‹_›)⟩
  · by_cases h1 : i < n
    · obtain ⟨k, rfl⟩ := Int.eq_ofNat_of_zero_le (show 0 ≤ i by omega)
      have hk : k < n := by omega
      have E := Lib.hid (show nameS l (k : Int) = (l[k]?.getD ByteArray.empty, true) by unfold nameS; rw [if_pos (by have := Hn.out; omega)]; rfl)
      obtain ⟨b, off, rfl, hc⟩ := hl.at_ (k := k) (by rw [Hn.out]; exact hk)
      have hc' := fun o => cellA (o := o) hc
      obtain ⟨u, hu⟩ : ∃ u, l[k]?.getD ByteArray.empty = u := ⟨_, rfl⟩
      rw [hu] at hc hc' E
      clear hu h0 h1
      go_enter Try.func22, Try.ntmps22
      go_wp2
      go_ret2
      exact ⟨by rw [E.out]; rfl, by (repeat' first | with_reducible assumption | exact Below.refl _ _ | with_reducible refine Below.drew ?_ | with_reducible refine Below.drewN ?_ _ | with_reducible refine Below.alloc' ?_ _ | with_reducible refine Below.setCell ?_ (by first | exact Nat.le_refl _ | omega | (simp; done) | (simp; omega)) _ | with_reducible refine Below.after ?_ ‹_›)⟩
    · have E := Lib.hid (show nameS l i = (⟨#[]⟩, false) by unfold nameS; rw [if_neg (by have := Hn.out; omega)])
      have h1' : (n : Int) ≤ i := by omega
      have h0' : 0 ≤ i := by omega
      clear h0 h1
      go_enter Try.func22, Try.ntmps22
      go_wp2
      go_ret2
      exact ⟨by rw [E.out]; rfl, by (repeat' first | with_reducible assumption | exact Below.refl _ _ | with_reducible refine Below.drew ?_ | with_reducible refine Below.drewN ?_ _ | with_reducible refine Below.alloc' ?_ _ | with_reducible refine Below.setCell ?_ (by first | exact Nat.le_refl _ | omega | (simp; done) | (simp; omega)) _ | with_reducible refine Below.after ?_ ‹_›)⟩

theorem all_short_succ (l : List ByteArray) (k : Nat) (hk : k < l.length) : ((l.take (k + 1)).all fun s => decide (s.size ≤ 200)) = (((l.take k).all fun s => decide (s.size ≤ 200)) && decide ((l[k]?.getD ByteArray.empty).size ≤ 200)) := by
  rw [List.take_add_one, List.all_append, List.getElem?_eq_getElem hk]
  simp
theorem all_short_not (l : List ByteArray) (k : Nat) (hk : k < l.length) (h : 200 < (l[k]?.getD ByteArray.empty).size) : (l.all fun s => decide (s.size ≤ 200)) = false := by
  rw [List.all_eq_false]
  refine ⟨l[k], List.getElem_mem hk, ?_⟩
  rw [List.getElem?_eq_getElem hk] at h
  simpa using h

set_option maxRecDepth 20000 in
set_option maxHeartbeats 2000000 in
theorem short_any (a : Option Addr) (l : List ByteArray) (n cap : Nat) (most : Int) (w : World) (hn : l.length = n) (hm : most ≤ 1000000) (hsz : ∀ s ∈ l, s.size ≤ maxLen) (hl : Strs w a l) (hnm : n ≤ maxLen) :
    Calls Try.prog 13 #[.slice a n cap, .int .i64 most] w fun e w' => e = .returned (.bool (shortB l most)) ∧ w = w' := by
  have Hn := Lib.hid hn
  have Hsz := Lib.hid hsz
  clear hn hsz
  unfold maxLen at hnm
  by_cases h1 : most < n
  · have E := Lib.hid (show shortB l most = false by unfold shortB; rw [show decide ((l.length : Int) ≤ most) = false from decide_eq_false (by rw [Hn.out]; omega)]; rfl)
    go_enter Try.func13, Try.ntmps13
    go_wp2
    go_ret
    exact ⟨by rw [E.out]; rfl, rfl⟩
  · have h1' : (n : Int) ≤ most := by omega
    have h2 : n ≤ 1000000 := by omega
    have Hd := Lib.hid (show decide ((l.length : Int) ≤ most) = true from decide_eq_true (by rw [Hn.out]; omega))
    clear h1
    go_enter Try.func13, Try.ntmps13
    go_wp2
    go_loop [5] (fun i => ∃ k : Nat, k ≤ n ∧ i = .int .i64 k ∧ Hid (((l.take k).all fun s => decide (s.size ≤ 200)) = true)) (fun i => n - (intOf i).toNat)
    case atStart => exact ⟨0, Nat.zero_le _, rfl, rfl⟩
    case round =>
      obtain ⟨k, hk, rfl, Hall⟩ := hrel
      by_cases hlt : k < n
      · obtain ⟨b, off, rfl, hc⟩ := hl.at_ (k := k) (by rw [Hn.out]; exact hlt)
        have Hs := Lib.hid (all_short_succ l k (by rw [Hn.out]; exact hlt))
        have Hno := Lib.hid (all_short_not l k (by rw [Hn.out]; exact hlt))
        have hu1 := Hsz.out (l[k]?.getD ByteArray.empty) (by
          have hk' : k < l.length := by rw [Hn.out]; exact hlt
          rw [List.getElem?_eq_getElem hk']
          exact List.getElem_mem hk')
        obtain ⟨u, hu⟩ : ∃ u, l[k]?.getD ByteArray.empty = u := ⟨_, rfl⟩
        rw [hu] at hc Hs Hno hu1
        unfold maxLen at hu1
        clear hu
        by_cases he : u.size ≤ 200
        · have E := Lib.hid (show ((l.take (k + 1)).all fun s => decide (s.size ≤ 200)) = true by rw [Hs.out, Hall.out]; simpa using he)
          go_wp2
          go_round
          case rel => exact ⟨k + 1, by omega, by go_num, E.out⟩
          case measure => simp [intOf]; omega
        · have E := Lib.hid (show shortB l most = false by unfold shortB; rw [Hno.out (by omega), Bool.and_false])
          have he' : 200 < u.size := by omega
          clear he
          go_wp2
          go_ret
          exact ⟨by rw [E.out]; rfl, rfl⟩
      · have h := Hall.out
        rw [show k = l.length by rw [Hn.out]; omega, List.take_length] at h
        have E := Lib.hid (show shortB l most = true by unfold shortB; rw [h, Hd.out]; rfl)
        clear h
        go_wp2
        go_ret
        exact ⟨by rw [E.out]; rfl, rfl⟩
end Go.Proofs.Yteemacgknmidaaa
