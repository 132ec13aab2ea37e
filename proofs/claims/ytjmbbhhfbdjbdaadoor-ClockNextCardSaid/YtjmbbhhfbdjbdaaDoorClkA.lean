/-
  Walks over the reference of package clock: Date, Weekday, Valid, Inside, Same.
-/
import Derived.Test.YtjmbbhhfbdjbdaaDoorMem
import Derived.Test.YtjmbbhhfbdjbdaaDoorClkPlain
namespace Go.Proofs.YtjmbbhhfbdjbdaaDoor
open Go.RowKit

/-- a moment -/
def mB (t : Int) : Bool := decide (0 ≤ t ∧ t ≤ 3155759999)
theorem mB_true {t : Int} : mB t = true ↔ (0 ≤ t ∧ t ≤ 3155759999) := by simp [mB]
theorem mB_false {t : Int} : mB t = false ↔ (t < 0 ∨ 3155759999 < t) := by simp [mB]; omega
/-- what Date returns -/
def dateS (t : Int) : Int × Int × Int := if mB t then (t / 86400, t % 86400, 0) else (0, 0, 1)
def weekS (d : Int) : Int × Int := if 0 ≤ d ∧ d ≤ 36524 then (d % 7, 0) else (0, 1)

set_option maxHeartbeats 1000000 in
theorem rDate_any (t : Int) (w : World) :
    Calls Tryd.prog 13 #[.int .i64 t] w fun e w' => e = .returned (.tuple #[.int .i64 (dateS t).1, .int .i64 (dateS t).2.1, .int .i64 (dateS t).2.2]) ∧ w = w' := by
  by_cases h1 : t < 0
  · have e : dateS t = (0, 0, 1) := by unfold dateS; rw [mB_false.2 (Or.inl h1)]; rfl
    rw [e]
    clear e
    go_enter Tryd.func13, Tryd.ntmps13
    go_wp2
    go_ret3
    exact ⟨rfl, rfl⟩
  · by_cases h2 : 3155759999 < t
    · have e : dateS t = (0, 0, 1) := by unfold dateS; rw [mB_false.2 (Or.inr h2)]; rfl
      rw [e]
      clear e
      have h1' : 0 ≤ t := by omega
      go_enter Tryd.func13, Tryd.ntmps13
      go_wp2
      go_ret3
      exact ⟨rfl, rfl⟩
    · have e : dateS t = (t / 86400, t % 86400, 0) := by unfold dateS; rw [mB_true.2 (by omega)]; rfl
      rw [e]
      clear e
      have h1' : 0 ≤ t := by omega
      have h2' : t ≤ 3155759999 := by omega
      have b1 : 0 ≤ t / 86400 ∧ t / 86400 ≤ 36524 := by omega
      have b2 : 0 ≤ t % 86400 ∧ t % 86400 < 86400 := by omega
      go_enter Tryd.func13, Tryd.ntmps13
      go_wp2
      go_ret3
      exact ⟨rfl, rfl⟩

set_option maxHeartbeats 1000000 in
theorem rWeekday_any (d : Int) (w : World) :
    Calls Tryd.prog 15 #[.int .i64 d] w fun e w' => e = .returned (.tuple #[.int .i64 (weekS d).1, .int .i64 (weekS d).2]) ∧ w = w' := by
  by_cases h1 : d < 0
  · have e : weekS d = (0, 1) := by unfold weekS; rw [if_neg (by omega)]
    rw [e]
    clear e
    go_enter Tryd.func15, Tryd.ntmps15
    go_wp2
    go_ret2
    exact ⟨rfl, rfl⟩
  · by_cases h2 : 36524 < d
    · have e : weekS d = (0, 1) := by unfold weekS; rw [if_neg (by omega)]
      rw [e]
      clear e
      have h1' : 0 ≤ d := by omega
      go_enter Tryd.func15, Tryd.ntmps15
      go_wp2
      go_ret2
      exact ⟨rfl, rfl⟩
    · have e : weekS d = (d % 7, 0) := by unfold weekS; rw [if_pos (by omega)]
      rw [e]
      clear e
      have h1' : 0 ≤ d := by omega
      have h2' : d ≤ 36524 := by omega
      have b2 : 0 ≤ d % 7 ∧ d % 7 < 7 := by omega
      go_enter Tryd.func15, Tryd.ntmps15
      go_wp2
      go_ret2
      exact ⟨rfl, rfl⟩

set_option maxHeartbeats 1000000 in
theorem rValidW_any (a b : Int) (w : World) :
    Calls Tryd.prog 42 #[.agg #[.int .i64 a, .int .i64 b]] w fun e w' => e = .returned (.bool (wB (a, b))) ∧ Below w.heap.size w w' := by
  by_cases h1 : 0 ≤ a
  · by_cases h : a ≤ b
    · by_cases h2 : b ≤ 3155760000
      · have H := Lib.hid (show wB (a, b) = true by simp [wB, *])
        go_enter Tryd.func42, Tryd.ntmps42
        go_wp2
        go_ret
        exact ⟨by rw [H.out]; rfl, by (repeat' first | exact Below.refl _ _ | with_reducible refine Below.drew ?_ | with_reducible refine Below.drewN ?_ _ | with_reducible refine Below.alloc' ?_ _ | with_reducible refine Below.setCell ?_ (by first | exact Nat.le_refl _ | (simp; done) | (simp; omega)) _ | with_reducible refine Below.after ?_ ‹_›)⟩
      · have H := Lib.hid (show wB (a, b) = false by simp [wB, *])
        go_enter Tryd.func42, Tryd.ntmps42
        go_wp2
        go_ret
        exact ⟨by rw [H.out]; rfl, by (repeat' first | exact Below.refl _ _ | with_reducible refine Below.drew ?_ | with_reducible refine Below.drewN ?_ _ | with_reducible refine Below.alloc' ?_ _ | with_reducible refine Below.setCell ?_ (by first | exact Nat.le_refl _ | (simp; done) | (simp; omega)) _ | with_reducible refine Below.after ?_ ‹_›)⟩
    · have H := Lib.hid (show wB (a, b) = false by simp [wB, *])
      go_enter Tryd.func42, Tryd.ntmps42
      go_wp2
      go_ret
      exact ⟨by rw [H.out]; rfl, by (repeat' first | exact Below.refl _ _ | with_reducible refine Below.drew ?_ | with_reducible refine Below.drewN ?_ _ | with_reducible refine Below.alloc' ?_ _ | with_reducible refine Below.setCell ?_ (by first | exact Nat.le_refl _ | (simp; done) | (simp; omega)) _ | with_reducible refine Below.after ?_ ‹_›)⟩
  · have H := Lib.hid (show wB (a, b) = false by simp [wB, *])
    go_enter Tryd.func42, Tryd.ntmps42
    go_wp2
    go_ret
    exact ⟨by rw [H.out]; rfl, by (repeat' first | exact Below.refl _ _ | with_reducible refine Below.drew ?_ | with_reducible refine Below.drewN ?_ _ | with_reducible refine Below.alloc' ?_ _ | with_reducible refine Below.setCell ?_ (by first | exact Nat.le_refl _ | (simp; done) | (simp; omega)) _ | with_reducible refine Below.after ?_ ‹_›)⟩
theorem rValidW_is {a b : Int} {r : Bool} (h : wB (a, b) = r) (w : World) :
    Calls Tryd.prog 42 #[.agg #[.int .i64 a, .int .i64 b]] w fun e w' => e = .returned (.bool r) ∧ Below w.heap.size w w' := by
  have := rValidW_any a b w
  rwa [h] at this

theorem ins_take_succ (l : List (Int × Int)) (t : Int) (k : Nat) (hk : k < l.length) :
    insB (l.take (k + 1)) t = (insB (l.take k) t || (decide ((l[k]?.getD (0, 0)).1 ≤ t) && decide (t < (l[k]?.getD (0, 0)).2))) := by
  rw [List.take_add_one, insB_append]
  simp [insB, List.getElem?_eq_getElem hk]
theorem ins_of (l : List (Int × Int)) (t : Int) (k : Nat) (hk : k < l.length) (h1 : (l[k]?.getD (0, 0)).1 ≤ t) (h2 : t < (l[k]?.getD (0, 0)).2) : insB l t = true :=
  insB_true.2 ⟨l[k], List.getElem_mem hk, by simpa [List.getElem?_eq_getElem hk] using h1, by simpa [List.getElem?_eq_getElem hk] using h2⟩

set_option maxHeartbeats 1000000 in
theorem rInside_any (a : Option Addr) (l : List (Int × Int)) (n cap : Nat) (t : Int) (w : World) (hn : l.length = n) (hb : n ≤ 1000000) (hl : Pairs w a l) :
    Calls Tryd.prog 25 #[.slice a n cap, .int .i64 t] w fun e w' => e = .returned (.bool (insB l t)) ∧ Below w.heap.size w w' := by
  have Hn := Lib.hid hn
  clear hn
  go_enter Tryd.func25, Tryd.ntmps25
  go_wp2
  go_loopw [6, 9] (fun _ i wr => ∃ k : Nat, k ≤ n ∧ i = .int .i64 k ∧ Hid (insB (l.take k) t = false) ∧ Below w.heap.size w wr) (fun _ i _ => n - (intOf i).toNat)
  case atStart => exact ⟨0, Nat.zero_le _, rfl, rfl, Below.refl _ _⟩
  case round =>
    obtain ⟨k, hk, rfl, Hall, hbr⟩ := hrel
    by_cases hlt : k < n
    · obtain ⟨b, off, rfl, hc⟩ := (hl.kept hbr).at_ (k := k) (by rw [Hn.out]; exact hlt)
      obtain ⟨hc0, hc1⟩ := hc
      have Hlt := Lib.hid (show k < l.length by rw [Hn.out]; exact hlt)
      have Hs := Lib.hid (ins_take_succ l t k Hlt.out)
      obtain ⟨⟨x, y⟩, hz⟩ : ∃ z, l[k]?.getD (0, 0) = z := ⟨_, rfl⟩
      rw [hz] at hc0 hc1 Hs
      simp only [] at hc0 hc1 Hs
      have Hz := Lib.hid hz
      clear hz
      by_cases c1 : x ≤ t
      · by_cases c2 : t < y
        · have E := Lib.hid (ins_of l t k Hlt.out (by rw [Hz.out]; exact c1) (by rw [Hz.out]; exact c2))
          go_wp2
          go_ret
          exact ⟨by rw [E.out]; rfl, by (repeat' first | with_reducible assumption | exact Below.refl _ _ | with_reducible refine Below.drew ?_ | with_reducible refine Below.drewN ?_ _ | with_reducible refine Below.alloc' ?_ _ | with_reducible refine Below.setCell ?_ (by first | exact Nat.le_refl _ | omega | (simp; done) | (simp; omega)) _ | with_reducible refine Below.after ?_ ‹_›)⟩
        · have c2' : decide (t < y) = false := by simp; omega
          have E := Lib.hid (show insB (l.take (k + 1)) t = false by rw [Hs.out, Hall.out]; simp; omega)
          clear c2
          go_wp2
          go_roundw
          case rel => exact ⟨k + 1, by omega, by go_num, E.out, by (repeat' first | with_reducible assumption | exact Below.refl _ _ | with_reducible refine Below.drew ?_ | with_reducible refine Below.drewN ?_ _ | with_reducible refine Below.alloc' ?_ _ | with_reducible refine Below.setCell ?_ (by first | exact Nat.le_refl _ | omega | (simp; done) | (simp; omega)) _ | with_reducible refine Below.after ?_ ‹_›)⟩
          case measure => simp [intOf]; omega
      · have c1' : decide (x ≤ t) = false := by simp; omega
        have E := Lib.hid (show insB (l.take (k + 1)) t = false by rw [Hs.out, Hall.out]; simp; omega)
        clear c1
        go_wp2
        go_roundw
        case rel => exact ⟨k + 1, by omega, by go_num, E.out, by (repeat' first | with_reducible assumption | exact Below.refl _ _ | with_reducible refine Below.drew ?_ | with_reducible refine Below.drewN ?_ _ | with_reducible refine Below.alloc' ?_ _ | with_reducible refine Below.setCell ?_ (by first | exact Nat.le_refl _ | omega | (simp; done) | (simp; omega)) _ | with_reducible refine Below.after ?_ ‹_›)⟩
        case measure => simp [intOf]; omega
    · go_wp2
      go_ret
      have h1 := Hall.out
      rw [show k = l.length by rw [Hn.out]; omega, List.take_length] at h1
      exact ⟨by rw [h1]; rfl, hbr⟩

/-- whether two lists are the same -/
def sameB (l m : List (Int × Int)) : Bool := decide (l = m)
theorem same_take {l m : List (Int × Int)} {k : Nat} (h : l.take k = m.take k) (hk : k < l.length) (hk' : k < m.length) (e : l[k]?.getD (0, 0) = m[k]?.getD (0, 0)) : l.take (k + 1) = m.take (k + 1) := by
  have e' : l[k] = m[k] := by simpa [List.getElem?_eq_getElem hk, List.getElem?_eq_getElem hk'] using e
  rw [List.take_add_one, List.take_add_one, h, List.getElem?_eq_getElem hk, List.getElem?_eq_getElem hk', e']
theorem same_not {l m : List (Int × Int)} {k : Nat} (e : l[k]?.getD (0, 0) ≠ m[k]?.getD (0, 0)) : sameB l m = false := by
  unfold sameB
  simp
  intro h
  subst h
  exact e rfl

set_option maxHeartbeats 2000000 in
theorem rSame_any (a b : Option Addr) (l m : List (Int × Int)) (n n' cap cap' : Nat) (w : World) (hn : l.length = n) (hn' : m.length = n') (hb : n ≤ 1000000) (hb' : n' ≤ 1000000) (hl : Pairs w a l) (hm : Pairs w b m) :
    Calls Tryd.prog 23 #[.slice a n cap, .slice b n' cap'] w fun e w' => e = .returned (.bool (sameB l m)) ∧ Below w.heap.size w w' := by
  by_cases hne : n = n'
  · subst hne
    have Hn := Lib.hid hn
    have Hn' := Lib.hid hn'
    clear hn hn'
    go_enter Tryd.func23, Tryd.ntmps23
    go_wp2
    go_loopw [5, 13] (fun _ i wr => ∃ (k d : Nat), k ≤ n ∧ i = .int .i64 k ∧ Hid (l.take k = m.take k) ∧ wr = w.drewN d) (fun _ i _ => n - (intOf i).toNat)
    case atStart => exact ⟨0, 0, Nat.zero_le _, rfl, rfl, rfl⟩
    case round =>
      obtain ⟨k, d, hk, rfl, Hall, rfl⟩ := hrel
      by_cases hlt : k < n
      · obtain ⟨ba, offa, rfl, hc⟩ := hl.at_ (k := k) (by rw [Hn.out]; exact hlt)
        obtain ⟨bb, offb, rfl, hd⟩ := hm.at_ (k := k) (by rw [Hn'.out]; exact hlt)
        obtain ⟨hc0, hc1⟩ := hc
        obtain ⟨hd0, hd1⟩ := hd
        have Hlt := Lib.hid (show k < l.length by rw [Hn.out]; exact hlt)
        have Hlt' := Lib.hid (show k < m.length by rw [Hn'.out]; exact hlt)
        obtain ⟨⟨x, y⟩, hz⟩ : ∃ z, l[k]?.getD (0, 0) = z := ⟨_, rfl⟩
        obtain ⟨⟨u, v⟩, hz'⟩ : ∃ z, m[k]?.getD (0, 0) = z := ⟨_, rfl⟩
        rw [hz] at hc0 hc1
        rw [hz'] at hd0 hd1
        simp only [] at hc0 hc1 hd0 hd1
        have Hz := Lib.hid hz
        have Hz' := Lib.hid hz'
        clear hz hz'
        have k0 : (0 : Int) ≤ (k : Int) := by omega
        have k1 : (k : Int) < (n : Int) := by omega
        by_cases cx : x = u
        · by_cases cy : y = v
          · subst cx
            subst cy
            have E := Lib.hid (same_take Hall.out Hlt.out Hlt'.out (by rw [Hz.out, Hz'.out]))
            go_wp2
            go_quiet (fail)
            go_wp2
            go_roundw
            case rel => exact ⟨k + 1, _, by omega, by go_num, E.out, rfl⟩
            case measure => simp [intOf]; omega
          · have E := Lib.hid (same_not (l := l) (m := m) (k := k) (by rw [Hz.out, Hz'.out]; intro h; exact cy (Prod.mk.inj h).2))
            have cy' : (y == v) = false := by simpa using cy
            have cx' : (x == u) = true := by simpa using cx
            clear cx cy
            go_wp2
            go_quiet (fail)
            go_wp2
            go_ret
            exact ⟨by rw [E.out]; rfl, by (repeat' first | with_reducible assumption | exact Below.refl _ _ | with_reducible refine Below.drew ?_ | with_reducible refine Below.drewN ?_ _ | with_reducible refine Below.alloc' ?_ _ | with_reducible refine Below.setCell ?_ (by first | exact Nat.le_refl _ | omega | (simp; done) | (simp; omega)) _ | with_reducible refine Below.after ?_ ‹_›)⟩
        · have E := Lib.hid (same_not (l := l) (m := m) (k := k) (by rw [Hz.out, Hz'.out]; intro h; exact cx (Prod.mk.inj h).1))
          have cx' : (x == u) = false := by simpa using cx
          clear cx
          go_wp2
          go_quiet (fail)
          go_wp2
          go_ret
          exact ⟨by rw [E.out]; rfl, by (repeat' first | with_reducible assumption | exact Below.refl _ _ | with_reducible refine Below.drew ?_ | with_reducible refine Below.drewN ?_ _ | with_reducible refine Below.alloc' ?_ _ | with_reducible refine Below.setCell ?_ (by first | exact Nat.le_refl _ | omega | (simp; done) | (simp; omega)) _ | with_reducible refine Below.after ?_ ‹_›)⟩
      · go_wp2
        go_ret
        have h1 := Hall.out
        rw [show k = l.length by rw [Hn.out]; omega, List.take_length, show l.length = m.length by rw [Hn.out, Hn'.out], List.take_length] at h1
        exact ⟨by unfold sameB; rw [h1]; simp, by (repeat' first | with_reducible assumption | exact Below.refl _ _ | with_reducible refine Below.drew ?_ | with_reducible refine Below.drewN ?_ _ | with_reducible refine Below.alloc' ?_ _ | with_reducible refine Below.setCell ?_ (by first | exact Nat.le_refl _ | omega | (simp; done) | (simp; omega)) _ | with_reducible refine Below.after ?_ ‹_›)⟩
  · have E : sameB l m = false := by
      unfold sameB
      simp
      intro h
      subst h
      omega
    rw [E]
    have hne' : ((n : Int) == (n' : Int)) = false := by simp; omega
    clear hne E
    go_enter Tryd.func23, Tryd.ntmps23
    go_wp2
    go_ret
    exact ⟨rfl, Below.refl _ _⟩
end Go.Proofs.YtjmbbhhfbdjbdaaDoor
