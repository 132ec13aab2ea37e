/-
  Walks over the reference of package ident: New.
-/
import Derived.Test.YteemacgknmidaaaIdC
namespace Go.Proofs.Yteemacgknmidaaa
set_option linter.unusedVariables false
set_option linter.unusedSimpArgs false
open Go.RowKit

/-- what New returns: the identifiers added one after another, or the first error -/
def newS : List ByteArray → List ByteArray → List ByteArray × Int
  | acc, [] => (acc, 0)
  | acc, s :: l => if (addS acc s).2.2 = 0 then newS (addS acc s).1 l else ([], (addS acc s).2.2)
theorem newS_end (acc l : List ByteArray) (k : Nat) (h : ¬ k < l.length) : newS acc (l.drop k) = (acc, 0) := by
  rw [List.drop_eq_nil_of_le (by omega)]; rfl
theorem newS_step (acc l : List ByteArray) (k : Nat) (h : k < l.length) : newS acc (l.drop k) = if (addS acc (l[k]?.getD ByteArray.empty)).2.2 = 0 then newS (addS acc (l[k]?.getD ByteArray.empty)).1 (l.drop (k + 1)) else ([], (addS acc (l[k]?.getD ByteArray.empty)).2.2) := by
  rw [List.drop_eq_getElem_cons h, List.getElem?_eq_getElem h]; rfl
theorem addS_len (l : List ByteArray) (s : ByteArray) : (addS l s).1.length ≤ l.length + 1 := by
  unfold addS
  split
  · split <;> simp
  · simp
theorem addS_err (l : List ByteArray) (s : ByteArray) : (addS l s).2.2 = 0 ∨ (addS l s).2.2 = 5 ∨ (addS l s).2.2 = 6 := by
  unfold addS
  split
  · split <;> simp
  · simp
theorem rAdd_is {l r : List ByteArray} {s : ByteArray} {i x : Int} {m : Nat} (h : addS l s = (r, i, x)) (hm : r.length = m) (a : Option Addr) (n cap : Nat) (w : World) (hs : s.size ≤ 9223372036854775807) (hn : l.length = n) (hb : n ≤ 900000) (hl : Strs w a l) :
    Calls Try.prog 18 #[.agg #[.slice a n cap], .string s] w fun e w' => ∃ b c, e = .returned (.tuple #[.agg #[.slice b m c], .int .i64 i, .int .i64 x]) ∧ Strs w' b r ∧ (∀ x, b = some x → a = some x ∨ (w.heap.size ≤ x.block ∧ x.block < w'.heap.size)) ∧ Below w.heap.size w w' := by
  refine (rAdd_any a l n cap s w hs hn hb hl).mono ?_
  rintro e w' ⟨b, c, he, h1, h2, h3⟩
  rw [h] at he h1
  subst hm
  exact ⟨b, c, he, h1, h2, h3⟩

/-- a call that gives back a state and an error -/
def GivesNew (w : World) (r : List ByteArray × Int) (e : Ending) (w' : World) : Prop :=
  ∃ b c, e = .returned (.tuple #[.agg #[.slice b r.1.length c], .int .i64 r.2]) ∧ Strs w' b r.1 ∧ (∀ x, b = some x → w.heap.size ≤ x.block ∧ x.block < w'.heap.size) ∧ Below w.heap.size w w'

theorem setCell_keep {w : World} {p q : Addr} {x v : Value} (h : p.block ≠ q.block) (hc : w.cell? q = some v) : (w.setCell p x).cell? q = some v := by
  rw [← hc]
  exact World.cell?_setCell_other _ _ _ _ (fun e => h (congrArg Addr.block e))
theorem keep_box {w w' : World} {p : Addr} {v : Value} {G : Prop} (hb : Below w.heap.size w w') (h1 : w.cell? p = some v) (h2 : w.frozen? p = false) (k : (w'.cell? p = some v ∧ w'.frozen? p = false) → G) : G :=
  k ⟨kept hb h1, keptF hb h1 h2⟩
theorem keep_three {w w' : World} {p q r : Addr} {v1 v2 v3 : Value} {G : Prop} (hb : Below w.heap.size w w') (h1 : w.cell? p = some v1) (h2 : w.cell? q = some v2) (h3 : w.frozen? p = false) (h4 : w.cell? r = some v3) (h5 : w.frozen? r = false)
    (k : (w'.cell? p = some v1 ∧ w'.cell? q = some v2 ∧ w'.frozen? p = false ∧ w'.cell? r = some v3 ∧ w'.frozen? r = false) → G) : G :=
  k ⟨kept hb h1, kept hb h2, keptF hb h1 h3, kept hb h4, keptF hb h4 h5⟩

set_option maxRecDepth 20000 in
set_option maxHeartbeats 8000000 in
theorem rNew_any (a : Option Addr) (l : List ByteArray) (n cap : Nat) (w : World) (hn : l.length = n) (hb : n ≤ 900000) (hl : Strs w a l) (hsz : ∀ s ∈ l, s.size ≤ 9223372036854775807) :
    Calls Try.prog 15 #[.slice a n cap] w (GivesNew w (newS [] l)) := by
  have Hn := Lib.hid hn
  have Hsz := Lib.hid hsz
  clear hn hsz
  go_enter Try.func15, Try.ntmps15
  go_wp2
  go_loopw [5, 6, 7, 8] (fun i _ _ _ wr => ∃ (k : Nat) (acc : List ByteArray) (b : Option Addr) (m c : Nat), k ≤ n ∧ i = .int .i64 k ∧ Hid (acc.length = m) ∧ m ≤ k ∧ Hid (newS acc (l.drop k) = newS [] l) ∧ Strs wr b acc ∧ (∀ x, b = some x → w.heap.size + 1 + 1 ≤ x.block ∧ x.block < wr.heap.size) ∧ Below w.heap.size w wr ∧ w.heap.size + 1 + 1 ≤ wr.heap.size ∧ wr.cell? ⟨w.heap.size + 1, 0, none⟩ = some (.slice b m c) ∧ wr.frozen? ⟨w.heap.size + 1, 0, none⟩ = false ∧ wr.cell? ⟨w.heap.size, 0, none⟩ = some (.slice none 0 0) ∧ wr.frozen? ⟨w.heap.size, 0, none⟩ = false) (fun i _ _ _ _ => n - (intOf i).toNat)
  case atStart => exact ⟨0, [], none, 0, 0, Nat.zero_le _, rfl, rfl, Nat.le_refl _, rfl, fun h => absurd rfl h, (fun x hx => by cases hx), by (repeat' first | with_reducible assumption | exact Below.refl _ _ | with_reducible refine Below.drew ?_ | with_reducible refine Below.drewN ?_ _ | with_reducible refine Below.alloc' ?_ _ | with_reducible refine Below.setCell ?_ (by first | exact Nat.le_refl _ | omega | (simp; done) | (simp; omega)) _ | with_reducible refine Below.after ?_ ‹_›), by simp, by simp [go_sem], by simp [go_sem], by simp [go_sem], by simp [go_sem]⟩
  case round =>
    obtain ⟨k, acc, b, m, c, hk, rfl, Hm, hm, Hnew, hacc, hfar, hbr, hszr, c1, f1, c0, f0⟩ := hrel
    by_cases hlt : k < n
    · obtain ⟨b', off, rfl, hc⟩ := (hl.kept hbr).at_ (k := k) (by rw [Hn.out]; exact hlt)
      have Hs := Lib.hid (newS_step acc l k (by rw [Hn.out]; exact hlt))
      have hu1 := Hsz.out (l[k]?.getD ByteArray.empty) (by
        have hk' : k < l.length := by rw [Hn.out]; exact hlt
        rw [List.getElem?_eq_getElem hk']
        exact List.getElem_mem hk')
      obtain ⟨u, hu⟩ : ∃ u, l[k]?.getD ByteArray.empty = u := ⟨_, rfl⟩
      rw [hu] at hc Hs hu1
      clear hu
      have hlen := addS_len acc u
      have herr := addS_err acc u
      obtain ⟨⟨r, i, x⟩, hadd⟩ : ∃ y, addS acc u = y := ⟨_, rfl⟩
      rw [hadd] at Hs hlen herr
      simp only [] at hlen herr
      obtain ⟨m', hm'⟩ : ∃ m', r.length = m' := ⟨_, rfl⟩
      have HA := Lib.hid hadd
      have HM := Lib.hid hm'
      have hml : m' ≤ m + 1 := by rw [← hm', ← Hm.out]; exact hlen
      clear hadd hm' hlen
      have hblt : b' < wr.heap.size := World.block_lt_of_cell? _ _ hc
      go_wp2
      go_region_held3 (fun W => W.cell? ⟨w.heap.size + 1, 0, none⟩ = some (.slice b m c) ∧ W.cell? ⟨b', off + k, none⟩ = some (.string u))
        (first | go_keep | (go_split_ands; refine ⟨?_, ?_⟩ <;> first | go_keep | (refine cellA ?_; assumption) | (refine kept ‹Below _ _ _› ?_; assumption) | (refine setCell_keep ?_ ?_; (· (dsimp only; omega)); assumption)) | (trace_state; fail))
        (first | (go_at_call 18; refine (rAdd_is HA.out HM.out _ _ _ _ hu1 Hm.out (by omega) (hacc.kept (by (repeat' first | with_reducible assumption | exact Below.refl _ _ | with_reducible refine Below.drew ?_ | with_reducible refine Below.drewN ?_ _ | with_reducible refine Below.alloc' ?_ _ | with_reducible refine Below.setCell ?_ (by first | exact Nat.le_refl _ | omega | (simp; done) | (simp; omega)) _ | with_reducible refine Below.after ?_ ‹_›)))).mono ?_; rintro e w1 ⟨b2, c2, rfl, hs2, hfar2, hb2⟩; have hz2 := hb2.size; simp at hz2; refine keep_three hb2 (p := ⟨w.heap.size + 1, 0, none⟩) (q := ⟨b', off + k, none⟩) (r := ⟨w.heap.size, 0, none⟩) (v1 := .slice b m c) (v2 := .string u) (v3 := .slice none 0 0) ?_ ?_ ?_ ?_ ?_ ?_; (· (first | exact c1 | exact cellA c1)); (· (first | exact hc | exact cellA hc)); (· (first | exact f1 | exact frozA c1 f1)); (· (first | exact c0 | exact cellA c0)); (· (first | exact f0 | exact frozA c0 f0)); rintro ⟨s1, s2, s3, s4, s5⟩; (try (refine keep_box hb2 (p := ⟨wr.heap.size, 0, none⟩) (v := .slice none 0 0) ?_ ?_ ?_; (· (simp [go_sem]; done)); (· (simp [go_sem]; done)); rintro ⟨t1, t2⟩))))
      · have y6 : (w1.alloc (Obj.cells #[Value.slice b2 m' c2] 31)).cell? ⟨w1.heap.size, 0, none⟩ = some (Value.slice b2 m' c2) := by simp [go_sem]
        have y1 := cellA (o := Obj.cells #[Value.slice b2 m' c2] 31) s1
        have y3 := frozA (o := Obj.cells #[Value.slice b2 m' c2] 31) s1 s3
        have y4 := cellA (o := Obj.cells #[Value.slice b2 m' c2] 31) s4
        have y5 := frozA (o := Obj.cells #[Value.slice b2 m' c2] 31) s4 s5
        have hst : Strs (w1.alloc (Obj.cells #[Value.slice b2 m' c2] 31)) b2 r := hs2.kept ((Below.refl _ _).alloc' _)
        have hX : Below w.heap.size w (w1.alloc (Obj.cells #[Value.slice b2 m' c2] 31)) := (hbr.trans (Below.mono (w := wr) (by (repeat' first | with_reducible assumption | exact Below.refl _ _ | with_reducible refine Below.drew ?_ | with_reducible refine Below.drewN ?_ _ | with_reducible refine Below.alloc' ?_ _ | with_reducible refine Below.setCell ?_ (by first | exact Nat.le_refl _ | omega | (simp; done) | (simp; omega)) _ | with_reducible refine Below.after ?_ ‹_›)) hbr.size)).alloc (by omega) _
        have hfar3 : ∀ y, b2 = some y → w.heap.size + 1 + 1 ≤ y.block ∧ y.block < w1.heap.size := fun y hy => by
          rcases hfar2 y hy with h | h
          · have := hfar y h; omega
          · have := h.1; simp at this; omega
        have hsX : w1.heap.size ≤ (w1.alloc (Obj.cells #[Value.slice b2 m' c2] 31)).heap.size := by simp
        obtain ⟨X, hXX⟩ : ∃ X, X = (w1.alloc (Obj.cells #[Value.slice b2 m' c2] 31)) := ⟨_, rfl⟩
        rw [← hXX] at y6 y1 y3 y4 y5 hst hX hsX ⊢
        clear hXX
        rcases herr with rfl | herr
        · have E := Lib.hid (show newS r (l.drop (k + 1)) = newS [] l by rw [← Hnew.out, Hs.out, if_pos rfl])
          go_wp2
          go_roundw
          case rel => exact ⟨k + 1, r, b2, m', c2, by omega, by go_num, HM, by omega, E.out, strs_setCell hst (fun y hy => by have := hfar3 y hy; omega), (fun y hy => by have := hfar3 y hy; simp; omega), hX.setCell (by dsimp only; omega) _, by simp; omega, by simp [go_sem, *], by simpa using y3, setCell_keep (by dsimp only; omega) y4, by simpa using y5⟩
          case measure => simp [intOf]; omega
        · have E := Lib.hid (show newS [] l = ([], x) by rw [← Hnew.out, Hs.out, if_neg (by omega)])
          have hx0 : (x != 0) = true := by simp; omega
          go_wp2
          ((try simp only [Exit.inBlock, Exit.then]); refine bodyPost_ret (by simp [results, Try.results15, go_sem, *]; try rfl) rfl ?_)
          exact ⟨none, 0, by rw [E.out]; rfl, fun h => absurd (by rw [E.out]) h, (fun y hy => by cases hy), hX.setCell (by dsimp only; omega) _⟩
      · have y6 : (w1.setCell ⟨wr.heap.size, 0, none⟩ (Value.slice b2 m' c2)).cell? ⟨wr.heap.size, 0, none⟩ = some (Value.slice b2 m' c2) := World.cell?_setCell_same _ _ _ t1
        have y1 := setCell_keep (p := ⟨wr.heap.size, 0, none⟩) (x := Value.slice b2 m' c2) (by dsimp only; omega) s1
        have y3 : (w1.setCell ⟨wr.heap.size, 0, none⟩ (Value.slice b2 m' c2)).frozen? ⟨w.heap.size + 1, 0, none⟩ = false := by simpa using s3
        have y4 := setCell_keep (p := ⟨wr.heap.size, 0, none⟩) (x := Value.slice b2 m' c2) (by dsimp only; omega) s4
        have y5 : (w1.setCell ⟨wr.heap.size, 0, none⟩ (Value.slice b2 m' c2)).frozen? ⟨w.heap.size, 0, none⟩ = false := by simpa using s5
        have hst : Strs (w1.setCell ⟨wr.heap.size, 0, none⟩ (Value.slice b2 m' c2)) b2 r := strs_setCell hs2 (fun y hy => by
          rcases hfar2 y hy with h | h
          · have := hfar y h; omega
          · have := h.1; simp at this; omega)
        have hX : Below w.heap.size w (w1.setCell ⟨wr.heap.size, 0, none⟩ (Value.slice b2 m' c2)) := (hbr.trans (Below.mono (w := wr) (by (repeat' first | with_reducible assumption | exact Below.refl _ _ | with_reducible refine Below.drew ?_ | with_reducible refine Below.drewN ?_ _ | with_reducible refine Below.alloc' ?_ _ | with_reducible refine Below.setCell ?_ (by first | exact Nat.le_refl _ | omega | (simp; done) | (simp; omega)) _ | with_reducible refine Below.after ?_ ‹_›)) hbr.size)).setCell (by dsimp only; omega) _
        have hfar3 : ∀ y, b2 = some y → w.heap.size + 1 + 1 ≤ y.block ∧ y.block < w1.heap.size := fun y hy => by
          rcases hfar2 y hy with h | h
          · have := hfar y h; omega
          · have := h.1; simp at this; omega
        have hsX : w1.heap.size ≤ (w1.setCell ⟨wr.heap.size, 0, none⟩ (Value.slice b2 m' c2)).heap.size := by simp
        obtain ⟨X, hXX⟩ : ∃ X, X = (w1.setCell ⟨wr.heap.size, 0, none⟩ (Value.slice b2 m' c2)) := ⟨_, rfl⟩
        rw [← hXX] at y6 y1 y3 y4 y5 hst hX hsX ⊢
        clear hXX
        rcases herr with rfl | herr
        · have E := Lib.hid (show newS r (l.drop (k + 1)) = newS [] l by rw [← Hnew.out, Hs.out, if_pos rfl])
          go_wp2
          go_roundw
          case rel => exact ⟨k + 1, r, b2, m', c2, by omega, by go_num, HM, by omega, E.out, strs_setCell hst (fun y hy => by have := hfar3 y hy; omega), (fun y hy => by have := hfar3 y hy; simp; omega), hX.setCell (by dsimp only; omega) _, by simp; omega, by simp [go_sem, *], by simpa using y3, setCell_keep (by dsimp only; omega) y4, by simpa using y5⟩
          case measure => simp [intOf]; omega
        · have E := Lib.hid (show newS [] l = ([], x) by rw [← Hnew.out, Hs.out, if_neg (by omega)])
          have hx0 : (x != 0) = true := by simp; omega
          go_wp2
          ((try simp only [Exit.inBlock, Exit.then]); refine bodyPost_ret (by simp [results, Try.results15, go_sem, *]; try rfl) rfl ?_)
          exact ⟨none, 0, by rw [E.out]; rfl, fun h => absurd (by rw [E.out]) h, (fun y hy => by cases hy), hX.setCell (by dsimp only; omega) _⟩
    · have E := Lib.hid (show newS [] l = (acc, 0) by rw [← Hnew.out, newS_end acc l k (by rw [Hn.out]; exact hlt)])
      go_wp2
      ((try simp only [Exit.inBlock, Exit.then]); refine bodyPost_ret (by simp [results, Try.results15, go_sem, *]; try rfl) rfl ?_)
      exact ⟨b, c, by rw [E.out, Hm.out], by rw [E.out]; exact strs_setCell hacc (fun y hy => by have := hfar y hy; omega), (fun y hy => by have := hfar y hy; simp; omega), hbr.setCell (by dsimp only; omega) _⟩
end Go.Proofs.Yteemacgknmidaaa
