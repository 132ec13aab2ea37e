/-
  Walks over the laws of package ident: Plays.
-/
import Derived.Test.YteemacgknmidaaaIdOps
namespace Go.Proofs.Yteemacgknmidaaa
set_option linter.unusedVariables false
set_option linter.unusedSimpArgs false
open Go.RowKit

theorem rFind_is {l : List ByteArray} {s : ByteArray} {i : Int} {r : Bool} (h : findS l s = (i, r)) (a : Option Addr) (n cap : Nat) (w : World) (hn : l.length = n) (hb : n ≤ 1000000) (hl : Strs w a l) :
    Calls Try.prog 20 #[.agg #[.slice a n cap], .string s] w fun e w' => e = .returned (.tuple #[.int .i64 i, .bool r]) ∧ Below w.heap.size w w' := by
  have := rFind_any a l n cap s w hn hb hl
  rwa [h] at this
theorem rName_is {l : List ByteArray} {s : ByteArray} {i : Int} {r : Bool} (h : nameS l i = (s, r)) (a : Option Addr) (n cap : Nat) (w : World) (hn : l.length = n) (hb : n ≤ 1000000) (hl : Strs w a l) :
    Calls Try.prog 22 #[.agg #[.slice a n cap], .int .i64 i] w fun e w' => e = .returned (.tuple #[.string s, .bool r]) ∧ Below w.heap.size w w' := by
  have := rName_any a l n cap i w hn hb hl
  rwa [h] at this
theorem keep_pair {w w' : World} {p q : Addr} {v1 v2 : Value} {G : Prop} (hb : Below w.heap.size w w') (h1 : w.cell? p = some v1) (h2 : w.cell? q = some v2) (k : (w'.cell? p = some v1 ∧ w'.cell? q = some v2) → G) : G :=
  k ⟨kept hb h1, kept hb h2⟩
theorem Strs.set {w : World} {b : Option Addr} {l : List ByteArray} {p : Addr} {v : Value} (h : Strs w b l) (hp : ∀ x, b = some x → x.block ≠ p.block) : Strs (w.setCell p v) b l := by
  intro hne
  obtain ⟨g, off, rfl, hc⟩ := h hne
  exact ⟨g, off, rfl, fun k hk => setCell_keep (fun e => hp _ rfl e.symm) (hc k hk)⟩

/-- what the table, the state and its box hold: the table reads as tl, the state as r -/
structure PlayIn (Tab : TabP) (w0 wr : World) (p : Addr) (B : Nat) (b : Option Addr) (tl r : List ByteArray) (m c : Nat) (F : Nat → Prop) : Prop where
  len : r.length = m
  dis : distinct tl
  sz : ∀ s ∈ tl, s.size ≤ 9223372036854775807
  tab : Tab wr p tl F
  far : ∀ k, F k → w0.heap.size ≤ k
  nb : ¬ F B
  lb : w0.heap.size ≤ B
  ub : B < wr.heap.size
  box : wr.cell? ⟨B, 0, none⟩ = some (.slice b m c)
  fr : wr.frozen? ⟨B, 0, none⟩ = false
  strs : Strs wr b r
  off : ∀ x, b = some x → ¬ F x.block ∧ x.block ≠ B ∧ x.block < wr.heap.size
  below : Below w0.heap.size w0 wr

section
variable {Tab : TabP} (K : IdCon Tab)
include K
theorem PlayIn.on {w0 wr w' : World} {p : Addr} {B : Nat} {b : Option Addr} {tl r : List ByteArray} {m c : Nat} {F : Nat → Prop} (h : PlayIn Tab w0 wr p B b tl r m c F) (hb : Below wr.heap.size wr w') : PlayIn Tab w0 w' p B b tl r m c F :=
  ⟨h.len, h.dis, h.sz, K.on h.tab hb, h.far, h.nb, h.lb, by have := h.ub; have := hb.size; omega, kept hb h.box, keptF hb h.box h.fr, h.strs.kept hb, fun x hx => ⟨(h.off x hx).1, (h.off x hx).2.1, by have := (h.off x hx).2.2; have := hb.size; omega⟩, h.below.trans (hb.mono h.below.size)⟩
/-- behind an addition to the table -/
theorem PlayIn.added {w0 wr w4 : World} {p : Addr} {B : Nat} {b : Option Addr} {r r' : List ByteArray} {u : ByteArray} {i x : Int} {m c : Nat} {F F' : Nat → Prop} (h : PlayIn Tab w0 wr p B b r r m c F) (hT : Tab w4 p r' F') (hF : ∀ k, F' k → F k ∨ wr.heap.size ≤ k) (ho : Only F wr w4) (e : addS r u = (r', i, x)) (hu : u.size ≤ 9223372036854775807) : PlayIn Tab w0 w4 p B b r' r m c F' := by
  have _ := K
  have hd := addS_distinct h.dis u
  rw [e] at hd
  refine ⟨h.len, hd, ?_, hT, ?_, ?_, h.lb, ?_, ho.cell h.nb h.box, ho.frozen h.nb h.box h.fr, ho.strs (fun x hx => (h.off x hx).1) h.strs, ?_, h.below.trans (ho.below h.below.size h.far)⟩
  · intro s hs
    have := addS_mem (l := r) (s := u) (x := s) (by rw [e]; exact hs)
    rcases this with h1 | rfl
    · exact h.sz s h1
    · exact hu
  · intro k hk
    rcases hF k hk with h1 | h1
    · exact h.far k h1
    · have := h.below.size; omega
  · intro hk
    rcases hF B hk with h1 | h1
    · exact h.nb h1
    · have := h.ub; omega
  · have := h.ub; have := ho.size; omega
  · intro x hx
    obtain ⟨h1, h2, h3⟩ := h.off x hx
    refine ⟨fun hk => ?_, h2, by have := ho.size; omega⟩
    rcases hF _ hk with h4 | h4
    · exact h1 h4
    · omega
/-- the state's box takes the next state -/
theorem PlayIn.store {w0 wr : World} {p : Addr} {B : Nat} {b b2 : Option Addr} {tl r : List ByteArray} {m c m2 c2 : Nat} {F : Nat → Prop} (h : PlayIn Tab w0 wr p B b tl r m c F) (hl : tl.length = m2) (hs : Strs wr b2 tl) (hf : ∀ x, b2 = some x → ¬ F x.block ∧ x.block ≠ B ∧ x.block < wr.heap.size) : PlayIn Tab w0 (wr.setCell ⟨B, 0, none⟩ (.slice b2 m2 c2)) p B b2 tl tl m2 c2 F := by
  refine ⟨hl, h.dis, h.sz, K.keep h.tab (by simp) ?_, h.far, h.nb, h.lb, by simpa using h.ub, World.cell?_setCell_same _ _ _ h.box, by simpa using h.fr, hs.set (fun x hx => (hf x hx).2.1), fun x hx => by have := hf x hx; simpa using this, h.below.setCell h.lb _⟩
  intro k hk
  have hkB : k ≠ B := fun e => h.nb (e ▸ hk)
  exact Below.heap_setCell _ _ _ _ hkB

set_option maxRecDepth 100000 in
set_option maxHeartbeats 16000000 in
theorem identPlays_of (a : Option Addr) (l : List ByteArray) (n cap : Nat) (a1 : Option Addr) (ops : List OpT) (no cap1 : Nat) (w : World) (hn : l.length = n) (hl : Strs w a l) (hsz : ∀ s ∈ l, s.size ≤ maxLen) (hnm : n ≤ maxLen) (hno : ops.length = no) (hol : Ops w a1 ops) (hos : ∀ z ∈ ops, z.2.2.size ≤ maxLen) (hnom : no ≤ maxLen) :
    Calls Try.prog 5 #[.slice a n cap, .slice a1 no cap1] w fun e w' => e = .returned (.bool true) ∧ Below w.heap.size w w' := by
  have Hn := Lib.hid hn
  have Hno := Lib.hid hno
  have Hsz := Lib.hid hsz
  have Hos := Lib.hid (show ∀ z ∈ ops, z.2.2.size ≤ 9223372036854775807 from fun z hz => by have := hos z hz; unfold maxLen at this; omega)
  have Hsz2 := Lib.hid (show ∀ s ∈ l, s.size ≤ 9223372036854775807 from fun s hs => by have := hsz s hs; unfold maxLen at this; omega)
  clear hn hsz hno hos
  have hsh := short_any a l n cap 60 w Hn.out (by omega) Hsz.out hl hnm
  unfold maxLen at hnom
  cases hq : shortB l 60
  · rw [hq] at hsh
    have HS := Lib.hid hsh
    clear hsh hq
    go_enter Try.func5, Try.ntmps5
    go_wp2_with fail
    refine HS.out.mono ?_
    rintro e w1 ⟨rfl, rfl⟩
    go_wp2_with fail
    refine (idAwake_any K _).mono ?_
    rintro e w3 ⟨rfl, hb3⟩
    go_wp2
    go_ret
    exact ⟨rfl, by (repeat' first | with_reducible assumption | exact Below.refl _ _ | with_reducible refine Below.drew ?_ | with_reducible refine Below.drewN ?_ _ | with_reducible refine Below.alloc' ?_ _ | with_reducible refine Below.setCell ?_ (by first | exact Nat.le_refl _ | omega | (simp; done) | (simp; omega)) _ | with_reducible refine Below.after ?_ ‹_›)⟩
  · rw [hq] at hsh
    have HS := Lib.hid hsh
    have hn60 : n ≤ 60 := by
      unfold shortB at hq
      simp at hq
      have := hq.1
      rw [Hn.out] at this
      omega
    by_cases hno60 : 60 < no
    · clear hsh hq
      go_enter Try.func5, Try.ntmps5
      go_wp2_with fail
      refine HS.out.mono ?_
      rintro e w1 ⟨rfl, rfl⟩
      go_wp2_with fail
      refine (idAwake_any K _).mono ?_
      rintro e w3 ⟨rfl, hb3⟩
      go_wp2
      go_ret
      exact ⟨rfl, by (repeat' first | with_reducible assumption | exact Below.refl _ _ | with_reducible refine Below.drew ?_ | with_reducible refine Below.drewN ?_ _ | with_reducible refine Below.alloc' ?_ _ | with_reducible refine Below.setCell ?_ (by first | exact Nat.le_refl _ | omega | (simp; done) | (simp; omega)) _ | with_reducible refine Below.after ?_ ‹_›)⟩
    · have hno60' : no ≤ 60 := by omega
      clear hno60
      have herr := newS_err l []
      have hlen := newS_len l []
      have hdis := newS_distinct l [] (fun i j _ hj => by simp at hj)
      have hmem := newS_mem l []
      have hnew := rNew_any a l n cap
      obtain ⟨⟨r, x⟩, hr⟩ : ∃ y, newS [] l = y := ⟨_, rfl⟩
      rw [hr] at herr hlen hdis hmem hnew
      simp only [List.length_nil, Nat.zero_add] at herr hlen hdis hmem
      rw [Hn.out] at hlen
      have HR := Lib.hid hr
      have Hdis := Lib.hid hdis
      have Hmem := Lib.hid (show ∀ s ∈ r, s.size ≤ 9223372036854775807 from fun s hs => by
        rcases hmem s hs with h | h
        · simp at h
        · exact Hsz2.out s h)
      have Hnew := Lib.hid hnew
      obtain ⟨m, hm⟩ : ∃ m, r.length = m := ⟨_, rfl⟩
      have HM := Lib.hid hm
      have hm60 : m ≤ 60 := by omega
      clear hsh hq hr hdis hmem hnew hm hlen
      rcases herr with rfl | herr
      · go_enter Try.func5, Try.ntmps5
        go_wp2_with fail
        refine HS.out.mono ?_
        rintro e w1 ⟨rfl, rfl⟩
        go_wp2_with fail
        refine (K.new_yes HR.out a n cap _ Hn.out (by omega) hl Hsz2.out).mono ?_
        rintro e w2 ⟨p, F0, rfl, hT0, hF0, hb2⟩
        have hlt0 := K.lt hT0
        go_wp2_with fail
        refine (Hnew.out _ Hn.out (by omega) (hl.kept (by (repeat' first | with_reducible assumption | exact Below.refl _ _ | with_reducible refine Below.drew ?_ | with_reducible refine Below.drewN ?_ _ | with_reducible refine Below.alloc' ?_ _ | with_reducible refine Below.setCell ?_ (by first | exact Nat.le_refl _ | omega | (simp; done) | (simp; omega)) _ | with_reducible refine Below.after ?_ ‹_›))) Hsz2.out).mono ?_
        rintro e w3 ⟨b0, c0, rfl, hst, hfar, hb3⟩
        rw [HM.out]
        have hz2 := hb2.size
        have hz3 := hb3.size
        have hT3 := K.on hT0 hb3
        have hP : PlayIn Tab w (w3.alloc (.cells #[.slice b0 m c0] 31)) p w3.heap.size b0 r r m c0 F0 := by
          refine ⟨HM.out, Hdis.out, Hmem.out, K.on hT3 (by (repeat' first | with_reducible assumption | exact Below.refl _ _ | with_reducible refine Below.drew ?_ | with_reducible refine Below.drewN ?_ _ | with_reducible refine Below.alloc' ?_ _ | with_reducible refine Below.setCell ?_ (by first | exact Nat.le_refl _ | omega | (simp; done) | (simp; omega)) _ | with_reducible refine Below.after ?_ ‹_›)), hF0, fun h => by have := hlt0 _ h; omega, by omega, by simp, by simp [go_sem], by simp [go_sem], hst.kept (by (repeat' first | with_reducible assumption | exact Below.refl _ _ | with_reducible refine Below.drew ?_ | with_reducible refine Below.drewN ?_ _ | with_reducible refine Below.alloc' ?_ _ | with_reducible refine Below.setCell ?_ (by first | exact Nat.le_refl _ | omega | (simp; done) | (simp; omega)) _ | with_reducible refine Below.after ?_ ‹_›)), fun x hx => ?_, by (repeat' first | with_reducible assumption | exact Below.refl _ _ | with_reducible refine Below.drew ?_ | with_reducible refine Below.drewN ?_ _ | with_reducible refine Below.alloc' ?_ _ | with_reducible refine Below.setCell ?_ (by first | exact Nat.le_refl _ | omega | (simp; done) | (simp; omega)) _ | with_reducible refine Below.after ?_ ‹_›)⟩
          have h1 := hfar x hx
          exact ⟨fun h => by have := hlt0 _ h; omega, by omega, by simp; omega⟩
        obtain ⟨B, hB⟩ : ∃ B, w3.heap.size = B := ⟨_, rfl⟩
        have HP := Lib.hid hP
        clear hP hst hfar hT0 hT3 hlt0 hF0
        go_wp2
        rw [hB] at HP
        clear hB
        go_loopw [9, 10, 11, 12, 13, 14, 15, 16, 17, 18, 19, 20, 21, 22] (fun i _ _ _ _ _ _ _ _ _ _ _ _ _ wr => ∃ (k : Nat) (r : List ByteArray) (m : Nat) (F : Nat → Prop) (b : Option Addr) (c : Nat), k ≤ no ∧ i = .int .i64 k ∧ m ≤ 60 + k ∧ PlayIn Tab w wr p B b r r m c F) (fun i _ _ _ _ _ _ _ _ _ _ _ _ _ _ => no - (intOf i).toNat)
        case atStart => exact ⟨0, r, m, F0, b0, c0, Nat.zero_le _, rfl, by omega, HP.out⟩
        case round =>
          obtain ⟨k, r, m, F, b, c, hk, rfl, hm, hP⟩ := hrel
          have hbr := hP.below
          by_cases hlt : k < no
          · have hkl : k < ops.length := by rw [Hno.out]; exact hlt
            obtain ⟨b', off, rfl, hcw0, hcw1, hcw2⟩ := hol.at_ (k := k) hkl
            have hu := Hos.out (ops[k]?.getD op0) (by rw [List.getElem?_eq_getElem hkl]; exact List.getElem_mem hkl)
            obtain ⟨⟨kd, q, u⟩, hz⟩ : ∃ z, ops[k]?.getD op0 = z := ⟨_, rfl⟩
            rw [hz] at hcw0 hcw1 hcw2 hu
            simp only [] at hcw0 hcw1 hcw2 hu
            clear hz
            have hc0 := kept hbr hcw0
            have hc1 := kept hbr hcw1
            have hc2 := kept hbr hcw2
            have hBne : b' ≠ B := by
              have := World.block_lt_of_cell? _ _ hcw0
              have := hP.lb
              simp only [] at *
              omega
            have cB := hP.box
            have fB := hP.fr
            have Hbl := Lib.hid (show r.length ≤ 1000 by rw [hP.len]; omega)
            by_cases hu2 : 200 < u.size
            · go_wp2_with fail
              refine (idAwake_any K _).mono ?_
              rintro e w5 ⟨rfl, hb5⟩
              go_wp2
              go_ret
              exact ⟨rfl, hbr.trans (hb5.mono hbr.size)⟩
            · have hu200 : u.size ≤ 200 := by omega
              clear hu2
              by_cases hk0 : kd = 0
              · subst hk0
                obtain ⟨⟨r', i, x⟩, hy⟩ : ∃ y, addS r u = y := ⟨_, rfl⟩
                have hl' := addS_len r u
                rw [hy] at hl'
                simp only [] at hl'
                rw [hP.len] at hl'
                obtain ⟨m', hm'⟩ : ∃ m', r'.length = m' := ⟨_, rfl⟩
                rw [hm'] at hl'
                have HY := Lib.hid hy
                have HM' := Lib.hid hm'
                clear hy hm'
                go_wp2_with fail
                refine (K.add_is HY.out _ hP.tab Hbl.out hu).mono ?_
                rintro e w4 ⟨rfl, F', hT', hF', ho⟩
                have hQ := hP.added K hT' hF' ho HY.out hu
                have d2 := kept hQ.below hcw2
                have dB := hQ.box
                have eB := hQ.fr
                have nB4 : w4.heap.size ≠ B := by have := hQ.ub; omega
                have nb4 : w4.heap.size ≠ b' := by have := World.block_lt_of_cell? _ _ d2; simp only [] at this; omega
                go_wp2
                go_region_held3 (fun W => W.cell? ⟨B, 0, none⟩ = some (.slice b m c) ∧ W.cell? ⟨b', off + k * 3 + 2, none⟩ = some (.string u))
                  (first | go_keep | (go_split_ands; refine ⟨?_, ?_⟩ <;> first | go_keep | (refine cellA ?_; assumption) | (refine kept ‹Below _ _ _› ?_; assumption) | (refine setCell_keep ?_ ?_; (· (dsimp only; omega)); assumption)))
                  (first | (go_at_call 18; refine (rAdd_is HY.out HM'.out _ _ _ _ hu hQ.len (by omega) (hQ.strs.kept (by (repeat' first | with_reducible assumption | exact Below.refl _ _ | with_reducible refine Below.drew ?_ | with_reducible refine Below.drewN ?_ _ | with_reducible refine Below.alloc' ?_ _ | with_reducible refine Below.setCell ?_ (by first | exact Nat.le_refl _ | omega | (simp; done) | (simp; omega)) _ | with_reducible refine Below.after ?_ ‹_›)))).mono ?_; rintro e w6 ⟨b2, c2, rfl, hs2, hfar2, hb6⟩; have hz6 := hb6.size; simp at hz6; refine keep_pair hb6 (p := ⟨B, 0, none⟩) (q := ⟨b', off + k * 3 + 2, none⟩) (v1 := .slice b m c) (v2 := .string u) ?_ ?_ ?_; (· (first | exact dB | exact cellA dB)); (· (first | exact d2 | exact cellA d2)); rintro ⟨s1, s2⟩; (try (refine keep_box hb6 (p := ⟨w4.heap.size, 0, none⟩) (v := .slice none 0 0) ?_ ?_ ?_; (· (simp [go_sem]; done)); (· (simp [go_sem]; done)); rintro ⟨t1, t2⟩))))
                · skip
                  have yN : (w6.alloc (Obj.cells #[Value.slice b2 m' c2] 31)).cell? ⟨w6.heap.size, 0, none⟩ = some (Value.slice b2 m' c2) := by simp [go_sem]
                  have hXb : Below w4.heap.size w4 (w6.alloc (Obj.cells #[Value.slice b2 m' c2] 31)) := by (repeat' first | with_reducible assumption | exact Below.refl _ _ | with_reducible refine Below.drew ?_ | with_reducible refine Below.drewN ?_ _ | with_reducible refine Below.alloc' ?_ _ | with_reducible refine Below.setCell ?_ (by first | exact Nat.le_refl _ | omega | (simp; done) | (simp; omega)) _ | with_reducible refine Below.after ?_ ‹_›)
                  have hst : Strs (w6.alloc (Obj.cells #[Value.slice b2 m' c2] 31)) b2 r' := hs2.kept ((Below.refl _ _).alloc' _)
                  have hNB : w6.heap.size ≠ B := by have := hQ.ub; omega
                  have hN4 : w4.heap.size ≤ w6.heap.size := by omega
                  have hX6 : w6.heap.size ≤ (w6.alloc (Obj.cells #[Value.slice b2 m' c2] 31)).heap.size := by simp
                  have hQX := hQ.on K hXb
                  have hlt4 := K.lt hT'
                  have hf2 : ∀ y, b2 = some y → ¬ F' y.block ∧ y.block ≠ B ∧ y.block < (w6.alloc (Obj.cells #[Value.slice b2 m' c2] 31)).heap.size := fun y hy => by
                    rcases hfar2 y hy with h | h
                    · have h1 := hQ.off y h; exact ⟨h1.1, h1.2.1, by omega⟩
                    · have h1 := h.1; have h2 := h.2; simp at h1; have := hQ.ub; exact ⟨fun hk => by have := hlt4 _ hk; omega, by omega, by omega⟩
                  have xB := hQX.box
                  have gB := hQX.fr
                  obtain ⟨X, hX⟩ : ∃ X, (w6.alloc (Obj.cells #[Value.slice b2 m' c2] 31)) = X := ⟨_, rfl⟩
                  rw [hX] at yN hst hX6 hQX hf2 xB gB ⊢
                  clear hX hXb
                  obtain ⟨N, hN⟩ : ∃ N, w6.heap.size = N := ⟨_, rfl⟩
                  rw [hN] at yN hNB hN4 ⊢
                  clear hN
                  have hZ := hQX.store K (c2 := c2) HM'.out hst hf2
                  go_wp2_with fail
                  refine (same_any K p r' F' b2 m' c2 _ hZ.tab hZ.len (by omega) hZ.strs hZ.dis hZ.sz).mono ?_
                  rintro e w9 ⟨rfl, hb9⟩
                  have hE := hZ.on K hb9
                  go_wp2
                  go_roundw
                  case rel => exact ⟨k + 1, r', m', F', b2, c2, by omega, by go_num, by omega, hE⟩
                  case measure => simp [intOf]; omega
                · skip
                  have yN : (w6.setCell ⟨w4.heap.size, 0, none⟩ (Value.slice b2 m' c2)).cell? ⟨w4.heap.size, 0, none⟩ = some (Value.slice b2 m' c2) := World.cell?_setCell_same _ _ _ t1
                  have hXb : Below w4.heap.size w4 (w6.setCell ⟨w4.heap.size, 0, none⟩ (Value.slice b2 m' c2)) := by (repeat' first | with_reducible assumption | exact Below.refl _ _ | with_reducible refine Below.drew ?_ | with_reducible refine Below.drewN ?_ _ | with_reducible refine Below.alloc' ?_ _ | with_reducible refine Below.setCell ?_ (by first | exact Nat.le_refl _ | omega | (simp; done) | (simp; omega)) _ | with_reducible refine Below.after ?_ ‹_›)
                  have hst : Strs (w6.setCell ⟨w4.heap.size, 0, none⟩ (Value.slice b2 m' c2)) b2 r' := hs2.set (fun y hy => by
                    rcases hfar2 y hy with h | h
                    · have := (hQ.off y h).2.2; simp only []; omega
                    · have := h.1; simp at this; simp only []; omega)
                  have hNB : w4.heap.size ≠ B := by have := hQ.ub; omega
                  have hN4 : w4.heap.size ≤ w4.heap.size := by omega
                  have hX6 : w6.heap.size ≤ (w6.setCell ⟨w4.heap.size, 0, none⟩ (Value.slice b2 m' c2)).heap.size := by simp
                  have hQX := hQ.on K hXb
                  have hlt4 := K.lt hT'
                  have hf2 : ∀ y, b2 = some y → ¬ F' y.block ∧ y.block ≠ B ∧ y.block < (w6.setCell ⟨w4.heap.size, 0, none⟩ (Value.slice b2 m' c2)).heap.size := fun y hy => by
                    rcases hfar2 y hy with h | h
                    · have h1 := hQ.off y h; exact ⟨h1.1, h1.2.1, by omega⟩
                    · have h1 := h.1; have h2 := h.2; simp at h1; have := hQ.ub; exact ⟨fun hk => by have := hlt4 _ hk; omega, by omega, by omega⟩
                  have xB := hQX.box
                  have gB := hQX.fr
                  obtain ⟨X, hX⟩ : ∃ X, (w6.setCell ⟨w4.heap.size, 0, none⟩ (Value.slice b2 m' c2)) = X := ⟨_, rfl⟩
                  rw [hX] at yN hst hX6 hQX hf2 xB gB ⊢
                  clear hX hXb
                  obtain ⟨N, hN⟩ : ∃ N, w4.heap.size = N := ⟨_, rfl⟩
                  rw [hN] at yN hNB hN4 ⊢
                  clear hN
                  have hZ := hQX.store K (c2 := c2) HM'.out hst hf2
                  go_wp2_with fail
                  refine (same_any K p r' F' b2 m' c2 _ hZ.tab hZ.len (by omega) hZ.strs hZ.dis hZ.sz).mono ?_
                  rintro e w9 ⟨rfl, hb9⟩
                  have hE := hZ.on K hb9
                  go_wp2
                  go_roundw
                  case rel => exact ⟨k + 1, r', m', F', b2, c2, by omega, by go_num, by omega, hE⟩
                  case measure => simp [intOf]; omega
              · have hk0' : (kd == 0) = false := by simpa using hk0
                by_cases hk1 : kd = 1
                · subst hk1
                  obtain ⟨⟨i, f⟩, hy⟩ : ∃ y, findS r u = y := ⟨_, rfl⟩
                  have HY := Lib.hid hy
                  clear hy
                  go_wp2_with fail
                  refine (K.find_is HY.out _ hP.tab Hbl.out hu).mono ?_
                  rintro e w4 ⟨rfl, hb4⟩
                  have hQ := hP.on K hb4
                  have d2 := kept hQ.below hcw2
                  have dB := hQ.box
                  go_wp2
                  go_region_held3 (fun W => W.cell? ⟨B, 0, none⟩ = some (.slice b m c) ∧ W.cell? ⟨b', off + k * 3 + 2, none⟩ = some (.string u))
                    (first | go_keep | (go_split_ands; refine ⟨?_, ?_⟩ <;> first | go_keep | (refine kept ‹Below _ _ _› ?_; assumption)))
                    (first | (go_at_call 20; refine (rFind_is HY.out _ _ _ _ hQ.len (by omega) (hQ.strs.kept (by (repeat' first | with_reducible assumption | exact Below.refl _ _ | with_reducible refine Below.drew ?_ | with_reducible refine Below.drewN ?_ _ | with_reducible refine Below.alloc' ?_ _ | with_reducible refine Below.setCell ?_ (by first | exact Nat.le_refl _ | omega | (simp; done) | (simp; omega)) _ | with_reducible refine Below.after ?_ ‹_›)))).mono ?_; rintro e w6 ⟨rfl, hb6⟩))
                  all_goals
                    have hZ := hQ.on K (show Below w4.heap.size w4 w6 by (repeat' first | with_reducible assumption | exact Below.refl _ _ | with_reducible refine Below.drew ?_ | with_reducible refine Below.drewN ?_ _ | with_reducible refine Below.alloc' ?_ _ | with_reducible refine Below.setCell ?_ (by first | exact Nat.le_refl _ | omega | (simp; done) | (simp; omega)) _ | with_reducible refine Below.after ?_ ‹_›))
                    have xB := hZ.box
                    go_wp2_with fail
                    refine (same_any K p r F b m c _ hZ.tab hZ.len (by omega) hZ.strs hZ.dis hZ.sz).mono ?_
                    rintro e w9 ⟨rfl, hb9⟩
                    have hE := hZ.on K hb9
                    go_wp2
                    go_roundw
                    case rel => exact ⟨k + 1, r, m, F, b, c, by omega, by go_num, by omega, hE⟩
                    case measure => simp [intOf]; omega
                · have hk1' : (kd == 1) = false := by simpa using hk1
                  by_cases hk2 : kd = 2
                  · subst hk2
                    obtain ⟨⟨s, f⟩, hy⟩ : ∃ y, nameS r q = y := ⟨_, rfl⟩
                    have HY := Lib.hid hy
                    have hts : (s.toList == s.toList) = true := by simp
                    clear hy
                    go_wp2_with fail
                    refine (K.name_is HY.out _ hP.tab Hbl.out).mono ?_
                    rintro e w4 ⟨rfl, hb4⟩
                    have hQ := hP.on K hb4
                    have d2 := kept hQ.below hcw1
                    have dB := hQ.box
                    go_wp2
                    go_region_held3 (fun W => W.cell? ⟨B, 0, none⟩ = some (.slice b m c) ∧ W.cell? ⟨b', off + k * 3 + 1, none⟩ = some (.int .i64 q))
                      (first | go_keep | (go_split_ands; refine ⟨?_, ?_⟩ <;> first | go_keep | (refine kept ‹Below _ _ _› ?_; assumption)))
                      (first | (go_at_call 22; refine (rName_is HY.out _ _ _ _ hQ.len (by omega) (hQ.strs.kept (by (repeat' first | with_reducible assumption | exact Below.refl _ _ | with_reducible refine Below.drew ?_ | with_reducible refine Below.drewN ?_ _ | with_reducible refine Below.alloc' ?_ _ | with_reducible refine Below.setCell ?_ (by first | exact Nat.le_refl _ | omega | (simp; done) | (simp; omega)) _ | with_reducible refine Below.after ?_ ‹_›)))).mono ?_; rintro e w6 ⟨rfl, hb6⟩))
                    all_goals
                      have hZ := hQ.on K (show Below w4.heap.size w4 w6 by (repeat' first | with_reducible assumption | exact Below.refl _ _ | with_reducible refine Below.drew ?_ | with_reducible refine Below.drewN ?_ _ | with_reducible refine Below.alloc' ?_ _ | with_reducible refine Below.setCell ?_ (by first | exact Nat.le_refl _ | omega | (simp; done) | (simp; omega)) _ | with_reducible refine Below.after ?_ ‹_›))
                      have xB := hZ.box
                      go_wp2_with fail
                      refine (same_any K p r F b m c _ hZ.tab hZ.len (by omega) hZ.strs hZ.dis hZ.sz).mono ?_
                      rintro e w9 ⟨rfl, hb9⟩
                      have hE := hZ.on K hb9
                      go_wp2
                      go_roundw
                      case rel => exact ⟨k + 1, r, m, F, b, c, by omega, by go_num, by omega, hE⟩
                      case measure => simp [intOf]; omega
                  · have hk2' : (kd == 2) = false := by simpa using hk2
                    clear hk0 hk1 hk2
                    go_wp2_with fail
                    refine (same_any K p r F b m c _ hP.tab hP.len (by omega) hP.strs hP.dis hP.sz).mono ?_
                    rintro e w9 ⟨rfl, hb9⟩
                    have hE := hP.on K hb9
                    go_wp2
                    go_roundw
                    case rel => exact ⟨k + 1, r, m, F, b, c, by omega, by go_num, by omega, hE⟩
                    case measure => simp [intOf]; omega
          · go_wp2_with fail
            refine (idAwake_any K _).mono ?_
            rintro e w5 ⟨rfl, hb5⟩
            go_wp2
            go_ret
            exact ⟨rfl, hbr.trans (hb5.mono hbr.size)⟩
      · have hx : x ≠ 0 := by omega
        have hx1 : (x != 0) = true := by simpa using hx
        have HX := Lib.hid hx
        clear hx
        go_enter Try.func5, Try.ntmps5
        go_wp2_with fail
        refine HS.out.mono ?_
        rintro e w1 ⟨rfl, rfl⟩
        go_wp2_with fail
        refine (K.new_no HR.out HX.out a n cap _ Hn.out (by omega) hl Hsz2.out).mono ?_
        rintro e w2 ⟨rfl, hb2⟩
        go_wp2_with fail
        refine (Hnew.out _ Hn.out (by omega) (hl.kept (by (repeat' first | with_reducible assumption | exact Below.refl _ _ | with_reducible refine Below.drew ?_ | with_reducible refine Below.drewN ?_ _ | with_reducible refine Below.alloc' ?_ _ | with_reducible refine Below.setCell ?_ (by first | exact Nat.le_refl _ | omega | (simp; done) | (simp; omega)) _ | with_reducible refine Below.after ?_ ‹_›))) Hsz2.out).mono ?_
        rintro e w3 ⟨b, c, rfl, hst, hfar, hb3⟩
        go_wp2_with fail
        refine (idAwake_any K _).mono ?_
        rintro e w5 ⟨rfl, hb5⟩
        go_wp2
        go_ret
        exact ⟨rfl, by (repeat' first | with_reducible assumption | exact Below.refl _ _ | with_reducible refine Below.drew ?_ | with_reducible refine Below.drewN ?_ _ | with_reducible refine Below.alloc' ?_ _ | with_reducible refine Below.setCell ?_ (by first | exact Nat.le_refl _ | omega | (simp; done) | (simp; omega)) _ | with_reducible refine Below.after ?_ ‹_›)⟩
end
end Go.Proofs.Yteemacgknmidaaa
