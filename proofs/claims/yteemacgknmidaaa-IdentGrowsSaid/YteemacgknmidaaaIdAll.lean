/-
  Walks over the laws of package ident: All (a range over a table's sequence).
-/
import Derived.Test.YteemacgknmidaaaIdSeq
namespace Go.Proofs.Yteemacgknmidaaa
set_option linter.unusedVariables false
set_option linter.unusedSimpArgs false
open Go.RowKit Go.Shelf
attribute [local go_sem] Oper.semAt_some

theorem enumL_length (l : List ByteArray) : (enumL l).length = l.length := by simp [enumL]
theorem enumL_take (l : List ByteArray) (k : Nat) (hk : k < l.length) : (enumL l).take (k + 1) = (enumL l).take k ++ [(k, l[k]?.getD ByteArray.empty)] := by
  rw [List.take_add_one]
  congr 1
  simp [enumL, hk]
theorem enumL_next {l : List ByteArray} {pre : List (Nat × ByteArray)} {x : Nat × ByteArray} {k : Nat} (hk : k < l.length) (hp : pre = (enumL l).take k) (h : pre ++ [x] <+: enumL l) : x = (k, l[k]?.getD ByteArray.empty) := by
  have hl : pre.length = k := by rw [hp, List.length_take, enumL_length]; omega
  have h1 := List.prefix_iff_eq_take.1 h
  rw [List.length_append, hl, List.length_singleton, enumL_take l k hk, ← hp] at h1
  simpa using h1
theorem strs_own {A B : World} {row : Option Nat} {a : Option Addr} {l : List ByteArray} (h : Strs A a l) (hg : A.grownBy B row) (hr : ∀ r, row = some r → ∃ o : Obj, A.heap[r]? = some o ∧ o.isCells = false) : Strs B a l := by
  intro hne
  obtain ⟨b, off, e, hc⟩ := h hne
  exact ⟨b, off, e, fun k hk => cell_kept (hc k hk) hg hr⟩

/-- what lies between two rounds -/
structure AllIn (w0 w6 : World) (B9 : Nat) (most : Int) (b : Option Addr) (m c : Nat) (r : List ByteArray) (k : Nat) (W : World) : Prop where
  n : W.cell? ⟨w6.heap.size, 0, none⟩ = some (.int .i64 k)
  nf : W.frozen? ⟨w6.heap.size, 0, none⟩ = false
  res : W.cell? ⟨w0.heap.size + 1, 0, none⟩ = some (.bool false)
  resf : W.frozen? ⟨w0.heap.size + 1, 0, none⟩ = false
  most : W.cell? ⟨w0.heap.size, 0, none⟩ = some (.int .i64 most)
  st : W.cell? ⟨B9, 0, none⟩ = some (.slice b m c)
  strs : Strs W b r
theorem AllIn.own {w0 w6 A B : World} {B9 : Nat} {most : Int} {b : Option Addr} {m c : Nat} {r : List ByteArray} {k : Nat} {row : Option Nat} (h : AllIn w0 w6 B9 most b m c r k A) (hg : A.grownBy B row) (hr : ∀ r, row = some r → ∃ o : Obj, A.heap[r]? = some o ∧ o.isCells = false) : AllIn w0 w6 B9 most b m c r k B :=
  ⟨cell_kept h.n hg hr, (frozen_kept h.n hg hr).trans h.nf, cell_kept h.res hg hr, (frozen_kept h.res hg hr).trans h.resf, cell_kept h.most hg hr, cell_kept h.st hg hr, strs_own h.strs hg hr⟩
theorem AllIn.next {w0 w6 W : World} {B9 : Nat} {most : Int} {b : Option Addr} {m c : Nat} {r : List ByteArray} {k : Nat} (h : AllIn w0 w6 B9 most b m c r k W) (h9 : B9 < w6.heap.size) (h6 : w0.heap.size + 2 ≤ w6.heap.size) (hs : ∀ x, b = some x → x.block < w6.heap.size) : AllIn w0 w6 B9 most b m c r (k + 1) (W.setCell ⟨w6.heap.size, 0, none⟩ (.int .i64 ((k : Int) + 1))) :=
  ⟨World.cell?_setCell_same _ _ _ h.n, by simpa using h.nf, setCell_keep (by dsimp only; omega) h.res, by simpa using h.resf, setCell_keep (by dsimp only; omega) h.most, setCell_keep (by dsimp only; omega) h.st, h.strs.set (fun x hx => by have := hs x hx; dsimp only; omega)⟩
theorem AllIn.kept {w0 w6 W W' : World} {B9 : Nat} {most : Int} {b : Option Addr} {m c : Nat} {r : List ByteArray} {k : Nat} (h : AllIn w0 w6 B9 most b m c r k W) (hb : Below W.heap.size W W') : AllIn w0 w6 B9 most b m c r k W' :=
  ⟨Go.Proofs.Yteemacgknmidaaa.kept hb h.n, keptF hb h.n h.nf, Go.Proofs.Yteemacgknmidaaa.kept hb h.res, keptF hb h.res h.resf, Go.Proofs.Yteemacgknmidaaa.kept hb h.most, Go.Proofs.Yteemacgknmidaaa.kept hb h.st, h.strs.kept hb⟩

section
variable {Tab : TabP} {Seq : SeqP} (K : IdCon Tab) (Q : IdSeq Tab Seq)
include K Q

set_option maxRecDepth 100000 in
set_option maxHeartbeats 8000000 in
theorem identAll_of (a : Option Addr) (l : List ByteArray) (n cap : Nat) (s : ByteArray) (most : Int) (w : World) (hn : l.length = n) (hl : Strs w a l) (hsz : ∀ s ∈ l, s.size ≤ maxLen) (hnm : n ≤ maxLen) (hs : s.size ≤ maxLen) :
    Calls Try.prog 7 #[.slice a n cap, .string s, .int .i64 most] w fun e w' => e = .returned (.bool true) ∧ Below w.heap.size w w' := by
  have Hn := Lib.hid hn
  have Hsz := Lib.hid hsz
  have Hsz2 := Lib.hid (show ∀ s ∈ l, s.size ≤ 9223372036854775807 from fun s hs => by have := hsz s hs; unfold maxLen at this; omega)
  clear hn hsz
  obtain ⟨q, hq⟩ : ∃ q, shortB l 60 = q := ⟨_, rfl⟩
  have hsh := fun (W : World) (h : Strs W a l) => short_any a l n cap 60 W Hn.out (by omega) Hsz.out h hnm
  rw [hq] at hsh
  have HS := Lib.hid hsh
  unfold maxLen at hs
  clear hsh
  have hrun : ∀ gf lb W, Sem.run Try.prog (binOp BinOp.eql 53 (.func (.func gf) #[] lb) .nilFunc) W = .ok (.bool false) W := fun _ _ _ => by kernel_rfl
  refine (callsIn_wide (n := 20)).1 ?_
  refine callsIn_of_wp_marks Try.func7 rfl trivial ?_ rfl
  simp only [Try.ntmps7, List.size_toArray, List.length_cons, List.length_nil, Nat.reduceAdd, Nat.reduceSub, Array.replicate_succ, Array.replicate_zero, List.push_toArray, List.append_toArray, List.nil_append, List.cons_append]
  gi_wp2_with fail
  refine ⟨trivial, (callsIn_wide.2 (HS.out _ (hl.kept (by (repeat' first | with_reducible assumption | exact Below.refl _ _ | with_reducible refine Below.drew ?_ | with_reducible refine Below.drewN ?_ _ | with_reducible refine Below.alloc' ?_ _ | with_reducible refine Below.setCell ?_ (by first | exact Nat.le_refl _ | omega | (simp; done) | (simp; omega)) _ | with_reducible refine Below.after ?_ ‹_›))))).mono ?_⟩
  rintro e w1 ⟨rfl, rfl⟩
  obtain ⟨w1, hw1⟩ : ∃ w1, (w.alloc (.cells #[.int .i64 most] 3)).alloc (.cells #[.bool false] 4) = w1 := ⟨_, rfl⟩
  have hb1 : Below w.heap.size w w1 := by rw [← hw1]; (repeat' first | with_reducible assumption | exact Below.refl _ _ | with_reducible refine Below.drew ?_ | with_reducible refine Below.drewN ?_ _ | with_reducible refine Below.alloc' ?_ _ | with_reducible refine Below.setCell ?_ (by first | exact Nat.le_refl _ | omega | (simp; done) | (simp; omega)) _ | with_reducible refine Below.after ?_ ‹_›)
  have hz1 : w1.heap.size = w.heap.size + 2 := by rw [← hw1]; simp
  have a5 : w1.cell? ⟨w.heap.size, 0, none⟩ = some (.int .i64 most) := by rw [← hw1]; simp [go_sem]
  have a6 : w1.cell? ⟨w.heap.size + 1, 0, none⟩ = some (.bool false) := by rw [← hw1]; simp [go_sem]
  have e6 : w1.frozen? ⟨w.heap.size + 1, 0, none⟩ = false := by rw [← hw1]; simp [go_sem]
  rw [hw1]
  clear hw1
  cases q
  · clear hq hs
    gi_wp2_with fail
    refine ⟨trivial, (callsIn_wide.2 (idAwake_any K _)).mono ?_⟩
    rintro e w9 ⟨rfl, hb9⟩
    have c9 := kept hb9 a6
    have f9 := keptF hb9 a6 e6
    have hB9 : Below w.heap.size w w9 := hb1.trans (hb9.mono hb1.size)
    gi_wp2
    have hc := World.cell?_setCell_same' w9 ⟨w.heap.size + 1, 0, none⟩ (.bool true) (by rw [c9]; rfl)
    refine ⟨.bool true, ?_, rfl, hB9.setCell (p := ⟨w.heap.size + 1, 0, none⟩) (by simp) _⟩
    simp [results, Try.f7, go_sem, hc]
  · have hn60 : n ≤ 60 := by
      unfold shortB at hq
      simp at hq
      have := hq.1
      rw [Hn.out] at this
      omega
    clear hq
    by_cases hs2 : 200 < s.size
    · skip
      gi_wp2_with fail
      refine ⟨trivial, (callsIn_wide.2 (idAwake_any K _)).mono ?_⟩
      rintro e w9 ⟨rfl, hb9⟩
      have c9 := kept hb9 a6
      have f9 := keptF hb9 a6 e6
      have hB9 : Below w.heap.size w w9 := hb1.trans (hb9.mono hb1.size)
      gi_wp2
      have hc := World.cell?_setCell_same' w9 ⟨w.heap.size + 1, 0, none⟩ (.bool true) (by rw [c9]; rfl)
      refine ⟨.bool true, ?_, rfl, hB9.setCell (p := ⟨w.heap.size + 1, 0, none⟩) (by simp) _⟩
      simp [results, Try.f7, go_sem, hc]
    · have hs3 : s.size ≤ 200 := by omega
      clear hs2
      have herr := newS_err l []
      have hlen := newS_len l []
      have hnew := rNew_any a l n cap
      obtain ⟨⟨r, x⟩, hr⟩ : ∃ y, newS [] l = y := ⟨_, rfl⟩
      rw [hr] at herr hlen hnew
      simp only [List.length_nil, Nat.zero_add] at herr hlen
      rw [Hn.out] at hlen
      have HR := Lib.hid hr
      have Hnew := Lib.hid hnew
      obtain ⟨m, hm⟩ : ∃ m, r.length = m := ⟨_, rfl⟩
      have HM := Lib.hid hm
      have hm60 : m ≤ 60 := by omega
      clear hr hnew hm hlen
      rcases herr with rfl | herr
      · gi_wp2_with fail
        refine ⟨trivial, (callsIn_wide.2 (K.new_yes HR.out a n cap _ Hn.out (by omega) (hl.kept hb1) Hsz2.out)).mono ?_⟩
        rintro e w2 ⟨p, F0, rfl, hT0, hF0, hb2⟩
        have hlt0 := K.lt hT0
        gi_wp2_with fail
        refine ⟨trivial, (callsIn_wide.2 (Hnew.out _ Hn.out (by omega) ((hl.kept hb1).kept hb2) Hsz2.out)).mono ?_⟩
        rintro e w3 ⟨b0, c0, rfl, hst, hfar, hb3⟩
        rw [HM.out]
        have hz2 := hb2.size
        have hz3 := hb3.size
        gi_wp2_with fail
        refine ⟨trivial, (callsIn_wide.2 (Q.all p r F0 _ (K.on (K.on hT0 hb3) (by (repeat' first | with_reducible assumption | exact Below.refl _ _ | with_reducible refine Below.drew ?_ | with_reducible refine Below.drewN ?_ _ | with_reducible refine Below.alloc' ?_ _ | with_reducible refine Below.setCell ?_ (by first | exact Nat.le_refl _ | omega | (simp; done) | (simp; omega)) _ | with_reducible refine Below.after ?_ ‹_›))) (by rw [HM.out]; omega))).mono ?_⟩
        rintro e w4 ⟨v, rfl, hq4, hb4⟩
        obtain ⟨gf, lb, rfl, hent, -⟩ := Q.stops hq4
        have hb34 : Below w3.heap.size w3 w4 := by (repeat' first | with_reducible assumption | exact Below.refl _ _ | with_reducible refine Below.drew ?_ | with_reducible refine Below.drewN ?_ _ | with_reducible refine Below.alloc' ?_ _ | with_reducible refine Below.setCell ?_ (by first | exact Nat.le_refl _ | omega | (simp; done) | (simp; omega)) _ | with_reducible refine Below.after ?_ ‹_›)
        have hz4 : w3.heap.size + 1 ≤ w4.heap.size := by have := hb4.size; simpa using this
        have hr := hrun gf lb
        have hT4 := K.on (K.on hT0 hb3) hb34
        have d9 := kept hb4 (p := ⟨w3.heap.size, 0, none⟩) (v := .slice b0 m c0) (by simp [go_sem])
        gi_wp2_with fail
        refine ⟨trivial, (callsIn_wide.2 (Q.add p r F0 s _ r _ hT4 hq4 (by rw [HM.out]; omega) (by omega))).mono ?_⟩
        rintro e w5 ⟨⟨rfl, ⟨F', hT', hF'⟩, ho⟩, hq5⟩
        obtain ⟨gf2, lb2, e2, -, hst2⟩ := Q.stops hq5
        obtain ⟨rfl, rfl⟩ : gf = gf2 ∧ lb = lb2 := by simpa using e2
        clear e2
        have hb14 : Below w1.heap.size w1 w4 := by (repeat' first | with_reducible assumption | exact Below.refl _ _ | with_reducible refine Below.drew ?_ | with_reducible refine Below.drewN ?_ _ | with_reducible refine Below.alloc' ?_ _ | with_reducible refine Below.setCell ?_ (by first | exact Nat.le_refl _ | omega | (simp; done) | (simp; omega)) _ | with_reducible refine Below.after ?_ ‹_›)
        have hz14 := hb14.size
        have n5 : ¬ F0 w.heap.size := fun h => by have := hF0 _ h; omega
        have n6 : ¬ F0 (w.heap.size + 1) := fun h => by have := hF0 _ h; omega
        have n9 : ¬ F0 w3.heap.size := fun h => by have := hlt0 _ h; omega
        have g5 := ho.cell (p := ⟨w.heap.size, 0, none⟩) n5 (kept hb14 a5)
        have g6 := ho.cell (p := ⟨w.heap.size + 1, 0, none⟩) n6 (kept hb14 a6)
        have g7 := ho.frozen (p := ⟨w.heap.size + 1, 0, none⟩) n6 (kept hb14 a6) (keptF hb14 a6 e6)
        have g9 := ho.cell (p := ⟨w3.heap.size, 0, none⟩) n9 d9
        have gs := ho.strs (fun x hx h => by have h1 := hfar x hx; have := hlt0 _ h; omega) (hst.kept hb34)
        have hz5 := ho.size
        have hb5 : Below w.heap.size w w5 := (hb1.trans (hb14.mono hb1.size)).trans (ho.below (by omega) (fun k hk => by have := hF0 k hk; omega))
        have h0 : AllIn w w5 w3.heap.size most b0 m c0 r 0 (w5.alloc (.cells #[.int .i64 0] 3)) :=
          ⟨by simp [go_sem], by simp [go_sem], cellA g6, frozA g6 g7, cellA g5, cellA g9, gs.kept ((Below.refl _ _).alloc' _)⟩
        gi_wp2
        refine wpIn_rangeFunc_ownF rfl (by omega) (gf := gf) (lb := lb) rfl trivial hent (hst2 19 (by omega)) belowK_t (belowK_b (by simp)) ((Below.refl _ _).alloc' _) (fun _ => rfl)
          (fun pre W => (pre = (enumL r).take pre.length ∧ AllIn w w5 w3.heap.size most b0 m c0 r pre.length W) ∧ Below w.heap.size w W)
          (fun c pre W => ((c = .exit 0 ∧ (pre.length : Int) = most ∧ AllIn w w5 w3.heap.size most b0 m c0 r pre.length W) ∨ (c = .ret ∧ ¬ pre <+: enumL r)) ∧ Below w.heap.size w W)
          (OwnFrom.and (Own.from (fun s A B row hs hg hr => ⟨hs.1, hs.2.own hg hr⟩) _) (ownFrom_below (Nat.le_refl _) (by simp; omega)))
          (fun c => OwnFrom.and (Own.from (fun s A B row hs hg hr => hs.imp (fun h => ⟨h.1, h.2.1, h.2.2.own hg hr⟩) id) _) (ownFrom_below (Nat.le_refl _) (by simp; omega)))
          ⟨⟨rfl, h0⟩, by (repeat' first | with_reducible assumption | exact Below.refl _ _ | with_reducible refine Below.drew ?_ | with_reducible refine Below.drewN ?_ _ | with_reducible refine Below.alloc' ?_ _ | with_reducible refine Below.setCell ?_ (by first | exact Nat.le_refl _ | omega | (simp; done) | (simp; omega)) _ | with_reducible refine Below.after ?_ ‹_›)⟩ ?a1 ?assign ?body ?done ?stop
        case assign =>
          intro l x W K hK
          gi_wp2
          exact hK
        case body =>
          rintro l' pre x W ⟨⟨hp, hI⟩, hB⟩ hlen
          obtain ⟨xi, xs⟩ := x
          obtain ⟨k, hk⟩ : ∃ k, pre.length = k := ⟨_, rfl⟩
          rw [hk] at hp hI hlen
          have hk60 : k < 60 := by have := HM.out; omega
          have Hnext := Lib.hid (fun (x : Nat × ByteArray) h => enumL_next (x := x) hlen hp h)
          have Htake := Lib.hid (enumL_take r k hlen)
          obtain ⟨b', off, rfl, hc⟩ := hI.strs.at_ hlen
          obtain ⟨u, hu⟩ : ∃ u, r[k]?.getD ByteArray.empty = u := ⟨_, rfl⟩
          rw [hu] at hc Hnext Htake
          have hkm : k < m := by have := HM.out; omega
          have i1 := hI.n
          have i2 := hI.nf
          have i3 := hI.res
          have i4 := hI.resf
          have i5 := hI.most
          have i6 := hI.st
          have hJ := hI.next (by omega) (by omega) (fun y hy => by have h1 := hfar y hy; omega)
          clear hu
          by_cases hxi : xi = k
          · subst hxi
            by_cases hxs : xs = u
            · subst hxs
              have hts : (xs.toList == xs.toList) = true := by simp
              have htk : pre ++ [(xi, xs)] = (enumL r).take (xi + 1) := by rw [Htake.out, ← hp]
              have hl1 : (pre ++ [(xi, xs)]).length = xi + 1 := by simp [hk]
              by_cases hmo : (xi : Int) + 1 = most
              · have hmo' : ((xi : Int) + 1 == most) = true := by simpa using hmo
                gi_wp2
                exact ⟨KeepsOthers.setCell _ _ _, Or.inl ⟨rfl, by rw [hl1]; simpa using hmo, by rw [hl1]; rw [hmo] at hJ; exact hJ⟩, hB.setCell (p := ⟨w5.heap.size, 0, none⟩) (by simp; omega) _⟩
              · have hmo' : ((xi : Int) + 1 == most) = false := by simpa using hmo
                gi_wp2
                exact ⟨KeepsOthers.setCell _ _ _, (Below.refl _ W).setCell (p := ⟨w5.heap.size, 0, none⟩) (Nat.le_refl _) _, ⟨by rw [hl1]; exact htk, by rw [hl1]; exact hJ⟩, hB.setCell (p := ⟨w5.heap.size, 0, none⟩) (by simp; omega) _⟩
            · have hts : (xs.toList == u.toList) = false := by rw [str_eq]; simpa using hxs
              gi_wp2
              exact ⟨KeepsOthers.setCell _ _ _, Or.inr ⟨rfl, fun h => hxs (by have := Hnext.out _ h; simpa using this)⟩, hB.setCell (p := ⟨w.heap.size + 1, 0, none⟩) (by simp) _⟩
          · have hne : ((xi : Int) != (k : Int)) = true := by simp; omega
            gi_wp2
            exact ⟨KeepsOthers.setCell _ _ _, Or.inr ⟨rfl, fun h => hxi (by have := Hnext.out _ h; simp at this; exact this.1)⟩, hB.setCell (p := ⟨w.heap.size + 1, 0, none⟩) (by simp) _⟩
        case done =>
          rintro D ys W hD rfl ⟨⟨hp, hI⟩, hB⟩ hK
          rw [enumL_length, HM.out] at hI
          have i1 := hI.n
          have i3 := hI.res
          have i4 := hI.resf
          have i5 := hI.most
          have i6 := hI.st
          gi_wp2_with fail
          refine ⟨trivial, (callsIn_wide.2 (idAwake_any K _)).mono ?_⟩
          rintro e w9 ⟨rfl, hb9⟩
          have c9 := kept hb9 hI.res
          have f9 := keptF hb9 hI.res hI.resf
          have hK9 := (hb9.block D (Array.getElem?_eq_some_iff.1 hK).1).trans hK
          have hB9 : Below w.heap.size w w9 := hB.trans (hb9.mono hB.size)
          gi_wp2
          have hK' := (KeepsOthers.setCell w9 ⟨w.heap.size + 1, 0, none⟩ (.bool true)).same D _ hK9 rfl
          refine ⟨by simp, .inl ⟨_, _, rfl, run_takeDeferred hK', ?_⟩⟩
          have hc := cell_kept (World.cell?_setCell_same' w9 ⟨w.heap.size + 1, 0, none⟩ (.bool true) (by rw [c9]; rfl)) (grownBy_putObj' _ D (.deferred none)) (fun r e => by cases e; exact ⟨_, hK', rfl⟩)
          refine ⟨.bool true, ?_, rfl, (hB9.setCell (p := ⟨w.heap.size + 1, 0, none⟩) (by simp) _).trans (belowK_b (w := w) (Nat.le_refl _) _ D _ _ (by simp at hD; omega) hK' rfl rfl)⟩
          simp [results, Try.f7, go_sem, hc]
        case stop =>
          rintro D c pre W hD hpre ⟨⟨rfl, hmo, hI⟩ | ⟨rfl, hno⟩, hB⟩ hK
          · have i1 := hI.n
            have i3 := hI.res
            have i4 := hI.resf
            have i5 := hI.most
            have i6 := hI.st
            obtain ⟨k, hk⟩ : ∃ k, pre.length = k := ⟨_, rfl⟩
            rw [hk] at hmo i1
            subst hmo
            by_cases hkm : (k : Int) = m
            · have hkm' : ((k : Int) == (m : Int)) = true := by simpa using hkm
              gi_wp2_with fail
              refine ⟨trivial, (callsIn_wide.2 (idAwake_any K _)).mono ?_⟩
              rintro e w9 ⟨rfl, hb9⟩
              have c9 := kept hb9 hI.res
              have f9 := keptF hb9 hI.res hI.resf
              have hK9 := (hb9.block D (Array.getElem?_eq_some_iff.1 hK).1).trans hK
              have hB9 : Below w.heap.size w w9 := hB.trans (hb9.mono hB.size)
              gi_wp2
              have hK' := (KeepsOthers.setCell w9 ⟨w.heap.size + 1, 0, none⟩ (.bool true)).same D _ hK9 rfl
              refine ⟨by simp, .inl ⟨_, _, rfl, run_takeDeferred hK', ?_⟩⟩
              have hc := cell_kept (World.cell?_setCell_same' w9 ⟨w.heap.size + 1, 0, none⟩ (.bool true) (by rw [c9]; rfl)) (grownBy_putObj' _ D (.deferred none)) (fun r e => by cases e; exact ⟨_, hK', rfl⟩)
              refine ⟨.bool true, ?_, rfl, (hB9.setCell (p := ⟨w.heap.size + 1, 0, none⟩) (by simp) _).trans (belowK_b (w := w) (Nat.le_refl _) _ D _ _ (by simp at hD; omega) hK' rfl rfl)⟩
              simp [results, Try.f7, go_sem, hc]
            · have hkm' : ((k : Int) == (m : Int)) = false := by simpa using hkm
              gi_wp2_with fail
              refine ⟨trivial, (callsIn_wide.2 (idAwake_any K _)).mono ?_⟩
              rintro e w9 ⟨rfl, hb9⟩
              have c9 := kept hb9 hI.res
              have f9 := keptF hb9 hI.res hI.resf
              have hK9 := (hb9.block D (Array.getElem?_eq_some_iff.1 hK).1).trans hK
              have hB9 : Below w.heap.size w w9 := hB.trans (hb9.mono hB.size)
              gi_wp2
              have hK' := (KeepsOthers.setCell w9 ⟨w.heap.size + 1, 0, none⟩ (.bool true)).same D _ hK9 rfl
              refine ⟨by simp, .inl ⟨_, _, rfl, run_takeDeferred hK', ?_⟩⟩
              have hc := cell_kept (World.cell?_setCell_same' w9 ⟨w.heap.size + 1, 0, none⟩ (.bool true) (by rw [c9]; rfl)) (grownBy_putObj' _ D (.deferred none)) (fun r e => by cases e; exact ⟨_, hK', rfl⟩)
              refine ⟨.bool true, ?_, rfl, (hB9.setCell (p := ⟨w.heap.size + 1, 0, none⟩) (by simp) _).trans (belowK_b (w := w) (Nat.le_refl _) _ D _ _ (by simp at hD; omega) hK' rfl rfl)⟩
              simp [results, Try.f7, go_sem, hc]
          · exact absurd hpre hno
      · have hx : x ≠ 0 := by omega
        have hx1 : (x != 0) = true := by simpa using hx
        have HX := Lib.hid hx
        clear hx
        gi_wp2_with fail
        refine ⟨trivial, (callsIn_wide.2 (K.new_no HR.out HX.out a n cap _ Hn.out (by omega) (hl.kept hb1) Hsz2.out)).mono ?_⟩
        rintro e w2 ⟨rfl, hb2⟩
        gi_wp2_with fail
        refine ⟨trivial, (callsIn_wide.2 (Hnew.out _ Hn.out (by omega) ((hl.kept hb1).kept hb2) Hsz2.out)).mono ?_⟩
        rintro e w3 ⟨b, c, rfl, hst, hfar, hb3⟩
        have hb13 : Below w1.heap.size w1 w3 := by (repeat' first | with_reducible assumption | exact Below.refl _ _ | with_reducible refine Below.drew ?_ | with_reducible refine Below.drewN ?_ _ | with_reducible refine Below.alloc' ?_ _ | with_reducible refine Below.setCell ?_ (by first | exact Nat.le_refl _ | omega | (simp; done) | (simp; omega)) _ | with_reducible refine Below.after ?_ ‹_›)
        have hz13 := hb13.size
        gi_wp2_with fail
        refine ⟨trivial, (callsIn_wide.2 (idAwake_any K _)).mono ?_⟩
        rintro e w9 ⟨rfl, hb9⟩
        have c9 := kept hb9 (cellA (kept hb13 a6))
        have f9 := keptF hb9 (cellA (kept hb13 a6)) (frozA (kept hb13 a6) (keptF hb13 a6 e6))
        have hB9 : Below w.heap.size w w9 := (hb1.trans ((hb13.alloc hb13.size _).mono hb1.size)).trans (hb9.mono (by simp; omega))
        gi_wp2
        have hc := World.cell?_setCell_same' w9 ⟨w.heap.size + 1, 0, none⟩ (.bool true) (by rw [c9]; rfl)
        refine ⟨.bool true, ?_, rfl, hB9.setCell (p := ⟨w.heap.size + 1, 0, none⟩) (by simp) _⟩
        simp [results, Try.f7, go_sem, hc]
end
end Go.Proofs.Yteemacgknmidaaa
