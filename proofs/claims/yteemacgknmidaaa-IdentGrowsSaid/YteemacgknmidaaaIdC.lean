/-
  Walks over the reference of package ident: Add, New.
-/
import Derived.Test.YteemacgknmidaaaIdB
namespace Go.Proofs.Yteemacgknmidaaa
set_option linter.unusedVariables false
set_option linter.unusedSimpArgs false
open Go.RowKit

theorem info_string : (Try.prog.info? 9).map (fun i => (i.zero, i.size, i.bytes)) = some (some (.string ByteArray.empty), 1, 16) := by kernel_rfl

/-- what Add returns: the identifiers, the number, the error -/
def addS (l : List ByteArray) (s : ByteArray) : List ByteArray × Int × Int := if idB s then (if (findS l s).2 then (l, 0, 6) else (l ++ [s], (l.length : Int), 0)) else (l, 0, 5)
/-- a call that gives back a state, a number and an error -/
def GivesState (w : World) (a : Option Addr) (r : List ByteArray × Int × Int) (e : Ending) (w' : World) : Prop :=
  ∃ b c, e = .returned (.tuple #[.agg #[.slice b r.1.length c], .int .i64 r.2.1, .int .i64 r.2.2]) ∧ Strs w' b r.1 ∧ (∀ x, b = some x → a = some x ∨ (w.heap.size ≤ x.block ∧ x.block < w'.heap.size)) ∧ Below w.heap.size w w'

theorem own_far {w : World} {base : Nat} {e : TypeId} {size n m c : Nat} {a : Option Addr} {xs : List Value} (h : w.ownsRow base e size (.slice a m c) n xs) : ∀ x, a = some x → base ≤ x.block ∧ x.block < w.heap.size := by
  rintro x rfl
  have hlt := h.lt
  rcases h.2 with ⟨e, _⟩ | ⟨g, cap, cur, e, h1, _⟩
  · simp at e
  · obtain ⟨rfl, -⟩ : x = ⟨g, 0, none⟩ ∧ m = n ∧ c = cap := by simpa using e
    exact hlt g rfl
theorem strs_setCell {w : World} {a : Option Addr} {l : List ByteArray} {b o : Nat} {v : Value} (h : Strs w a l) (hne : ∀ x, a = some x → x.block ≠ b) : Strs (w.setCell ⟨b, o, none⟩ v) a l := by
  intro hl
  obtain ⟨b', off, rfl, hc⟩ := h hl
  refine ⟨b', off, rfl, fun k hk => ?_⟩
  have hb : b' ≠ b := hne _ rfl
  rw [← hc k hk]
  exact World.cell?_setCell_other _ _ _ _ (fun e => hb (congrArg Addr.block e).symm)

set_option maxRecDepth 20000 in
set_option maxHeartbeats 4000000 in
theorem rAdd_any (a : Option Addr) (l : List ByteArray) (n cap : Nat) (s : ByteArray) (w : World) (hs : s.size ≤ 9223372036854775807) (hn : l.length = n) (hb : n ≤ 900000) (hl : Strs w a l) :
    Calls Try.prog 18 #[.agg #[.slice a n cap], .string s] w (GivesState w a (addS l s)) := by
  have Hn := Lib.hid hn
  clear hn
  cases hv : idB s
  · have E := Lib.hid (show addS l s = (l, 0, 5) by simp [addS, hv])
    have HV := Lib.hid hv
    clear hv
    go_enter Try.func18, Try.ntmps18
    go_wp2_with fail
    refine (rValid_is HV.out _ hs).mono ?_
    rintro e w1 ⟨rfl, rfl⟩
    go_wp2
    ((try simp only [Exit.inBlock, Exit.then]); refine bodyPost_ret (by simp [results, Try.results18, go_sem, *]; try rfl) rfl ?_)
    exact ⟨a, cap, by rw [E.out, Hn.out], by rw [E.out]; exact hl.kept (by (repeat' first | with_reducible assumption | exact Below.refl _ _ | with_reducible refine Below.drew ?_ | with_reducible refine Below.drewN ?_ _ | with_reducible refine Below.alloc' ?_ _ | with_reducible refine Below.setCell ?_ (by first | exact Nat.le_refl _ | omega | (simp; done) | (simp; omega)) _ | with_reducible refine Below.after ?_ ‹_›)), fun x hx => Or.inl hx, by (repeat' first | with_reducible assumption | exact Below.refl _ _ | with_reducible refine Below.drew ?_ | with_reducible refine Below.drewN ?_ _ | with_reducible refine Below.alloc' ?_ _ | with_reducible refine Below.setCell ?_ (by first | exact Nat.le_refl _ | omega | (simp; done) | (simp; omega)) _ | with_reducible refine Below.after ?_ ‹_›)⟩
  · have HV := Lib.hid hv
    clear hv
    cases hf : (findS l s).2
    · have E := Lib.hid (show addS l s = (l ++ [s], (l.length : Int), 0) by simp [addS, HV.out, hf])
      have HF := Lib.hid hf
      clear hf
      go_enter Try.func18, Try.ntmps18
      go_wp2_with fail
      refine (rValid_is HV.out _ hs).mono ?_
      rintro e w1 ⟨rfl, rfl⟩
      go_wp2_with fail
      refine (rFind_any a l n cap s _ Hn.out (by omega) (hl.kept (by (repeat' first | with_reducible assumption | exact Below.refl _ _ | with_reducible refine Below.drew ?_ | with_reducible refine Below.drewN ?_ _ | with_reducible refine Below.alloc' ?_ _ | with_reducible refine Below.setCell ?_ (by first | exact Nat.le_refl _ | omega | (simp; done) | (simp; omega)) _ | with_reducible refine Below.after ?_ ‹_›)))).mono ?_
      rintro e w2 ⟨rfl, hb2⟩
      rw [HF.out]
      generalize (findS l s).1 = i0 at *
      have hbx : Below w.heap.size w w2 := by (repeat' first | with_reducible assumption | exact Below.refl _ _ | with_reducible refine Below.drew ?_ | with_reducible refine Below.drewN ?_ _ | with_reducible refine Below.alloc' ?_ _ | with_reducible refine Below.setCell ?_ (by first | exact Nat.le_refl _ | omega | (simp; done) | (simp; omega)) _ | with_reducible refine Below.after ?_ ‹_›)
      have d0 := kept hb2 (p := ⟨w.heap.size, 0, none⟩) (v := .slice a n cap) (by simp [go_sem])
      have d1 := kept hb2 (p := ⟨w.heap.size + 1, 0, none⟩) (v := .slice none 0 0) (by simp [go_sem])
      have f1 := keptF hb2 (p := ⟨w.heap.size + 1, 0, none⟩) (v := .slice none 0 0) (by simp [go_sem]) (by simp [go_sem])
      have hl2 := hl.kept hbx
      go_wp2_with (at_builtin; refine wpList_append_strs rfl (.tmp 22) (.tmp 24) Try.underlying24 info_string rfl w2.heap.size (.slice none 0 0) 0 [] rfl (World.ownsRow_nil _ _ _ _) _ _ _ l rfl Hn.out hl2 (by omega) (Nat.le_refl _) ?_; intro v3 x3 o3 g3 _ _; rw [Nat.zero_add, List.nil_append] at o3; obtain ⟨a3, c3, rfl, hl3, hq3⟩ := own_strs o3; clear hl3 hq3; have hb3 : Below w2.heap.size w2 x3 := Below.grown (Below.refl _ _) g3 (Nat.le_refl _) (fun k hk => by simp [Value.ownBlock] at hk); have e0 := kept hb3 d0; have e1 := kept hb3 d1; have e2 := keptF hb3 d1 f1; clear g3)
      have hz2 := hb2.size
      simp at hz2
      have hz3 := hb3.size
      have hlt0 : w.heap.size < w2.heap.size := by omega
      have hlt1 : w.heap.size + 1 < w2.heap.size := by omega
      go_region_held3 (fun W => W.cell? ⟨w.heap.size, 0, none⟩ = some (.slice a n cap))
        (first | go_keep | assumption)
        (first | (refine step_append_strs rfl (.tmp 26) (.tmp 28) Try.underlying24 info_string rfl w2.heap.size _ n l rfl (by first | exact own_drew (o3.alloc _) | exact (own_drew o3).alloc _) _ _ _ [s] rfl rfl (Strs_one _ _ _ (by simp)) (by omega) (by simp; omega) ?_; intro v4 x4 o4 g4 _ _; obtain ⟨a4, c4, rfl, hl4, hq4⟩ := own_strs o4; clear hl4; have hb4 := Below.grown (Below.refl w2.heap.size _) g4 (by simp; omega) (fun k hk => (o3.lt k hk).1); have q0 := (hb4.cell (p := ⟨w.heap.size, 0, none⟩) hlt0).trans (cellD (cellA e0)); have q1 := (hb4.cell (p := ⟨w.heap.size + 1, 0, none⟩) hlt1).trans (cellD (cellA e1)); have q2 := (hb4.frozen (p := ⟨w.heap.size + 1, 0, none⟩) hlt1).trans (frozD (frozA e1 e2)); clear g4))
      all_goals
        have hfar : ∀ x, a4 = some x → w2.heap.size ≤ x.block ∧ x.block < x4.heap.size := own_far o4
        have hz4 := hb4.size
        simp at hz4
        go_wp2
        ((try simp only [Exit.inBlock, Exit.then]); refine bodyPost_ret (by simp [results, Try.results18, go_sem, *]; try rfl) rfl ?_)
        refine ⟨a4, c4, by rw [E.out, Hn.out, List.length_append, Hn.out]; rfl, ?_, fun x hx => Or.inr (by have := hfar x hx; simp; omega), ?_⟩
        · rw [E.out]
          exact strs_setCell hq4 (fun x hx => by have := hfar x hx; omega)
        · exact (hbx.trans ((hb3.mono hbx.size).trans (((Below.refl _ _).alloc (by have := hbx.size; omega) _).drew.trans (hb4.mono hbx.size)))).setCell (by simp) _
    · have E := Lib.hid (show addS l s = (l, 0, 6) by simp [addS, HV.out, hf])
      have HF := Lib.hid hf
      clear hf
      go_enter Try.func18, Try.ntmps18
      go_wp2_with fail
      refine (rValid_is HV.out _ hs).mono ?_
      rintro e w1 ⟨rfl, rfl⟩
      go_wp2_with fail
      refine (rFind_any a l n cap s _ Hn.out (by omega) (hl.kept (by (repeat' first | with_reducible assumption | exact Below.refl _ _ | with_reducible refine Below.drew ?_ | with_reducible refine Below.drewN ?_ _ | with_reducible refine Below.alloc' ?_ _ | with_reducible refine Below.setCell ?_ (by first | exact Nat.le_refl _ | omega | (simp; done) | (simp; omega)) _ | with_reducible refine Below.after ?_ ‹_›)))).mono ?_
      rintro e w2 ⟨rfl, hb2⟩
      rw [HF.out]
      generalize (findS l s).1 = i0 at *
      have hbx : Below w.heap.size w w2 := by (repeat' first | with_reducible assumption | exact Below.refl _ _ | with_reducible refine Below.drew ?_ | with_reducible refine Below.drewN ?_ _ | with_reducible refine Below.alloc' ?_ _ | with_reducible refine Below.setCell ?_ (by first | exact Nat.le_refl _ | omega | (simp; done) | (simp; omega)) _ | with_reducible refine Below.after ?_ ‹_›)
      have d0 := kept hb2 (p := ⟨w.heap.size, 0, none⟩) (v := .slice a n cap) (by simp [go_sem])
      have d1 := kept hb2 (p := ⟨w.heap.size + 1, 0, none⟩) (v := .slice none 0 0) (by simp [go_sem])
      have f1 := keptF hb2 (p := ⟨w.heap.size + 1, 0, none⟩) (v := .slice none 0 0) (by simp [go_sem]) (by simp [go_sem])
      go_wp2
      ((try simp only [Exit.inBlock, Exit.then]); refine bodyPost_ret (by simp [results, Try.results18, go_sem, *]; try rfl) rfl ?_)
      exact ⟨a, cap, by rw [E.out, Hn.out], by rw [E.out]; exact hl.kept (by (repeat' first | with_reducible assumption | exact Below.refl _ _ | with_reducible refine Below.drew ?_ | with_reducible refine Below.drewN ?_ _ | with_reducible refine Below.alloc' ?_ _ | with_reducible refine Below.setCell ?_ (by first | exact Nat.le_refl _ | omega | (simp; done) | (simp; omega)) _ | with_reducible refine Below.after ?_ ‹_›)), fun x hx => Or.inl hx, by (repeat' first | with_reducible assumption | exact Below.refl _ _ | with_reducible refine Below.drew ?_ | with_reducible refine Below.drewN ?_ _ | with_reducible refine Below.alloc' ?_ _ | with_reducible refine Below.setCell ?_ (by first | exact Nat.le_refl _ | omega | (simp; done) | (simp; omega)) _ | with_reducible refine Below.after ?_ ‹_›)⟩
end Go.Proofs.Yteemacgknmidaaa
