/-
  The contracts of the landed table: Add (whichever way the row goes, the old cells stay).
-/
import Derived.Test.YteemacgknmidaaaIdConA
import Derived.Test.YteemacgknmidaaaIdConV
import Derived.Test.YteemacgknmidaaaStrs2
namespace Go.Proofs.Yteemacgknmidaaa
set_option linter.unusedVariables false
set_option linter.unusedSimpArgs false
open Go.RowKit

theorem only_below {F : Nat → Prop} {w w' : World} (h : Below w.heap.size w w') : Only F w w' := ⟨h.os, h.tape, h.output, h.size, fun k hk _ => h.block k hk⟩
theorem only_grown {w w' : World} {row : Option Nat} (h : w.grownBy w' row) : Only (fun k => row = some k) w w' := ⟨h.os, h.tape, h.output, h.size, fun k hk hn => h.block k hk (fun e => hn e.symm)⟩
theorem only_alloc {F : Nat → Prop} (w : World) (o : Obj) : Only F w (w.alloc o) := only_below ((Below.refl _ w).alloc (Nat.le_refl _) o)
theorem only_set {w : World} (p : Addr) (v : Value) : Only (fun k => k = p.block) w (w.setCell p v) := ⟨rfl, rfl, rfl, by simp, fun k _ hn => Below.heap_setCell _ _ _ _ hn⟩
theorem Only.mono {F G : Nat → Prop} {w w' : World} (h : Only F w w') (hG : ∀ k, k < w.heap.size → F k → G k) : Only G w w' := ⟨h.os, h.tape, h.output, h.size, fun k hk hn => h.block k hk (fun hf => hn (hG k hk hf))⟩
theorem Only.trans {F : Nat → Prop} {a b c : World} (h : Only F a b) (k : Only (fun j => F j ∨ a.heap.size ≤ j) b c) : Only F a c :=
  ⟨k.os.trans h.os, k.tape.trans h.tape, k.output.trans h.output, Nat.le_trans h.size k.size, fun j hj hn => (k.block j (by have := h.size; omega) (fun e => e.elim hn (fun e => by omega))).trans (h.block j hj hn)⟩
theorem tabOf_on {w w' : World} {p : Addr} {l : List ByteArray} {F : Nat → Prop} (h : TabOf w p l F) (hb : Below w.heap.size w w') : TabOf w' p l F := tabOf_keep h hb.size (fun k hk => hb.block k (tabOf_lt h k hk))

/-- cells that Add leaves as they are -/
def KeptOld (w w' : World) (bp bm : Nat) (v : Value) (n : Nat) : Prop := ∀ (b k : Nat) (u : Value), w.cell? ⟨b, k, none⟩ = some u → b ≠ bp → b ≠ bm → (v.ownBlock = some b → k < n) → w'.cell? ⟨b, k, none⟩ = some u
/-- what Add does to a table -/
structure AddK (w : World) (bp bm : Nat) (v : Value) (l : List ByteArray) (s : ByteArray) (e : Ending) (w' : World) : Prop where
  res : e = .returned (.tuple #[.int .i64 (addS l s).2.1, .int .i64 (addS l s).2.2])
  tab : ∃ v' D', TabAt w' bp bm v' (addS l s).1 D' ∧ ∀ k, v'.ownBlock = some k → v.ownBlock = some k ∨ w.heap.size ≤ k
  only : Only (footOf bp bm v) w w'
  old : KeptOld w w' bp bm v l.length

set_option maxRecDepth 20000 in
set_option maxHeartbeats 4000000 in
theorem add_at (bp bm : Nat) (v : Value) (D : DataW Unit) (l : List ByteArray) (s : ByteArray) (w : World) (hT : TabAt w bp bm v l D) (hb : l.length ≤ 1000) (hs : s.size ≤ 9223372036854775807) :
    Calls Try.prog 17 #[.pointer (some ⟨bp, 0, none⟩), .string s] w (AddK w bp bm v l s) := by
  cases hv : idB s
  · have E := Lib.hid (show addS l s = (l, 0, 5) by simp [addS, hv])
    have HV := Lib.hid (valid_is hv w hs)
    clear hv
    go_enter Try.func17, Try.ntmps17
    go_wp2_with fail
    refine HV.out.mono ?_
    rintro e w1 ⟨rfl, rfl⟩
    go_wp2
    go_ret2
    exact ⟨by rw [E.out]; rfl, ⟨v, D, by rw [E.out]; exact hT, fun k hk => Or.inl hk⟩, only_below (Below.refl _ _), fun _ _ _ h _ _ _ => h⟩
  · have HV := Lib.hid (valid_is hv w hs)
    cases hf : (findS l s).2
    · have E := Lib.hid (show addS l s = (l ++ [s], (l.length : Int), 0) by simp [addS, hv, hf])
      have HF := Lib.hid (find_is (find_none_of hf) w hT hs)
      have Hput := Lib.hid (mapOf_put hT.of hf)
      have hkey : keyOf Try.prog 9 (.string s) = some (keyL s) := WideMaps.keyOf_string_mk Try.underlying9 (by unfold maxLen; omega)
      clear hv hf
      have hlt := tabOf_lt ⟨bp, bm, v, D, rfl, rfl, hT⟩
      obtain ⟨n, hn⟩ : ∃ n, l.length = n := ⟨_, rfl⟩
      have hrow := hT.row
      have hmap := hT.map
      rw [hn] at hrow hmap hb
      have Hn := Lib.hid hn
      obtain ⟨a, c, rfl, -, -⟩ := own_strs hrow
      have c0 := hT.names
      have c1 := hT.numbers
      have f0 := hT.nf
      have f1 := hT.mf
      have hpm := hT.pm
      have hrp := hT.rp
      have hrm := hT.rm
      have hpl : bp < w.heap.size := hlt bp (Or.inl rfl)
      have hml : bm < w.heap.size := hlt bm (Or.inr (Or.inl rfl))
      have hwf : (Lit.int .i64 (n : Int)).wf = true := WalkArith.wf_i64 (by omega)
      clear hT hn
      go_enter Try.func17, Try.ntmps17
      go_wp2_with fail
      refine HV.out.mono ?_
      rintro e w1 ⟨rfl, rfl⟩
      go_wp2_with fail
      refine HF.out.mono ?_
      rintro e w1 ⟨rfl, rfl⟩
      go_wp2_with (first
        | (at_mapUpdate; refine wpList_mapUpdate_own _ rfl _ _ _ 57 rfl 9 3 (Maps.string_keyed Try.underlying9) Try.underlying57 (plainElem Try.prog 3) bm n D rfl (hm3.setCell (a := ⟨bp, 0, none⟩) (Ne.symm hpm) _) (by unfold maxLen; omega) _ _ (keyL s) rfl rfl hkey (.lit (.int .i64 n)) [] (plainElem_int Try.underlying3 hwf) ?_; intro w5 hm5 hg5; have ho5 := only_grown hg5)
        | (at_builtin; refine wpList_append_strs2 rfl (.tmp 30) (.tmp 32) Try.underlying24 info_string rfl 0 (.slice a n c) n l rfl (hrow.alloc _) _ _ _ [s] rfl rfl (Strs_one _ _ _ (by simp)) (by omega) (by omega) (by omega) ?_; intro v3 w3 o3 g3 e3 k3; have ho3 := only_grown g3; have p0 := ho3.cell (p := ⟨bp, 0, none⟩) (v := .slice a n c) hrp (cellA c0); have p1 := ho3.cell (p := ⟨bp, 1, none⟩) (v := .map (some bm)) hrp (cellA c1); have q0 := ho3.frozen (p := ⟨bp, 0, none⟩) (v := .slice a n c) hrp (cellA c0) (frozA c0 f0); have q1 := ho3.frozen (p := ⟨bp, 1, none⟩) (v := .map (some bm)) hrp (cellA c1) (frozA c1 f1); have hm3 := (hmap.alloc (Obj.cells #[Value.string s] 9)).kept g3 (fun e => hrm e.symm); have hz3 := g3.size; obtain ⟨a3, c3, rfl, hl3, hq3⟩ := own_strs o3; clear hl3 hq3))
      go_ret2
      have E2 := E.out
      have Hp := Hput.out
      rw [Hn.out] at E2 Hp
      have hl1 : (l ++ [s]).length = n + 1 := by simp [Hn.out]
      simp at hz3
      have hnb : (Value.slice a3 (n + 1) c3).ownBlock ≠ some bp := fun e => by
        rcases e3 with h | h
        · exact hrp (h.symm.trans e)
        · rw [e] at h
          have := Option.some.inj h
          simp at this
          omega
      have hnm : (Value.slice a3 (n + 1) c3).ownBlock ≠ some bm := fun e => by
        rcases e3 with h | h
        · exact hrm (h.symm.trans e)
        · rw [e] at h
          have := Option.some.inj h
          simp at this
          omega
      have hB : Only (footOf bp bm (.slice a n c)) w (w.alloc (Obj.cells #[Value.string s] 9)) := only_alloc _ _
      have hC := hB.trans (ho3.mono (fun k _ e => Or.inl (Or.inr (Or.inr e))))
      have hD := hC.trans ((only_set ⟨bp, 0, none⟩ (.slice a3 (n + 1) c3)).mono (fun k _ e => Or.inl (Or.inl e)))
      have hE := hD.trans (ho5.mono (fun k _ e => Or.inl (Or.inr (Or.inl (Option.some.inj e).symm))))
      have r0 : (w3.setCell ⟨bp, 0, none⟩ (.slice a3 (n + 1) c3)).cell? ⟨bp, 0, none⟩ = some (.slice a3 (n + 1) c3) := World.cell?_setCell_same _ _ _ p0
      have r1 : (w3.setCell ⟨bp, 0, none⟩ (.slice a3 (n + 1) c3)).cell? ⟨bp, 1, none⟩ = some (.map (some bm)) := (World.cell?_setCell_other _ _ _ _ (by simp)).trans p1
      have hne : ¬ (some bm = some bp) := fun e => hpm (Option.some.inj e).symm
      refine ⟨by rw [E2]; rfl, ⟨.slice a3 (n + 1) c3, D.put (keyL s) (.lit (.int .i64 n)), ?_, ?_⟩, hE, ?_⟩
      · rw [E2]
        refine ⟨ho5.cell (p := ⟨bp, 0, none⟩) hne r0, ho5.cell (p := ⟨bp, 1, none⟩) hne r1, ho5.frozen (p := ⟨bp, 0, none⟩) hne r0 (by simpa using q0), ho5.frozen (p := ⟨bp, 1, none⟩) hne r1 (by simpa using q1), ?_, ?_, Hp, hpm, hnb, hnm⟩
        · rw [hl1]
          exact own_only (own_only o3 (only_set ⟨bp, 0, none⟩ _) (fun g hg e => hnb (hg.trans (congrArg some e)))) ho5 (fun g hg e => hnm (hg.trans e.symm))
        · rw [hl1]
          exact hm5
      · intro k hk
        rcases e3 with h | h
        · exact Or.inl (h.symm.trans hk)
        · rw [hk] at h
          have := Option.some.inj h
          simp at this
          exact Or.inr (by omega)
      · intro b k u hc h1 h2 h3
        rw [Hn.out] at h3
        refine ho5.cell (p := ⟨b, k, none⟩) (fun e => h2 (Option.some.inj e).symm) ?_
        exact (World.cell?_setCell_other _ _ _ _ (fun e => h1 (congrArg Addr.block e).symm)).trans (k3.out b k u (cellA hc) h3)
    · have HF' := find_at bp bm v D l s w hT hs
      obtain ⟨⟨i, r⟩, hi⟩ : ∃ y, findS l s = y := ⟨_, rfl⟩
      rw [hi] at hf HF'
      obtain rfl : r = true := hf
      have E := Lib.hid (show addS l s = (l, 0, 6) by simp [addS, hv, hi])
      have HF := Lib.hid HF'
      clear hv HF' hi
      go_enter Try.func17, Try.ntmps17
      go_wp2_with fail
      refine HV.out.mono ?_
      rintro e w1 ⟨rfl, rfl⟩
      go_wp2_with fail
      refine HF.out.mono ?_
      rintro e w1 ⟨rfl, rfl⟩
      go_wp2
      go_ret2
      exact ⟨by rw [E.out]; rfl, ⟨v, D, by rw [E.out]; exact hT, fun k hk => Or.inl hk⟩, only_below (Below.refl _ _), fun _ _ _ h _ _ _ => h⟩
theorem add_tab (p : Addr) (l : List ByteArray) (F : Nat → Prop) (s : ByteArray) (w : World) (hT : TabOf w p l F) (hb : l.length ≤ 1000) (hs : s.size ≤ 9223372036854775807) :
    Calls Try.prog 17 #[.pointer (some p), .string s] w (GivesAdd TabOf w p F (addS l s)) := by
  obtain ⟨bp, bm, v, D, rfl, rfl, hT⟩ := hT
  refine (add_at bp bm v D l s w hT hb hs).mono ?_
  rintro e w' ⟨rfl, ⟨v', D', hT', hv'⟩, ho, -⟩
  refine ⟨rfl, ⟨_, ⟨bp, bm, v', D', rfl, rfl, hT'⟩, ?_⟩, ho⟩
  rintro k (rfl | rfl | hk)
  · exact Or.inl (Or.inl rfl)
  · exact Or.inl (Or.inr (Or.inl rfl))
  · exact (hv' k hk).imp (fun h => Or.inr (Or.inr h)) id
end Go.Proofs.Yteemacgknmidaaa
