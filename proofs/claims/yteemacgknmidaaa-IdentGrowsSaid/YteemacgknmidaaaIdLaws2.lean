/-
  Walks over the laws of package ident: Grows.
-/
import Derived.Test.YteemacgknmidaaaIdLaws1
namespace Go.Proofs.Yteemacgknmidaaa
set_option linter.unusedVariables false
set_option linter.unusedSimpArgs false
open Go.RowKit

theorem addS_ok {l r : List ByteArray} {s : ByteArray} {i : Int} (h : addS l s = (r, i, 0)) : r = l ++ [s] ∧ i = l.length := by
  unfold addS at h
  split at h
  · split at h
    · simp at h
    · simp at h; exact ⟨h.1.symm, h.2.symm⟩
  · simp at h
theorem addS_bad {l r : List ByteArray} {s : ByteArray} {i x : Int} (h : addS l s = (r, i, x)) (hx : x ≠ 0) : r = l ∧ i = 0 := by
  unfold addS at h
  split at h
  · split at h
    · simp at h; exact ⟨h.1.symm, h.2.1.symm⟩
    · simp at h; omega
  · simp at h; exact ⟨h.1.symm, h.2.1.symm⟩
theorem newS_ok : ∀ (l acc r : List ByteArray), newS acc l = (r, 0) → r = acc ++ l
  | [], acc, r, h => by simp [newS] at h; simp [h]
  | s :: l, acc, r, h => by
    unfold newS at h
    split at h
    · rename_i h0
      obtain ⟨⟨r', i, x⟩, hy⟩ : ∃ y, addS acc s = y := ⟨_, rfl⟩
      rw [hy] at h h0
      simp only [] at h h0
      subst h0
      have h1 := (addS_ok hy).1
      have h2 := newS_ok l r' r h
      rw [h2, h1]
      simp
    · rename_i h0
      simp at h
      exact absurd h.2 h0
theorem newS_bad : ∀ (l acc r : List ByteArray) (x : Int), newS acc l = (r, x) → x ≠ 0 → r = []
  | [], acc, r, x, h, hx => by simp [newS] at h; omega
  | s :: l, acc, r, x, h, hx => by
    unfold newS at h
    split at h
    · exact newS_bad l _ r x h hx
    · simp at h; exact h.1
theorem newS_append : ∀ (l m acc : List ByteArray), newS acc (l ++ m) = if (newS acc l).2 = 0 then newS (newS acc l).1 m else newS acc l
  | [], m, acc => by simp [newS]
  | s :: l, m, acc => by
    rw [List.cons_append]
    rw [newS, newS]
    split
    · exact newS_append l m _
    · rename_i h; simp [h]
theorem newS_split (l acc : List ByteArray) (k : Nat) : newS acc l = if (newS acc (l.take k)).2 = 0 then newS (newS acc (l.take k)).1 (l.drop k) else newS acc (l.take k) := by
  have := newS_append (l.take k) (l.drop k) acc
  rwa [List.take_append_drop] at this

theorem strs_slice_to (a : Option Addr) (n cap k : Nat) (l : List ByteArray) (w : World) (hk : k ≤ cap) (hl : Strs w a l) :
    ∃ p, (∀ W, (Instr.slice 24 (.slice a n cap) none (some (.int .i64 (k : Int))) none).run Try.prog W = .ok (.slice p k cap) W) ∧ Strs w p (l.take k) := by
  have he : ∀ W, (sizeOf (Try.prog.elem 24)).run Try.prog W = .ok 1 W := by
    intro W
    rw [show Try.prog.elem 24 = 9 by kernel_rfl]
    exact Try.sizeOf9 W
  refine ⟨if cap = 0 then a else a.map (·.add 0), fun W => ?_, ?_⟩
  · rw [run_slice_h _ 24 _ _ _ Try.underlying24 .i64 (k : Int) (by omega) (by omega), he W]
    simp only [Result.andThen, sliced]
    simp
  · intro hne
    have hl' : l ≠ [] := by intro e; subst e; simp at hne
    obtain ⟨b, off, rfl, hc⟩ := hl hl'
    have e : (if cap = 0 then (some ⟨b, off, none⟩ : Option Addr) else (some ⟨b, off, none⟩ : Option Addr).map (·.add 0)) = some ⟨b, off, none⟩ := by
      split
      · rfl
      · simp [add_none]
    rw [e]
    exact strs_take (fun _ => ⟨b, off, rfl, hc⟩) k hne

section
variable {Tab : TabP} (K : IdCon Tab)
include K

set_option maxRecDepth 100000 in
set_option maxHeartbeats 8000000 in
theorem identGrows_of (a : Option Addr) (l : List ByteArray) (n cap : Nat) (t : Int) (w : World) (hn : l.length = n) (hl : Strs w a l) (hsz : ∀ s ∈ l, s.size ≤ maxLen) (hcap : n ≤ cap ∧ cap ≤ maxLen) :
    Calls Try.prog 9 #[.slice a n cap, .int .i64 t] w fun e w' => e = .returned (.bool true) ∧ Below w.heap.size w w' := by
  obtain ⟨hnc, hcm⟩ := hcap
  have Hn := Lib.hid hn
  have Hsz := Lib.hid hsz
  have Hsz2 := Lib.hid (show ∀ s ∈ l, s.size ≤ 9223372036854775807 from fun s hs => by have := hsz s hs; unfold maxLen at this; omega)
  clear hn hsz
  have hsh := short_any a l n cap 60 w Hn.out (by omega) Hsz.out hl (by omega)
  unfold maxLen at hcm
  cases hq : shortB l 60
  · rw [hq] at hsh
    have HS := Lib.hid hsh
    clear hsh hq
    go_enter Try.func9, Try.ntmps9
    go_wp2_with fail
    refine HS.out.mono ?_
    rintro e w1 ⟨rfl, rfl⟩
    go_wp2_with fail
    refine (idAwake_any K _).mono ?_
    rintro e w3 ⟨rfl, hb3⟩
    go_wp2
    go_ret
    exact ⟨rfl, by (repeat' first | with_reducible assumption | exact Below.refl _ _ | with_reducible refine Below.drew ?_ | with_reducible refine Below.drewN ?_ _ | with_reducible refine Below.alloc' ?_ _ | with_reducible refine Below.setCell ?_ (by first | exact Nat.le_refl _ | omega | (simp; done) | (simp; omega)) _ | with_reducible refine Below.after ?_ ‹_›)⟩
  · rw [hq] at hsh
    have HS := Lib.hid hsh
    have hn60 : n ≤ 60 := by
      unfold shortB at hq
      simp at hq
      have := hq.1
      rw [Hn.out] at this
      omega
    clear hsh hq
    by_cases h0 : t < 0
    · go_enter Try.func9, Try.ntmps9
      go_wp2_with fail
      refine HS.out.mono ?_
      rintro e w1 ⟨rfl, rfl⟩
      go_wp2_with fail
      refine (idAwake_any K _).mono ?_
      rintro e w3 ⟨rfl, hb3⟩
      go_wp2
      go_ret
      exact ⟨rfl, by (repeat' first | with_reducible assumption | exact Below.refl _ _ | with_reducible refine Below.drew ?_ | with_reducible refine Below.drewN ?_ _ | with_reducible refine Below.alloc' ?_ _ | with_reducible refine Below.setCell ?_ (by first | exact Nat.le_refl _ | omega | (simp; done) | (simp; omega)) _ | with_reducible refine Below.after ?_ ‹_›)⟩
    · by_cases h1 : (n : Int) < t
      · have h0' : 0 ≤ t := by omega
        clear h0
        go_enter Try.func9, Try.ntmps9
        go_wp2_with fail
        refine HS.out.mono ?_
        rintro e w1 ⟨rfl, rfl⟩
        go_wp2_with fail
        refine (idAwake_any K _).mono ?_
        rintro e w3 ⟨rfl, hb3⟩
        go_wp2
        go_ret
        exact ⟨rfl, by (repeat' first | with_reducible assumption | exact Below.refl _ _ | with_reducible refine Below.drew ?_ | with_reducible refine Below.drewN ?_ _ | with_reducible refine Below.alloc' ?_ _ | with_reducible refine Below.setCell ?_ (by first | exact Nat.le_refl _ | omega | (simp; done) | (simp; omega)) _ | with_reducible refine Below.after ?_ ‹_›)⟩
      · obtain ⟨k0, rfl⟩ := Int.eq_ofNat_of_zero_le (show 0 ≤ t by omega)
        have hk0 : k0 ≤ n := by omega
        have hk0' : (k0 : Int) ≤ (n : Int) := by omega
        clear h0 h1
        obtain ⟨p, hslice, hp⟩ := strs_slice_to a n cap k0 l w (by omega) hl
        have Htl := Lib.hid (show (l.take k0).length = k0 by rw [List.length_take, Hn.out]; omega)
        have Hts := Lib.hid (show ∀ s ∈ l.take k0, s.size ≤ 9223372036854775807 from fun s hs => Hsz2.out s (List.mem_of_mem_take hs))
        have hsplit := newS_split l [] k0
        obtain ⟨⟨r1, x1⟩, hr1⟩ : ∃ y, newS [] (l.take k0) = y := ⟨_, rfl⟩
        have herr1 := newS_err (l.take k0) []
        rw [hr1] at hsplit herr1
        simp only [] at hsplit herr1
        by_cases hx1 : x1 = 0
        · subst hx1
          have hr1' := newS_ok _ _ _ hr1
          rw [List.nil_append] at hr1'
          subst hr1'
          have HR1 := Lib.hid hr1
          obtain ⟨⟨r, x⟩, hr⟩ : ∃ y, newS [] l = y := ⟨_, rfl⟩
          have herr := newS_err l []
          rw [hr] at herr
          simp only [] at herr
          have HR := Lib.hid hr
          -- what an addition to the first k identifiers does
          have hadd : ∀ k, k < n → newS [] (l.take k) = (l.take k, 0) → (∃ i y, addS (l.take k) (l[k]?.getD ByteArray.empty) = (l.take (k + 1), i, y) ∧ y = 0 ∧ i = (k : Int) ∧ newS [] (l.take (k + 1)) = (l.take (k + 1), 0)) ∨
              (∃ y, addS (l.take k) (l[k]?.getD ByteArray.empty) = (l.take k, 0, y) ∧ y ≠ 0 ∧ x = y) := by
            intro k hk hok
            have hkl : k < l.length := by rw [Hn.out]; exact hk
            have et : l.take (k + 1) = l.take k ++ [l[k]?.getD ByteArray.empty] := by rw [List.take_add_one, List.getElem?_eq_getElem hkl]; rfl
            obtain ⟨⟨r', i, y⟩, hy⟩ : ∃ z, addS (l.take k) (l[k]?.getD ByteArray.empty) = z := ⟨_, rfl⟩
            have hs := newS_split l [] k
            rw [hok] at hs
            simp only [if_true] at hs
            rw [newS_step _ _ _ hkl, hy, hr] at hs
            simp only [] at hs
            by_cases hy0 : y = 0
            · subst hy0
              have := addS_ok hy
              refine Or.inl ⟨i, 0, by rw [hy, et, this.1], rfl, ?_, ?_⟩
              · rw [this.2, List.length_take]; omega
              · rw [et, newS_append, hok]
                simp only [if_true]
                rw [newS, hy]
                simp only [if_true]
                rw [this.1]; rfl
            · rw [if_neg hy0] at hs
              have := addS_bad hy hy0
              refine Or.inr ⟨y, by rw [hy, this.1, this.2], hy0, ?_⟩
              simpa using congrArg Prod.snd hs
          have HA := Lib.hid hadd
          clear hadd hsplit hr hr1
          by_cases hx : x = 0
          · subst hx
            have hrl := newS_ok _ _ _ HR.out
            rw [List.nil_append] at hrl
            subst hrl
            clear herr herr1
            go_enter Try.func9, Try.ntmps9
            go_wp2_with fail
            refine HS.out.mono ?_
            rintro e w1 ⟨rfl, rfl⟩
            go_wp2_with fail
            refine (K.new_yes HR.out a n cap _ Hn.out (by omega) hl Hsz2.out).mono ?_
            rintro e w2 ⟨pw, Fw, rfl, hTw, hFw, hb2⟩
            go_wp2_with fail
            refine (K.new_yes HR1.out p k0 cap _ Htl.out (by omega) (hp.kept hb2) Hts.out).mono ?_
            rintro e w3 ⟨pp, Fp, rfl, hTp, hFp, hb3⟩
            go_wp2
            go_loopw [9, 10, 11] (fun i _ _ wr => ∃ (k : Nat) (F : Nat → Prop), k ≤ n ∧ i = .int .i64 k ∧ Hid (newS [] (r.take k) = (r.take k, 0)) ∧ Tab wr pp (r.take k) F ∧ (∀ b, F b → w2.heap.size ≤ b) ∧ Below w2.heap.size w2 wr) (fun i _ _ _ => n - (intOf i).toNat)
            case atStart => exact ⟨k0, Fp, hk0, rfl, HR1, hTp, hFp, hb3⟩
            case round =>
              obtain ⟨k, F, hk, rfl, Hok, hT, hF, hbr⟩ := hrel
              by_cases hlt : k < n
              · have hbr0 : Below w.heap.size w wr := hb2.trans (hbr.mono hb2.size)
                obtain ⟨b', off, rfl, hc⟩ := (hl.kept hbr0).at_ (k := k) (by rw [Hn.out]; exact hlt)
                rcases HA.out k hlt Hok.out with ⟨i, y, hy, rfl, rfl, hok2⟩ | ⟨y, hy, hy0, e⟩
                · have hu := Hsz2.out (r[k]?.getD ByteArray.empty) (by
                    have hkl : k < r.length := by rw [Hn.out]; exact hlt
                    rw [List.getElem?_eq_getElem hkl]; exact List.getElem_mem hkl)
                  obtain ⟨u, hu2⟩ : ∃ u, r[k]?.getD ByteArray.empty = u := ⟨_, rfl⟩
                  rw [hu2] at hc hy hu
                  have HY := Lib.hid hy
                  have Hok2 := Lib.hid hok2
                  have Hbl := Lib.hid (show (r.take k).length ≤ 1000 by rw [List.length_take]; omega)
                  clear hu2 hy hok2
                  go_wp2_with fail
                  refine (K.add_is HY.out _ hT Hbl.out hu).mono ?_
                  rintro e w4 ⟨rfl, F', hT', hF', ho⟩
                  have hb4 : Below w2.heap.size wr w4 := ho.below hbr.size hF
                  go_wp2
                  go_roundw
                  case rel => exact ⟨k + 1, F', by omega, by go_num, Hok2, hT', (fun b hb => by rcases hF' b hb with h | h; exact hF b h; have := hbr.size; omega), hbr.trans hb4⟩
                  case measure => simp [intOf]; omega
                · exact absurd e.symm hy0
              · obtain ⟨W4, hW4⟩ : ∃ W4, W4 = wr := ⟨_, rfl⟩
                subst hW4
                have hkn : k = n := by omega
                subst hkn
                have etk : r.take k = r := List.take_of_length_le (by rw [Hn.out]; exact Nat.le_refl _)
                rw [etk] at hT
                have hTw4 := K.on hTw hbr
                have hbw : Below w.heap.size w W4 := hb2.trans (hbr.mono hb2.size)
                have Hbl := Lib.hid (show r.length ≤ 1000 by rw [Hn.out]; omega)
                go_wp2_with fail
                refine (K.len pw r Fw k _ hTw4 Hn.out (by omega)).mono ?_
                rintro e w5 ⟨rfl, hb5⟩
                go_wp2_with fail
                refine (K.len pp r F k _ (K.on hT hb5) Hn.out (by omega)).mono ?_
                rintro e w6 ⟨rfl, hb6⟩
                have hb56 : Below W4.heap.size W4 w6 := by (repeat' first | with_reducible assumption | exact Below.refl _ _ | with_reducible refine Below.drew ?_ | with_reducible refine Below.drewN ?_ _ | with_reducible refine Below.alloc' ?_ _ | with_reducible refine Below.setCell ?_ (by first | exact Nat.le_refl _ | omega | (simp; done) | (simp; omega)) _ | with_reducible refine Below.after ?_ ‹_›)
                go_wp2
                go_loopw [12, 13, 14, 15, 16] (fun i _ _ _ _ wx => ∃ j : Nat, j ≤ k ∧ i = .int .i64 j ∧ Below W4.heap.size W4 wx) (fun i _ _ _ _ _ => k - (intOf i).toNat)
                case atStart => exact ⟨0, Nat.zero_le _, rfl, hb56⟩
                case round =>
                  obtain ⟨j, hj, rfl, hbx⟩ := hrel
                  by_cases hlt2 : j < k
                  · have hjl : j < r.length := by rw [Hn.out]; exact hlt2
                    obtain ⟨b', off, rfl, hc⟩ := ((hl.kept hbw).kept hbx).at_ (k := j) hjl
                    have E1 := Lib.hid (show nameS r ((j : Nat) : Int) = (r[j]?.getD ByteArray.empty, true) by unfold nameS; rw [if_pos (by omega)]; rfl)
                    obtain ⟨u, hu2⟩ : ∃ u, r[j]?.getD ByteArray.empty = u := ⟨_, rfl⟩
                    rw [hu2] at hc E1
                    have hts : (u.toList == u.toList) = true := by simp
                    clear hu2
                    go_wp2_with fail
                    refine (K.name_is E1.out _ (K.on hTw4 hbx) Hbl.out).mono ?_
                    rintro e w7 ⟨rfl, hb7⟩
                    go_wp2_with fail
                    refine (K.name_is E1.out _ (K.on hT (by (repeat' first | with_reducible assumption | exact Below.refl _ _ | with_reducible refine Below.drew ?_ | with_reducible refine Below.drewN ?_ _ | with_reducible refine Below.alloc' ?_ _ | with_reducible refine Below.setCell ?_ (by first | exact Nat.le_refl _ | omega | (simp; done) | (simp; omega)) _ | with_reducible refine Below.after ?_ ‹_›))) Hbl.out).mono ?_
                    rintro e w8 ⟨rfl, hb8⟩
                    have hc2 := kept hb8 (kept hb7 hc)
                    go_wp2
                    go_roundw
                    case rel => exact ⟨j + 1, by omega, by go_num, by (repeat' first | with_reducible assumption | exact Below.refl _ _ | with_reducible refine Below.drew ?_ | with_reducible refine Below.drewN ?_ _ | with_reducible refine Below.alloc' ?_ _ | with_reducible refine Below.setCell ?_ (by first | exact Nat.le_refl _ | omega | (simp; done) | (simp; omega)) _ | with_reducible refine Below.after ?_ ‹_›)⟩
                    case measure => simp [intOf]; omega
                  · go_wp2_with fail
                    refine (idAwake_any K _).mono ?_
                    rintro e w9 ⟨rfl, hb9⟩
                    go_wp2
                    go_ret
                    exact ⟨rfl, hbw.trans ((hbx.trans (hb9.mono hbx.size)).mono hbw.size)⟩
          · have hxx : (x != 0) = true := by simpa using hx
            have HX := Lib.hid hx
            clear hx herr1
            go_enter Try.func9, Try.ntmps9
            go_wp2_with fail
            refine HS.out.mono ?_
            rintro e w1 ⟨rfl, rfl⟩
            go_wp2_with fail
            refine (K.new_no HR.out HX.out a n cap _ Hn.out (by omega) hl Hsz2.out).mono ?_
            rintro e w2 ⟨rfl, hb2⟩
            go_wp2_with fail
            refine (K.new_yes HR1.out p k0 cap _ Htl.out (by omega) (hp.kept hb2) Hts.out).mono ?_
            rintro e w3 ⟨pp, Fp, rfl, hTp, hFp, hb3⟩
            go_wp2
            go_loopw [9, 10, 11] (fun i _ _ wr => ∃ (k : Nat) (F : Nat → Prop), k ≤ n ∧ i = .int .i64 k ∧ Hid (newS [] (l.take k) = (l.take k, 0)) ∧ Tab wr pp (l.take k) F ∧ (∀ b, F b → w2.heap.size ≤ b) ∧ Below w2.heap.size w2 wr) (fun i _ _ _ => n - (intOf i).toNat)
            case atStart => exact ⟨k0, Fp, hk0, rfl, HR1, hTp, hFp, hb3⟩
            case round =>
              obtain ⟨k, F, hk, rfl, Hok, hT, hF, hbr⟩ := hrel
              have hbr0 : Below w.heap.size w wr := hb2.trans (hbr.mono hb2.size)
              by_cases hlt : k < n
              · obtain ⟨b', off, rfl, hc⟩ := (hl.kept hbr0).at_ (k := k) (by rw [Hn.out]; exact hlt)
                have hu := Hsz2.out (l[k]?.getD ByteArray.empty) (by
                  have hkl : k < l.length := by rw [Hn.out]; exact hlt
                  rw [List.getElem?_eq_getElem hkl]; exact List.getElem_mem hkl)
                have hcase := HA.out k hlt Hok.out
                obtain ⟨u, hu2⟩ : ∃ u, l[k]?.getD ByteArray.empty = u := ⟨_, rfl⟩
                rw [hu2] at hc hcase hu
                have Hbl := Lib.hid (show (l.take k).length ≤ 1000 by rw [List.length_take]; omega)
                clear hu2
                rcases hcase with ⟨i, y, hy, rfl, rfl, hok2⟩ | ⟨y, hy, hy0, rfl⟩
                · have HY := Lib.hid hy
                  have Hok2 := Lib.hid hok2
                  clear hy hok2
                  go_wp2_with fail
                  refine (K.add_is HY.out _ hT Hbl.out hu).mono ?_
                  rintro e w4 ⟨rfl, F', hT', hF', ho⟩
                  have hb4 : Below w2.heap.size wr w4 := ho.below hbr.size hF
                  go_wp2
                  go_roundw
                  case rel => exact ⟨k + 1, F', by omega, by go_num, Hok2, hT', (fun b hb => by rcases hF' b hb with h | h; exact hF b h; have := hbr.size; omega), hbr.trans hb4⟩
                  case measure => simp [intOf]; omega
                · have HY := Lib.hid hy
                  clear hy hy0
                  go_wp2_with fail
                  refine (K.add_is HY.out _ hT Hbl.out hu).mono ?_
                  rintro e w4 ⟨rfl, F', hT', hF', ho⟩
                  have hb4 : Below w2.heap.size wr w4 := ho.below hbr.size hF
                  have hb5 : Below w.heap.size w w4 := hb2.trans ((hbr.trans hb4).mono hb2.size)
                  go_wp2_with fail
                  refine (idAwake_any K _).mono ?_
                  rintro e w9 ⟨rfl, hb9⟩
                  go_wp2
                  go_ret
                  exact ⟨rfl, hb5.trans (hb9.mono hb5.size)⟩
              · exfalso
                have h := Hok.out
                rw [List.take_of_length_le (by rw [Hn.out]; omega), HR.out] at h
                exact HX.out (congrArg Prod.snd h)
        · have hx1' : (x1 != 0) = true := by simpa using hx1
          rw [if_neg hx1] at hsplit
          have HR1 := Lib.hid hr1
          have HR := Lib.hid (show newS [] l = (r1, x1) from hsplit)
          have HX := Lib.hid hx1
          clear hx1 hsplit hr1
          go_enter Try.func9, Try.ntmps9
          go_wp2_with fail
          refine HS.out.mono ?_
          rintro e w1 ⟨rfl, rfl⟩
          go_wp2_with fail
          refine (K.new_no HR.out HX.out a n cap _ Hn.out (by omega) hl Hsz2.out).mono ?_
          rintro e w2 ⟨rfl, hb2⟩
          go_wp2_with fail
          refine (K.new_no HR1.out HX.out p k0 cap _ Htl.out (by omega) (hp.kept hb2) Hts.out).mono ?_
          rintro e w3 ⟨rfl, hb3⟩
          go_wp2_with fail
          refine (idAwake_any K _).mono ?_
          rintro e w9 ⟨rfl, hb9⟩
          go_wp2
          go_ret
          exact ⟨rfl, by (repeat' first | with_reducible assumption | exact Below.refl _ _ | with_reducible refine Below.drew ?_ | with_reducible refine Below.drewN ?_ _ | with_reducible refine Below.alloc' ?_ _ | with_reducible refine Below.setCell ?_ (by first | exact Nat.le_refl _ | omega | (simp; done) | (simp; omega)) _ | with_reducible refine Below.after ?_ ‹_›)⟩
end
end Go.Proofs.Yteemacgknmidaaa
