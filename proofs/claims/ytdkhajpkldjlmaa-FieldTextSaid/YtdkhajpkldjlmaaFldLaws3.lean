/-
  Walks over the laws of package field: Text.
-/
import Derived.Test.YtdkhajpkldjlmaaFldLaws2
namespace Go.Proofs.Ytdkhajpkldjlmaa
set_option linter.unusedVariables false
set_option linter.unusedSimpArgs false
open Go.RowKit

theorem text_keep {o s : List UInt8} {acc : List (List ByteArray)} {l : List ByteArray} (h : ∀ r, linesA [] [] (o ++ r) = linesA (acc.map B) [] r) (hj : joinL (B l) = (s, 0)) (hk : keepL s = true) : ∀ r, linesA [] [] ((o ++ s ++ [10]) ++ r) = linesA ((acc ++ [l]).map B) [] r := by
  intro r
  rw [show (o ++ s ++ [10]) ++ r = o ++ (s ++ 10 :: r) by simp, h, linesA_line (join_chars hj), hk, split_join hj]
  simp
theorem text_skip {o s : List UInt8} {acc : List (List ByteArray)} {l : List ByteArray} (h : ∀ r, linesA [] [] (o ++ r) = linesA (acc.map B) [] r) (hj : joinL (B l) = (s, 0)) (hk : keepL s = false) : ∀ r, linesA [] [] ((o ++ s ++ [10]) ++ r) = linesA (acc.map B) [] r := by
  intro r
  rw [show (o ++ s ++ [10]) ++ r = o ++ (s ++ 10 :: r) by simp, h, linesA_line (join_chars hj), hk]
  rfl
theorem ends_feed (x : List UInt8) : endsL (x ++ [10]) = true := by
  unfold endsL
  rw [List.getLast?_append]
  rfl
theorem text_lines {o : List UInt8} {acc : List (List ByteArray)} (h : ∀ r, linesA [] [] (o ++ r) = linesA (acc.map B) [] r) (he : endsL o = true) : linesL o = (acc.map B, 0) := by
  rw [linesL_yes he]
  have := h []
  rw [List.append_nil] at this
  rw [this]
  rfl
theorem data_two (a b : ByteArray) : (a ++ b ++ (⟨#[10]⟩ : ByteArray)).data.toList = a.data.toList ++ b.data.toList ++ [10] := by rw [data_app, data_app]
theorem size_two (a b : ByteArray) : (a ++ b ++ (⟨#[10]⟩ : ByteArray)).size = a.size + b.size + 1 := by
  rw [ByteArray.size_append, ByteArray.size_append]
  rfl
/-- the text without its last byte -/
theorem short_text (o : ByteArray) (h : 2 ≤ o.size) : ∃ h2 : o.size - 2 < o.size, endsL (o.data.toList.take (o.size - 1)) = decide ((o[o.size - 2]'h2).toNat = 10) := by
  refine ⟨by omega, ?_⟩
  unfold endsL
  have hl : o.data.toList.length = o.size := rfl
  have e : (o.data.toList.take (o.size - 1)).getLast? = some (o[o.size - 2]'(by omega)) := by
    rw [List.getLast?_eq_getElem?, List.length_take, hl, show min (o.size - 1) o.size - 1 = o.size - 2 by omega, List.getElem?_take, if_pos (by omega), List.getElem?_eq_getElem (by omega)]
    rfl
  rw [e]
structure Listed (w : World) (a : Option Addr) (ls : List (List ByteArray)) : Prop where
  rows : Strss w a ls
  lens : ∀ l ∈ ls, l.length ≤ maxLen ∧ ∀ s ∈ l, s.size ≤ maxLen

section
variable (K : FldCon)
include K
set_option maxRecDepth 100000 in
set_option maxHeartbeats 8000000 in
theorem fieldText_of (a : Option Addr) (ls : List (List ByteArray)) (n cap : Nat) (w : World) (hn : ls.length = n) (hb : n ≤ maxLen) (hL : Listed w a ls) :
    Calls Try.prog 9 #[.slice a n cap] w fun e w' => e = .returned (.bool true) ∧ Below w.heap.size w w' := by
  unfold maxLen at hb
  by_cases h1 : 20 < n
  · clear hn hL
    go_enter Try.func9, Try.ntmps9
    go_wp2_with fail
    refine (fldAwake_any K _).mono ?_
    rintro e w1 ⟨rfl, hb1⟩
    go_wp2
    go_ret
    exact ⟨rfl, hb1⟩
  · have h2 : n ≤ 20 := by omega
    have Hn := Lib.hid hn
    have hR := hL.rows
    have HLn := Lib.hid hL.lens
    clear h1 hn hL hb
    go_enter Try.func9, Try.ntmps9
    go_wp2
    go_loopw [3, 4, 5, 6, 7] (fun t v i _ _ wr => ∃ (k m : Nat) (o : ByteArray) (vals : List Value) (acc : List (List ByteArray)), k ≤ n ∧ m ≤ k ∧ i = .int .i64 k ∧ t = .string o ∧ o.size ≤ 1025 * k ∧ wr.ownsRow w.heap.size 23 1 v m vals ∧ Hid (Held wr v vals acc) ∧ Hid (∀ r, linesA [] [] (o.data.toList ++ r) = linesA (acc.map B) [] r) ∧ Hid (endsL o.data.toList = true) ∧ Hid (∀ x ∈ acc, x.length ≤ 1000000) ∧ Below w.heap.size w wr) (fun _ _ i _ _ _ => n - (intOf i).toNat)
    case atStart => exact ⟨0, 0, _, [], [], Nat.zero_le _, Nat.le_refl _, rfl, rfl, by decide, World.ownsRow_nil _ _ _ _, held_nil _ _, fun r => rfl, rfl, (fun x hx => by cases hx), Below.refl _ _⟩
    case round =>
      obtain ⟨k, m, o, vals, acc, hk, hmk, rfl, rfl, ho, hown, Hh, Hl, He, Hsm, hb⟩ := hrel
      by_cases hlt : k < n
      · have hkl : k < ls.length := by rw [Hn.out]; exact hlt
        obtain ⟨b, off, x, xn, xc, rfl, hc, hxn, hx⟩ := (hR.kept hb).at_ (k := k) hkl
        have hx0 : Strs w x (ls[k]?.getD []) := by
          obtain ⟨b2, off2, x2, xn2, xc2, e2, hc2, hxn2, hx2⟩ := hR.at_ (k := k) hkl
          obtain ⟨rfl, rfl⟩ : b = b2 ∧ off = off2 := by simpa using e2
          have h3 := kept hb hc2
          rw [hc] at h3
          obtain rfl : x = x2 := by
            have := Option.some.inj h3
            exact (Value.slice.inj this).1
          exact hx2
        obtain ⟨hl1, hl2⟩ := HLn.out (ls[k]?.getD []) (by rw [List.getElem?_eq_getElem hkl]; exact List.getElem_mem hkl)
        obtain ⟨l, hll⟩ : ∃ l, ls[k]?.getD [] = l := ⟨_, rfl⟩
        rw [hll] at hxn hx hx0 hl1 hl2
        have Hl2 := Lib.hid hl2
        have Hxn := Lib.hid hxn
        have hxnb : xn ≤ maxLen := by rw [← hxn]; exact hl1
        clear hll hkl hl1 hl2 hxn
        cases hg : greatB l
        · have HG := Lib.hid (great_is hg x xn xc wr Hxn.out hxnb hx Hl2.out)
          obtain ⟨h60, hsz2⟩ := great_no hg
          have Hsz2 := Lib.hid (show ∀ s ∈ l, s.size ≤ 1000000 from fun s hs => Nat.le_trans (hsz2 s hs) (by decide))
          rw [Hxn.out] at h60
          clear hg hsz2 hxnb
          obtain ⟨⟨L, e⟩, hr⟩ : ∃ r, joinL (B l) = r := ⟨_, rfl⟩
          obtain ⟨v2, hv2⟩ : ∃ v, ofL L = v := ⟨_, rfl⟩
          have HJ := Lib.hid (show joinL (B l) = (v2.data.toList, e) by rw [hr, ← hv2]; rfl)
          clear hr hv2
          by_cases he : e = 0
          · subst he
            have hvs : v2.size ≤ 1024 := by
              have h := join_line HJ.out
              have h1 : v2.size = v2.data.toList.length := rfl
              rw [h1, h.1]
              exact h.2.2
            have Hd := Lib.hid (data_two o v2)
            have Hz := Lib.hid (size_two o v2)
            have z1 : (o ++ v2).size = o.size + v2.size := ByteArray.size_append
            have HE2 := Lib.hid (show endsL (o ++ v2 ++ (⟨#[10]⟩ : ByteArray)).data.toList = true by rw [Hd.out]; exact ends_feed _)
            have Hkeep := Lib.hid (keep_is v2 v2.data.toList rfl)
            by_cases hz0 : v2.size = 0
            · have E := Lib.hid (show ∀ r, linesA [] [] ((o ++ v2 ++ (⟨#[10]⟩ : ByteArray)).data.toList ++ r) = linesA (acc.map B) [] r by
                rw [Hd.out]
                exact text_skip Hl.out HJ.out (Hkeep.out.1 hz0))
              obtain rfl := is_empty hz0
              clear hz0 hvs
              go_wp2_with fail
              refine HG.out.mono ?_
              rintro e w1 ⟨rfl, rfl⟩
              go_wp2_with fail
              refine (K.join_str (v := ⟨#[]⟩) HJ.out x xn xc _ Hxn.out (by omega) hx Hsz2.out).mono ?_
              rintro e w1 ⟨rfl, hb1⟩
              have hb1' : Below w.heap.size w w1 := hb.trans (hb1.mono hb.size)
              go_wp2
              go_roundw
              case rel => exact ⟨k + 1, m, _, vals, acc, by omega, by omega, by go_num, rfl, by have h := Hz.out; have e0 : (⟨#[]⟩ : ByteArray).size = 0 := rfl; rw [h, e0]; omega, own_kept hown hb1, Hh.out.kept hb1, E.out, HE2.out, Hsm.out, hb1'⟩
              case measure => simp [intOf]; omega
            · obtain ⟨d1, d2⟩ := ne_empty (s := v2) (by omega)
              have hv0 : 0 < v2.size := by omega
              obtain ⟨y, hy⟩ : ∃ y : Nat, (v2[0]'hv0).toNat = y := ⟨_, rfl⟩
              have Hy := Lib.hid hy
              clear hz0
              by_cases h35 : y = 35
              · have n1 : ((y : Int) != 35) = false := by simp; omega
                have E := Lib.hid (show ∀ r, linesA [] [] ((o ++ v2 ++ (⟨#[10]⟩ : ByteArray)).data.toList ++ r) = linesA (acc.map B) [] r by
                  rw [Hd.out]
                  exact text_skip Hl.out HJ.out (by rw [Hkeep.out.2 hv0, Hy.out, h35]; rfl))
                clear h35
                go_wp2_with fail
                refine HG.out.mono ?_
                rintro e w1 ⟨rfl, rfl⟩
                go_wp2_with fail
                refine (K.join_str (v := v2) HJ.out x xn xc _ Hxn.out (by omega) hx Hsz2.out).mono ?_
                rintro e w1 ⟨rfl, hb1⟩
                have hb1' : Below w.heap.size w w1 := hb.trans (hb1.mono hb.size)
                go_wp2
                go_roundw
                case rel => exact ⟨k + 1, m, _, vals, acc, by omega, by omega, by go_num, rfl, by rw [Hz.out]; omega, own_kept hown hb1, Hh.out.kept hb1, E.out, HE2.out, Hsm.out, hb1'⟩
                case measure => simp [intOf]; omega
              · have n1 : ((y : Int) != 35) = true := by simpa using (by omega : (y : Int) ≠ 35)
                have E := Lib.hid (show ∀ r, linesA [] [] ((o ++ v2 ++ (⟨#[10]⟩ : ByteArray)).data.toList ++ r) = linesA ((acc ++ [l]).map B) [] r by
                  rw [Hd.out]
                  exact text_keep Hl.out HJ.out (by rw [Hkeep.out.2 hv0, Hy.out, decide_eq_false h35]; rfl))
                have Hsm2 := Lib.hid (show ∀ z ∈ acc ++ [l], z.length ≤ 1000000 from fun z hz => by
                  rcases List.mem_append.1 hz with h | h
                  · exact Hsm.out z h
                  · rw [List.mem_singleton.1 h, Hxn.out]; omega)
                clear h35
                go_wp2_with fail
                refine HG.out.mono ?_
                rintro e w1 ⟨rfl, rfl⟩
                go_wp2_with fail
                refine (K.join_str (v := v2) HJ.out x xn xc _ Hxn.out (by omega) hx Hsz2.out).mono ?_
                rintro e w1 ⟨rfl, hb1⟩
                have hb1' : Below w.heap.size w w1 := hb.trans (hb1.mono hb.size)
                have hown1 := own_kept hown hb1
                have hc1 := kept hb1 hc
                go_wp2_with (at_builtin; refine wpList_append_val rfl (.tmp 49) (.tmp 54) Try.underlying33 info_strs rfl (by omega) rfl w.heap.size _ m vals rfl (hown1.alloc _) w1.heap.size 1 (.slice x xn xc) rfl (by simp [go_sem]) rfl (by omega) (by have := hb1'.size; simp; omega) ?_; intro v3 w3 o3 g3 e3)
                have hb3 : Below w.heap.size w w3 := below_grown hb1' g3 (own_base hown1)
                go_roundw
                case rel =>
                  refine ⟨k + 1, m + 1, _, _, acc ++ [l], by omega, by omega, by go_num, rfl, by rw [Hz.out]; omega, o3, ?_, E.out, HE2.out, Hsm2.out, hb3⟩
                  refine Held.more (Hh.out.kept hb1 |>.kept ((Below.refl _ w1).alloc (Nat.le_refl _) _)) g3 e3 Hxn.out ((hx.kept hb1).kept ((Below.refl _ w1).alloc (Nat.le_refl _) _)) (fun hne y hy e => ?_)
                  have h1 := strs_lt hx0 hne y hy
                  have h2 := own_base hown _ e
                  omega
                case measure => simp [intOf]; omega
          · have he0 : (e != 0) = true := by simpa using he
            clear he
            go_wp2_with fail
            refine HG.out.mono ?_
            rintro e w1 ⟨rfl, rfl⟩
            go_wp2_with fail
            refine (K.join_str (v := v2) HJ.out x xn xc _ Hxn.out (by omega) hx Hsz2.out).mono ?_
            rintro e w1 ⟨rfl, hb1⟩
            have hb1' : Below w.heap.size w w1 := hb.trans (hb1.mono hb.size)
            go_wp2
            go_roundw
            case rel => exact ⟨k + 1, m, o, vals, acc, by omega, by omega, by go_num, rfl, by omega, own_kept hown hb1, Hh.out.kept hb1, Hl.out, He.out, Hsm.out, hb1'⟩
            case measure => simp [intOf]; omega
        · have HG := Lib.hid (great_is hg x xn xc wr Hxn.out hxnb hx Hl2.out)
          clear hg
          unfold maxLen at hxnb
          go_wp2_with fail
          refine HG.out.mono ?_
          rintro e w1 ⟨rfl, rfl⟩
          go_wp2_with fail
          refine (fldAwake_any K _).mono ?_
          rintro e w1 ⟨rfl, hb1⟩
          go_wp2
          go_ret
          exact ⟨rfl, hb.trans (hb1.mono hb.size)⟩
      · have hkn : k ≤ 20 := by omega
        have HT := Lib.hid (text_lines Hl.out He.out)
        obtain ⟨v3, c3, rfl, hal, hss, -⟩ := own_strss hown Hh.out
        have Hal := Lib.hid hal
        have hm20 : m ≤ 20 := by omega
        have ho2 : o.size ≤ 20500 := by omega
        clear hal
        go_wp2_with fail
        refine (K.lines_is HT.out _ (by omega)).mono ?_
        rintro e w1 ⟨b1, c1, l1, rfl, hl1, hs1, -, hb1⟩
        obtain rfl : l1 = acc := (of_Bs hl1).trans (of_Bs rfl).symm
        clear hl1
        rw [Hal.out]
        go_wp2_with fail
        refine (rSames_is (l := l1) (m := l1) (r := true) (by simp) b1 v3 m c1 m c3 _ Hal.out Hal.out (by omega) (by omega) hs1 (hss.kept hb1) Hsm.out Hsm.out).mono ?_
        rintro e w2 ⟨rfl, hb2⟩
        have hb2' : Below w.heap.size w w2 := hb.trans ((hb1.trans (hb2.mono hb1.size)).mono hb.size)
        by_cases hz : o.size = 0
        · obtain rfl := is_empty hz
          clear hz
          go_wp2_with fail
          refine (fldAwake_any K _).mono ?_
          rintro e w3 ⟨rfl, hb3⟩
          go_wp2
          go_ret
          exact ⟨rfl, hb2'.trans (hb3.mono hb2'.size)⟩
        · obtain ⟨d1, d2⟩ := ne_empty (s := o) (by omega)
          obtain ⟨p, hp, hpz, hps⟩ := slice_to o (o.size - 1) (by omega)
          have Hp := Lib.hid hp
          have hsub : (o.size : Int) - 1 = ((o.size - 1 : Nat) : Int) := by omega
          have hpz2 : p.size ≤ 20500 := by omega
          obtain ⟨⟨R, f⟩, hr⟩ : ∃ r, linesL p.data.toList = r := ⟨_, rfl⟩
          have herr := lines_err p.data.toList
          rw [hr] at herr
          simp only [] at herr
          have HR := Lib.hid hr
          clear hr hp hpz
          by_cases h1 : o.size = 1
          · have hf : f = 0 := by
              have e1 : p.data.toList = [] := by rw [Hp.out, h1]; rfl
              have := HR.out
              rw [e1] at this
              exact ((Prod.mk.inj this).2).symm
            subst hf
            have i1 : ((o.size : Int) == 1) = true := by simp; omega
            clear herr hz h1
            go_wp2_with fail
            refine (K.lines_is HR.out _ (by omega)).mono ?_
            rintro e w3 ⟨b4, c4, l4, rfl, -, -, -, hb3⟩
            go_wp2_with fail
            refine (fldAwake_any K _).mono ?_
            rintro e w4 ⟨rfl, hb4⟩
            go_wp2
            go_ret
            exact ⟨rfl, hb2'.trans ((hb3.trans (hb4.mono hb3.size)).mono hb2'.size)⟩
          · have i1 : ((o.size : Int) == 1) = false := by simp; omega
            by_cases hf3 : f = 3
            · subst hf3
              have hR0 : R = [] := by rcases herr with h | h; exact absurd h (by decide); exact h
              subst hR0
              clear herr h1 hz
              go_wp2_with fail
              refine (K.lines_is HR.out _ (by omega)).mono ?_
              rintro e w3 ⟨b4, c4, l4, rfl, hl4, -, -, hb3⟩
              obtain rfl : l4 = [] := of_Bs hl4
              clear hl4
              go_wp2_with fail
              refine (fldAwake_any K _).mono ?_
              rintro e w4 ⟨rfl, hb4⟩
              go_wp2
              go_ret
              exact ⟨rfl, hb2'.trans ((hb3.trans (hb4.mono hb3.size)).mono hb2'.size)⟩
            · obtain ⟨q2, hq2⟩ := short_text o (by omega)
              have hq10 : (o[o.size - 2]'q2).toNat = 10 := by
                apply Classical.byContradiction
                intro hne
                rw [decide_eq_false hne] at hq2
                have h := HR.out
                rw [Hp.out, linesL_no hq2] at h
                exact hf3 ((Prod.mk.inj h).2).symm
              have f3 : (f == 3) = false := by simpa using hf3
              have hsub2 : (o.size : Int) - 2 = ((o.size - 2 : Nat) : Int) := by omega
              have g1 : ((o.size - 2 : Nat) : Int) < (o.size : Int) := by omega
              have g0 : (0 : Int) ≤ ((o.size - 2 : Nat) : Int) := by omega
              clear hq2 hf3 h1 hz
              by_cases hf0 : f = 0
              · subst hf0
                clear herr
                go_wp2_with fail
                refine (K.lines_is HR.out _ (by omega)).mono ?_
                rintro e w3 ⟨b4, c4, l4, rfl, -, -, -, hb3⟩
                go_wp2_with fail
                refine (fldAwake_any K _).mono ?_
                rintro e w4 ⟨rfl, hb4⟩
                go_wp2
                go_ret
                exact ⟨rfl, hb2'.trans ((hb3.trans (hb4.mono hb3.size)).mono hb2'.size)⟩
              · have hR0 : R = [] := by rcases herr with h | h; exact absurd h hf0; exact h
                subst hR0
                have f0 : (f == 0) = false := by simpa using hf0
                clear herr hf0
                go_wp2_with fail
                refine (K.lines_is HR.out _ (by omega)).mono ?_
                rintro e w3 ⟨b4, c4, l4, rfl, hl4, -, -, hb3⟩
                obtain rfl : l4 = [] := of_Bs hl4
                clear hl4
                go_wp2_with fail
                refine (fldAwake_any K _).mono ?_
                rintro e w4 ⟨rfl, hb4⟩
                go_wp2
                go_ret
                exact ⟨rfl, hb2'.trans ((hb3.trans (hb4.mono hb3.size)).mono hb2'.size)⟩
end
end Go.Proofs.Ytdkhajpkldjlmaa
