/-
  The contract of the landed package field: Lines.
-/
import Derived.Test.YtdkhajpkldjlmaaDoorFldConD
namespace Go.Proofs.YtdkhajpkldjlmaaDoor
set_option linter.unusedVariables false
set_option linter.unusedSimpArgs false
open Go.RowKit

theorem linesP_yes {s : List UInt8} (h : endsL s = true) : linesL s = linesA [] [] s := by unfold linesL; rw [if_pos h]
theorem linesP_no {s : List UInt8} (h : endsL s = false) : linesL s = ([], 3) := by unfold linesL; rw [h]; rfl
theorem cut_line {t : List UInt8} (hne : t ≠ []) (he : endsL t = true) : t = t.takeWhile (notB 10) ++ 10 :: (t.dropWhile (notB 10)).tail ∧ (∀ c ∈ t.takeWhile (notB 10), c.toNat ≠ 10) ∧ endsL (t.dropWhile (notB 10)).tail = true := by
  have hall : ∀ c ∈ t.takeWhile (notB 10), c.toNat ≠ 10 := fun c hc => by
    have h2 := List.all_eq_true.1 (List.all_takeWhile (p := notB 10) (l := t)) c hc
    intro e
    obtain rfl : c = 10 := UInt8.toNat_inj.1 e
    simp [notB] at h2
  have hsplit : t = t.takeWhile (notB 10) ++ t.dropWhile (notB 10) := (List.takeWhile_append_dropWhile).symm
  cases hd : t.dropWhile (notB 10) with
  | nil =>
    rw [hd, List.append_nil] at hsplit
    rw [← hsplit] at hall
    unfold endsL at he
    cases hl : t.getLast? with
    | none => exact absurd (List.getLast?_eq_none_iff.1 hl) hne
    | some c =>
      rw [hl] at he
      exact absurd (by simpa using he) (hall c (List.mem_of_getLast? hl))
  | cons c r =>
    have hc : notB 10 c = false := by
      have h1 := List.head_dropWhile_not (p := notB 10) (l := t) (by rw [hd]; simp)
      simpa [hd] using h1
    have hc10 : c = 10 := by simpa [notB] using hc
    subst hc10
    refine ⟨?_, hall, ?_⟩
    · rw [hd] at hsplit; exact hsplit
    · show endsL r = true
      cases r with
      | nil => rfl
      | cons x q =>
        unfold endsL at he ⊢
        rw [hsplit, hd] at he
        have e2 : (List.takeWhile (notB 10) t ++ 10 :: x :: q).getLast? = (x :: q).getLast? := by
          rw [show List.takeWhile (notB 10) t ++ 10 :: x :: q = (List.takeWhile (notB 10) t ++ [10]) ++ (x :: q) by simp, List.getLast?_append]
          have : ((x :: q).getLast?).isSome = true := by simp
          obtain ⟨z, hz⟩ := Option.isSome_iff_exists.1 this
          rw [hz]
          rfl
        rwa [e2] at he
theorem suffix_yes {s : ByteArray} {r : Bool} (h : Lib.hasSuffix s.data.toList [10] = r) (w : World) (hs : s.size ≤ 1000000) :
    Calls Tryd.prog 20 #[.string s, .string ⟨#[10]⟩] w fun e w' => e = .returned (.bool r) ∧ w = w' := by
  have := suffix_any s w hs
  rwa [h] at this
theorem split_is {s : ByteArray} {r : List (List UInt8) × Int} (h : splitL s.data.toList = r) (w : World) (hs : s.size ≤ 1000000) : Calls Tryd.prog 10 #[.string s] w (GivesStrs w r) := by
  have := split_any s w hs
  rwa [h] at this

set_option maxRecDepth 20000 in
set_option maxHeartbeats 8000000 in
theorem lines_any (s : ByteArray) (w : World) (hs : s.size ≤ 900000) :
    Calls Tryd.prog 12 #[.string s] w (GivesStrss w (linesL s.data.toList)) := by
  obtain ⟨R, hR⟩ : ∃ R, linesL s.data.toList = R := ⟨_, rfl⟩
  have HR := Lib.hid hR
  rw [hR]
  clear hR
  cases hE : endsL s.data.toList
  · have h0 : 0 < s.size := by
      rcases Nat.eq_zero_or_pos s.size with h | h
      · rw [is_empty h] at hE; cases hE
      · exact h
    have HS := Lib.hid (suffix_yes (show Lib.hasSuffix s.data.toList [10] = false by rw [suffix_is s h0, hE]) w (by omega))
    have E := Lib.hid (show R = ([], 3) by rw [← HR.out, linesP_no hE])
    obtain ⟨e1, e2⟩ := ne_empty h0
    clear h0 hE
    go_enter Tryd.func12, Tryd.ntmps12
    go_wp2_with fail
    ((with_reducible refine HS.out.mono ?_))
    rintro e w1 ⟨rfl, rfl⟩
    go_wp2
    go_ret2
    rw [E.out]
    exact ⟨none, 0, [], rfl, rfl, fun h => absurd rfl h, (fun x hx => by cases hx), Below.refl _ _⟩
  · have HA := Lib.hid (show linesA [] [] s.data.toList = R by rw [← HR.out, linesP_yes hE])
    have HEnd := Lib.hid hE
    by_cases h0 : s.size = 0
    · have e1 : s.toList.isEmpty = true := by rw [ByteArray.toList_eq, is_empty h0]; rfl
      have e2 : (s.toList == []) = true := by rw [ByteArray.toList_eq, is_empty h0]; rfl
      clear h0 hE
      go_enter Tryd.func12, Tryd.ntmps12
      go_wp2
      clear e1 e2
      go_loopw [4, 5, 6, 7, 8] (fun v r _ _ _ wr => ∃ (t : ByteArray) (n : Nat) (vals : List Value) (acc : List (List ByteArray)), r = .string t ∧ n + t.size ≤ s.size ∧ wr.ownsRow w.heap.size 31 1 v n vals ∧ Hid (Held wr v vals acc) ∧ Hid (linesA (acc.map B) [] t.data.toList = R) ∧ Hid (endsL t.data.toList = true) ∧ Below w.heap.size w wr) (fun _ r _ _ _ _ => lenOf r)
      case atStart => exact ⟨s, 0, [], [], rfl, by omega, World.ownsRow_nil _ _ _ _, held_nil _ _, HA.out, HEnd.out, Below.refl _ _⟩
      case round =>
        obtain ⟨t, n, vals, acc, rfl, hnk, hown, Hh, Hl, He, hb⟩ := hrel
        by_cases h0 : t.size = 0
        · have e1 : t.toList.isEmpty = true := by rw [ByteArray.toList_eq, is_empty h0]; rfl
          have e2 : (t.toList == []) = true := by rw [ByteArray.toList_eq, is_empty h0]; rfl
          have E := Lib.hid (show R = (acc.map B, 0) by
            rw [← Hl.out, is_empty h0]; rfl)
          obtain ⟨a, c, rfl, hl, hss, hfar⟩ := own_strss hown Hh.out
          have Hl2 := Lib.hid hl
          have Hss := Lib.hid hss
          have Hfar := Lib.hid hfar
          clear hl hss hfar h0
          go_wp2
          go_ret2
          rw [E.out]
          exact ⟨a, c, acc, by rw [Hl2.out]; rfl, rfl, Hss.out, Hfar.out, hb⟩
        · obtain ⟨e1, e2⟩ := ne_empty (s := t) (by omega)
          have hne : t.data.toList ≠ [] := fun e => by
            have h3 : t.data.toList.length = t.size := rfl
            rw [e] at h3
            simp at h3
            omega
          obtain ⟨c1, c2, c3⟩ := cut_line hne He.out
          obtain ⟨a, ha⟩ : ∃ a, ofL (t.data.toList.takeWhile (notB 10)) = a := ⟨_, rfl⟩
          obtain ⟨u, hu⟩ : ∃ u, ofL (t.data.toList.dropWhile (notB 10)).tail = u := ⟨_, rfl⟩
          have HC := Lib.hid (cut_is ha hu wr (by omega))
          have ha' : t.data.toList.takeWhile (notB 10) = a.data.toList := by rw [← ha]; rfl
          have hu' : (t.data.toList.dropWhile (notB 10)).tail = u.data.toList := by rw [← hu]; rfl
          rw [ha', hu'] at c1
          rw [ha'] at c2
          rw [hu'] at c3
          have C3 := Lib.hid c3
          have hlen : a.size + 1 + u.size = t.size := by
            have h3 : t.data.toList.length = t.size := rfl
            have h4 := congrArg List.length c1
            simp at h4
            have h5 : t.data.size = t.size := rfl
            have h6 : a.data.size = a.size := rfl
            have h7 : u.data.size = u.size := rfl
            omega
          have Hf := Lib.hid (show R = if keepL a.data.toList then (if (splitL a.data.toList).2 = 0 then linesA (acc.map B ++ [(splitL a.data.toList).1]) [] u.data.toList else ([], (splitL a.data.toList).2)) else linesA (acc.map B) [] u.data.toList by
            rw [← Hl.out, c1, linesA_line c2])
          obtain ⟨hk0, hk1⟩ := keep_is a _ rfl
          have Hk0 := Lib.hid hk0
          have Hk1 := Lib.hid hk1
          clear h0 hne c1 c2 c3 ha hu ha' hu' hk0 hk1
          go_wp2_with fail
          ((with_reducible refine HC.out.mono ?_))
          rintro e w1 ⟨bb, rfl, hb1⟩
          have hown1 := own_kept hown hb1
          have hb1' : Below w.heap.size w w1 := hb.trans (hb1.mono hb.size)
          have Hh1 := Lib.hid (Hh.out.kept hb1)
          clear e1 e2
          by_cases hz0 : a.size = 0
          · have E := Lib.hid (show linesA (acc.map B) [] u.data.toList = R by rw [Hf.out, Hk0.out hz0]; rfl)
            have d1 : a.toList.isEmpty = true := by rw [ByteArray.toList_eq, is_empty hz0]; rfl
            have d2 : (a.toList == []) = true := by rw [ByteArray.toList_eq, is_empty hz0]; rfl
            clear hz0
            go_wp2
            go_roundw
            case rel => exact ⟨u, n, vals, acc, rfl, by omega, hown1, Hh1.out, E.out, C3.out, hb1'⟩
            case measure => simp [lenOf]; omega
          · obtain ⟨d1, d2⟩ := ne_empty (s := a) (by omega)
            have ha0 : 0 < a.size := by omega
            obtain ⟨x, hx⟩ : ∃ y : Nat, (a[0]'ha0).toNat = y := ⟨_, rfl⟩
            have Hx := Lib.hid hx
            clear hz0
            by_cases h35 : x = 35
            · have n2 : ((x : Int) == 35) = true := by simp; omega
              have E := Lib.hid (show linesA (acc.map B) [] u.data.toList = R by
                rw [Hf.out, Hk1.out ha0, Hx.out, h35]; rfl)
              clear h35
              go_wp2
              go_roundw
              case rel => exact ⟨u, n, vals, acc, rfl, by omega, hown1, Hh1.out, E.out, C3.out, hb1'⟩
              case measure => simp [lenOf]; omega
            · have n2 : ((x : Int) == 35) = false := by simp; omega
              have Hf2 := Lib.hid (show R = if (splitL a.data.toList).2 = 0 then linesA (acc.map B ++ [(splitL a.data.toList).1]) [] u.data.toList else ([], (splitL a.data.toList).2) by
                rw [Hf.out, Hk1.out ha0, Hx.out, decide_eq_false h35]; rfl)
              clear h35
              obtain ⟨⟨L, e⟩, hsp⟩ : ∃ z, splitL a.data.toList = z := ⟨_, rfl⟩
              have hse := split_err (s := a.data.toList)
              have HS := Lib.hid (split_is hsp w1 (by omega))
              rw [hsp] at Hf2 hse
              simp only [] at hse
              have hee : 0 ≤ e ∧ e ≤ 8 := by omega
              clear hsp hse
              go_wp2_with fail
              ((with_reducible refine HS.out.mono ?_))
              rintro ee w2 ⟨b, c, l, rfl, hbl, hst, hfar, hb2⟩
              have HBL := Lib.hid hbl
              have Hst := Lib.hid hst
              have Hfar := Lib.hid hfar
              obtain ⟨m, hm⟩ : ∃ m, l.length = m := ⟨_, rfl⟩
              rw [hm]
              have Hm := Lib.hid hm
              have hown2 := own_kept hown1 hb2
              have hb2' : Below w.heap.size w w2 := hb1'.trans (hb2.mono hb1'.size)
              clear hbl hst hfar hm hown
              by_cases hx0 : e = 0
              · subst hx0
                have E := Lib.hid (show linesA ((acc ++ [l]).map B) [] u.data.toList = R by
                  have h1 : B l = L := HBL.out
                  rw [Hf2.out, List.map_append, List.map_cons, List.map_nil, h1]
                  rfl)
                go_wp2_with (at_builtin; refine wpList_append_val rfl (.tmp 40) (.tmp 42) Tryd.underlying36 info_strs rfl (by omega) rfl w.heap.size _ n vals rfl (hown2.alloc _) w2.heap.size 1 (.slice b m c) rfl (by simp [go_sem]) rfl (by omega) (by have := hb2'.size; simp; omega) ?_; intro v3 w3 o3 g3 e3)
                have hb3 : Below w.heap.size w w3 := below_grown hb2' g3 (own_base hown2)
                go_roundw
                case rel =>
                  refine ⟨u, n + 1, _, acc ++ [l], rfl, by omega, o3, ?_, E.out, C3.out, hb3⟩
                  have hsz := hb1.size
                  refine Held.more (Hh1.out.kept hb2 |>.kept ((Below.refl _ w2).alloc (Nat.le_refl _) _)) g3 e3 Hm.out (Hst.out.kept ((Below.refl _ w2).alloc (Nat.le_refl _) _)) (fun _ y hy => own_apart hown1 (Hfar.out y hy).1)
                case measure => simp [lenOf]; omega
              · have hx1 : (e != 0) = true := by simpa using hx0
                have E := Lib.hid (show R = ([], e) by rw [Hf2.out]; exact if_neg hx0)
                clear hx0
                go_wp2
                go_ret2
                rw [E.out]
                exact ⟨none, 0, [], rfl, rfl, fun h => absurd rfl h, (fun x hx => by cases hx), hb2'⟩
    · have HS := Lib.hid (suffix_yes (show Lib.hasSuffix s.data.toList [10] = true by rw [suffix_is s (by omega), hE]) w (by omega))
      obtain ⟨e1, e2⟩ := ne_empty (s := s) (by omega)
      clear h0 hE
      go_enter Tryd.func12, Tryd.ntmps12
      go_wp2_with fail
      ((with_reducible refine HS.out.mono ?_))
      rintro e w1 ⟨rfl, rfl⟩
      go_wp2
      clear e1 e2
      go_loopw [4, 5, 6, 7, 8] (fun v r _ _ _ wr => ∃ (t : ByteArray) (n : Nat) (vals : List Value) (acc : List (List ByteArray)), r = .string t ∧ n + t.size ≤ s.size ∧ wr.ownsRow w.heap.size 31 1 v n vals ∧ Hid (Held wr v vals acc) ∧ Hid (linesA (acc.map B) [] t.data.toList = R) ∧ Hid (endsL t.data.toList = true) ∧ Below w.heap.size w wr) (fun _ r _ _ _ _ => lenOf r)
      case atStart => exact ⟨s, 0, [], [], rfl, by omega, World.ownsRow_nil _ _ _ _, held_nil _ _, HA.out, HEnd.out, Below.refl _ _⟩
      case round =>
        obtain ⟨t, n, vals, acc, rfl, hnk, hown, Hh, Hl, He, hb⟩ := hrel
        by_cases h0 : t.size = 0
        · have e1 : t.toList.isEmpty = true := by rw [ByteArray.toList_eq, is_empty h0]; rfl
          have e2 : (t.toList == []) = true := by rw [ByteArray.toList_eq, is_empty h0]; rfl
          have E := Lib.hid (show R = (acc.map B, 0) by
            rw [← Hl.out, is_empty h0]; rfl)
          obtain ⟨a, c, rfl, hl, hss, hfar⟩ := own_strss hown Hh.out
          have Hl2 := Lib.hid hl
          have Hss := Lib.hid hss
          have Hfar := Lib.hid hfar
          clear hl hss hfar h0
          go_wp2
          go_ret2
          rw [E.out]
          exact ⟨a, c, acc, by rw [Hl2.out]; rfl, rfl, Hss.out, Hfar.out, hb⟩
        · obtain ⟨e1, e2⟩ := ne_empty (s := t) (by omega)
          have hne : t.data.toList ≠ [] := fun e => by
            have h3 : t.data.toList.length = t.size := rfl
            rw [e] at h3
            simp at h3
            omega
          obtain ⟨c1, c2, c3⟩ := cut_line hne He.out
          obtain ⟨a, ha⟩ : ∃ a, ofL (t.data.toList.takeWhile (notB 10)) = a := ⟨_, rfl⟩
          obtain ⟨u, hu⟩ : ∃ u, ofL (t.data.toList.dropWhile (notB 10)).tail = u := ⟨_, rfl⟩
          have HC := Lib.hid (cut_is ha hu wr (by omega))
          have ha' : t.data.toList.takeWhile (notB 10) = a.data.toList := by rw [← ha]; rfl
          have hu' : (t.data.toList.dropWhile (notB 10)).tail = u.data.toList := by rw [← hu]; rfl
          rw [ha', hu'] at c1
          rw [ha'] at c2
          rw [hu'] at c3
          have C3 := Lib.hid c3
          have hlen : a.size + 1 + u.size = t.size := by
            have h3 : t.data.toList.length = t.size := rfl
            have h4 := congrArg List.length c1
            simp at h4
            have h5 : t.data.size = t.size := rfl
            have h6 : a.data.size = a.size := rfl
            have h7 : u.data.size = u.size := rfl
            omega
          have Hf := Lib.hid (show R = if keepL a.data.toList then (if (splitL a.data.toList).2 = 0 then linesA (acc.map B ++ [(splitL a.data.toList).1]) [] u.data.toList else ([], (splitL a.data.toList).2)) else linesA (acc.map B) [] u.data.toList by
            rw [← Hl.out, c1, linesA_line c2])
          obtain ⟨hk0, hk1⟩ := keep_is a _ rfl
          have Hk0 := Lib.hid hk0
          have Hk1 := Lib.hid hk1
          clear h0 hne c1 c2 c3 ha hu ha' hu' hk0 hk1
          go_wp2_with fail
          ((with_reducible refine HC.out.mono ?_))
          rintro e w1 ⟨bb, rfl, hb1⟩
          have hown1 := own_kept hown hb1
          have hb1' : Below w.heap.size w w1 := hb.trans (hb1.mono hb.size)
          have Hh1 := Lib.hid (Hh.out.kept hb1)
          clear e1 e2
          by_cases hz0 : a.size = 0
          · have E := Lib.hid (show linesA (acc.map B) [] u.data.toList = R by rw [Hf.out, Hk0.out hz0]; rfl)
            have d1 : a.toList.isEmpty = true := by rw [ByteArray.toList_eq, is_empty hz0]; rfl
            have d2 : (a.toList == []) = true := by rw [ByteArray.toList_eq, is_empty hz0]; rfl
            clear hz0
            go_wp2
            go_roundw
            case rel => exact ⟨u, n, vals, acc, rfl, by omega, hown1, Hh1.out, E.out, C3.out, hb1'⟩
            case measure => simp [lenOf]; omega
          · obtain ⟨d1, d2⟩ := ne_empty (s := a) (by omega)
            have ha0 : 0 < a.size := by omega
            obtain ⟨x, hx⟩ : ∃ y : Nat, (a[0]'ha0).toNat = y := ⟨_, rfl⟩
            have Hx := Lib.hid hx
            clear hz0
            by_cases h35 : x = 35
            · have n2 : ((x : Int) == 35) = true := by simp; omega
              have E := Lib.hid (show linesA (acc.map B) [] u.data.toList = R by
                rw [Hf.out, Hk1.out ha0, Hx.out, h35]; rfl)
              clear h35
              go_wp2
              go_roundw
              case rel => exact ⟨u, n, vals, acc, rfl, by omega, hown1, Hh1.out, E.out, C3.out, hb1'⟩
              case measure => simp [lenOf]; omega
            · have n2 : ((x : Int) == 35) = false := by simp; omega
              have Hf2 := Lib.hid (show R = if (splitL a.data.toList).2 = 0 then linesA (acc.map B ++ [(splitL a.data.toList).1]) [] u.data.toList else ([], (splitL a.data.toList).2) by
                rw [Hf.out, Hk1.out ha0, Hx.out, decide_eq_false h35]; rfl)
              clear h35
              obtain ⟨⟨L, e⟩, hsp⟩ : ∃ z, splitL a.data.toList = z := ⟨_, rfl⟩
              have hse := split_err (s := a.data.toList)
              have HS := Lib.hid (split_is hsp w1 (by omega))
              rw [hsp] at Hf2 hse
              simp only [] at hse
              have hee : 0 ≤ e ∧ e ≤ 8 := by omega
              clear hsp hse
              go_wp2_with fail
              ((with_reducible refine HS.out.mono ?_))
              rintro ee w2 ⟨b, c, l, rfl, hbl, hst, hfar, hb2⟩
              have HBL := Lib.hid hbl
              have Hst := Lib.hid hst
              have Hfar := Lib.hid hfar
              obtain ⟨m, hm⟩ : ∃ m, l.length = m := ⟨_, rfl⟩
              rw [hm]
              have Hm := Lib.hid hm
              have hown2 := own_kept hown1 hb2
              have hb2' : Below w.heap.size w w2 := hb1'.trans (hb2.mono hb1'.size)
              clear hbl hst hfar hm hown
              by_cases hx0 : e = 0
              · subst hx0
                have E := Lib.hid (show linesA ((acc ++ [l]).map B) [] u.data.toList = R by
                  have h1 : B l = L := HBL.out
                  rw [Hf2.out, List.map_append, List.map_cons, List.map_nil, h1]
                  rfl)
                go_wp2_with (at_builtin; refine wpList_append_val rfl (.tmp 40) (.tmp 42) Tryd.underlying36 info_strs rfl (by omega) rfl w.heap.size _ n vals rfl (hown2.alloc _) w2.heap.size 1 (.slice b m c) rfl (by simp [go_sem]) rfl (by omega) (by have := hb2'.size; simp; omega) ?_; intro v3 w3 o3 g3 e3)
                have hb3 : Below w.heap.size w w3 := below_grown hb2' g3 (own_base hown2)
                go_roundw
                case rel =>
                  refine ⟨u, n + 1, _, acc ++ [l], rfl, by omega, o3, ?_, E.out, C3.out, hb3⟩
                  have hsz := hb1.size
                  refine Held.more (Hh1.out.kept hb2 |>.kept ((Below.refl _ w2).alloc (Nat.le_refl _) _)) g3 e3 Hm.out (Hst.out.kept ((Below.refl _ w2).alloc (Nat.le_refl _) _)) (fun _ y hy => own_apart hown1 (Hfar.out y hy).1)
                case measure => simp [lenOf]; omega
              · have hx1 : (e != 0) = true := by simpa using hx0
                have E := Lib.hid (show R = ([], e) by rw [Hf2.out]; exact if_neg hx0)
                clear hx0
                go_wp2
                go_ret2
                rw [E.out]
                exact ⟨none, 0, [], rfl, rfl, fun h => absurd rfl h, (fun x hx => by cases hx), hb2'⟩
end Go.Proofs.YtdkhajpkldjlmaaDoor
