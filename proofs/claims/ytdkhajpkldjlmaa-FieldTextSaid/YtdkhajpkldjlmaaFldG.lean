/-
  Walks over the reference of package field: Lines.
-/
import Derived.Test.YtdkhajpkldjlmaaFldF
import Derived.Test.YtdkhajpkldjlmaaFldD
namespace Go.Proofs.Ytdkhajpkldjlmaa
set_option linter.unusedVariables false
set_option linter.unusedSimpArgs false
open Go.RowKit

theorem linesL_no {s : List UInt8} (h : endsL s = false) : linesL s = ([], 3) := by unfold linesL; rw [h]; rfl
theorem linesL_yes {s : List UInt8} (h : endsL s = true) : linesL s = linesA [] [] s := by unfold linesL; rw [h]; rfl
set_option maxRecDepth 20000 in
set_option maxHeartbeats 8000000 in
theorem rLines_any (s : ByteArray) (w : World) (hs : s.size ≤ 900000) :
    Calls Try.prog 18 #[.string s] w (GivesStrss w (linesL s.data.toList)) := by
  obtain ⟨R, hR⟩ : ∃ R, linesL s.data.toList = R := ⟨_, rfl⟩
  have HR := Lib.hid hR
  rw [hR]
  clear hR
  obtain ⟨hE0, hE1⟩ := ends_is s
  have HE0 := Lib.hid hE0
  have HE1 := Lib.hid hE1
  clear hE0 hE1
  by_cases h0 : s.size = 0
  · obtain rfl := is_empty h0
    have E := Lib.hid (show R = ([], 0) by rw [← HR.out]; rfl)
    clear h0
    go_enter Try.func18, Try.ntmps18
    go_wp2
    go_loop [4, 5, 6, 7, 8, 9] (fun a _ b _ _ _ => a = .slice none 0 0 ∧ b = .int .i64 0) (fun _ _ _ _ _ _ => 0)
    case atStart => exact ⟨rfl, rfl⟩
    case round =>
      obtain ⟨rfl, rfl⟩ := hrel
      go_wp2
      go_ret2
      rw [E.out]
      exact ⟨none, 0, [], rfl, rfl, fun h => absurd rfl h, (fun x hx => by cases hx), Below.refl _ _⟩
  · obtain ⟨e1, e2⟩ := ne_empty (s := s) (by omega)
    have hlast : s.size - 1 < s.size := by omega
    obtain ⟨z, hz⟩ : ∃ y : Nat, (s[s.size - 1]'hlast).toNat = y := ⟨_, rfl⟩
    have Hz := Lib.hid hz
    have hsub : (s.size : Int) - 1 = ((s.size - 1 : Nat) : Int) := by omega
    by_cases hz10 : z = 10
    · have HA := Lib.hid (show linesA [] [] s.data.toList = R by rw [← HR.out, linesL_yes (by rw [HE1.out hlast, Hz.out]; simpa using hz10)])
      have n0 : ((z : Int) != 10) = false := by simp; omega
      clear hz10
      go_enter Try.func18, Try.ntmps18
      go_wp2
      clear e1 e2 n0 hz hsub
      go_loopw [4, 5, 6, 7, 8, 9] (fun v a b _ _ _ wr => ∃ (f k n : Nat) (vals : List Value) (acc : List (List ByteArray)), f ≤ k ∧ k ≤ s.size ∧ n ≤ k ∧ a = .int .i64 f ∧ b = .int .i64 k ∧ wr.ownsRow w.heap.size 23 1 v n vals ∧ Hid (Held wr v vals acc) ∧ Hid (linesA (acc.map B) ((s.data.toList.drop f).take (k - f)) (s.data.toList.drop k) = R) ∧ Below w.heap.size w wr) (fun _ _ b _ _ _ _ => s.size - (intOf b).toNat)
      case atStart => exact ⟨0, 0, 0, [], [], Nat.le_refl _, Nat.zero_le _, Nat.le_refl _, rfl, rfl, World.ownsRow_nil _ _ _ _, held_nil _ _, HA, Below.refl _ _⟩
      case round =>
        obtain ⟨f, k, n, vals, acc, hfk, hk, hnk, rfl, rfl, hown, Hh, Hl, hb⟩ := hrel
        by_cases hlt : k < s.size
        · have Ht := Lib.hid (tail_at s k hlt)
          have Hc := Lib.hid (cur_snoc s f k hfk hlt)
          obtain ⟨y, hy⟩ : ∃ y : Nat, (s[k]'hlt).toNat = y := ⟨_, rfl⟩
          have Hy := Lib.hid hy
          have hu : y < 256 := by rw [← hy]; exact (s[k]'hlt).toNat_lt
          by_cases h10 : y = 10
          · have n1 : ((y : Int) != 10) = false := by simp; omega
            have Hf := Lib.hid (show R = if keepL ((s.data.toList.drop f).take (k - f)) then (if (splitL ((s.data.toList.drop f).take (k - f))).2 = 0 then linesA (acc.map B ++ [(splitL ((s.data.toList.drop f).take (k - f))).1]) [] (s.data.toList.drop (k + 1)) else ([], (splitL ((s.data.toList.drop f).take (k - f))).2)) else linesA (acc.map B) [] (s.data.toList.drop (k + 1)) by
              rw [← Hl.out, Ht.out, linesA_feed (by rw [Hy.out]; exact h10)])
            obtain ⟨a, ha, hza, hsa⟩ := mid_at s f k hfk hk
            rw [← ha] at Hf
            obtain ⟨hk0, hk1⟩ := keep_is a _ rfl
            have Hk0 := Lib.hid hk0
            have Hk1 := Lib.hid hk1
            have hza2 : a.size ≤ 900000 := by omega
            clear h10 ha hk0 hk1 hza
            by_cases hz0 : a.size = 0
            · have E := Lib.hid (show linesA (acc.map B) ((s.data.toList.drop (k + 1)).take (k + 1 - (k + 1))) (s.data.toList.drop (k + 1)) = R by
                rw [Hf.out, Hk0.out hz0, show k + 1 - (k + 1) = 0 by omega]; rfl)
              obtain rfl := is_empty hz0
              clear hz0
              go_wp2
              go_roundw
              case rel => exact ⟨k + 1, k + 1, n, vals, acc, Nat.le_refl _, by omega, by omega, by go_num, by go_num, hown, Hh.out, E.out, hb⟩
              case measure => simp [intOf]; omega
            · obtain ⟨d1, d2⟩ := ne_empty (s := a) (by omega)
              have ha0 : 0 < a.size := by omega
              obtain ⟨x, hx⟩ : ∃ y : Nat, (a[0]'ha0).toNat = y := ⟨_, rfl⟩
              have Hx := Lib.hid hx
              clear hz0
              by_cases h35 : x = 35
              · have n2 : ((x : Int) == 35) = true := by simp; omega
                have E := Lib.hid (show linesA (acc.map B) ((s.data.toList.drop (k + 1)).take (k + 1 - (k + 1))) (s.data.toList.drop (k + 1)) = R by
                  rw [Hf.out, Hk1.out ha0, Hx.out, h35, show k + 1 - (k + 1) = 0 by omega]; rfl)
                clear h35
                go_wp2
                go_roundw
                case rel => exact ⟨k + 1, k + 1, n, vals, acc, Nat.le_refl _, by omega, by omega, by go_num, by go_num, hown, Hh.out, E.out, hb⟩
                case measure => simp [intOf]; omega
              · have n2 : ((x : Int) == 35) = false := by simp; omega
                have HS := Lib.hid (rSplit_any a wr (by omega))
                have Hf2 := Lib.hid (show R = if (splitL a.data.toList).2 = 0 then linesA (acc.map B ++ [(splitL a.data.toList).1]) [] (s.data.toList.drop (k + 1)) else ([], (splitL a.data.toList).2) by
                  rw [Hf.out, Hk1.out ha0, Hx.out, decide_eq_false h35]; rfl)
                clear h35
                obtain ⟨⟨L, e⟩, hsp⟩ : ∃ z, splitL a.data.toList = z := ⟨_, rfl⟩
                have hse := split_err (s := a.data.toList)
                rw [hsp] at HS Hf2 hse
                simp only [] at hse
                have hee : 0 ≤ e ∧ e ≤ 8 := by omega
                clear hsp hse
                go_wp2_with fail
                refine HS.out.mono ?_
                rintro ee w1 ⟨b, c, l, rfl, hbl, hst, hfar, hb1⟩
                have HBL := Lib.hid hbl
                have Hst := Lib.hid hst
                have Hfar := Lib.hid hfar
                obtain ⟨m, hm⟩ : ∃ m, l.length = m := ⟨_, rfl⟩
                rw [hm]
                have Hm := Lib.hid hm
                have hown1 := own_kept hown hb1
                have hb1' : Below w.heap.size w w1 := hb.trans (hb1.mono hb.size)
                clear hbl hst hfar hm
                by_cases hx0 : e = 0
                · subst hx0
                  have E := Lib.hid (show linesA ((acc ++ [l]).map B) ((s.data.toList.drop (k + 1)).take (k + 1 - (k + 1))) (s.data.toList.drop (k + 1)) = R by
                    have h1 : B l = L := HBL.out
                    rw [Hf2.out, show k + 1 - (k + 1) = 0 by omega, List.map_append, List.map_cons, List.map_nil, h1]
                    rfl)
                  go_wp2_with (at_builtin; refine wpList_append_val rfl (.tmp 51) (.tmp 53) Try.underlying33 info_strs rfl (by omega) rfl w.heap.size _ n vals rfl (hown1.alloc _) w1.heap.size 1 (.slice b m c) rfl (by simp [go_sem]) rfl (by omega) (by have := hb1'.size; simp; omega) ?_; intro v3 w3 o3 g3 e3)
                  have hb3 : Below w.heap.size w w3 := below_grown hb1' g3 (own_base hown1)
                  go_roundw
                  case rel =>
                    refine ⟨k + 1, k + 1, n + 1, _, acc ++ [l], Nat.le_refl _, by omega, by omega, by go_num, by go_num, o3, ?_, E.out, hb3⟩
                    have hsz := hb1.size
                    refine Held.more (Hh.out.kept hb1 |>.kept ((Below.refl _ w1).alloc (Nat.le_refl _) _)) g3 e3 Hm.out (Hst.out.kept ((Below.refl _ w1).alloc (Nat.le_refl _) _)) (fun _ y hy => own_apart hown (Hfar.out y hy).1)
                  case measure => simp [intOf]; omega
                · have hx1 : (e != 0) = true := by simpa using hx0
                  have E := Lib.hid (show R = ([], e) by rw [Hf2.out]; exact if_neg hx0)
                  clear hx0
                  go_wp2
                  go_ret2
                  rw [E.out]
                  exact ⟨none, 0, [], rfl, rfl, fun h => absurd rfl h, (fun x hx => by cases hx), hb1'⟩
          · have n1 : ((y : Int) != 10) = true := by simpa using (by omega : (y : Int) ≠ 10)
            have E := Lib.hid (show linesA (acc.map B) ((s.data.toList.drop f).take (k + 1 - f)) (s.data.toList.drop (k + 1)) = R by
              rw [Hc.out, ← Hl.out, Ht.out, linesA_char (by rw [Hy.out]; exact h10)])
            clear h10
            go_wp2
            go_roundw
            case rel => exact ⟨f, k + 1, n, vals, acc, by omega, by omega, by omega, rfl, by go_num, hown, Hh.out, E.out, hb⟩
            case measure => simp [intOf]; omega
        · have E := Lib.hid (show R = (acc.map B, 0) by
            rw [← Hl.out, tail_end s k hlt]; rfl)
          obtain ⟨a, c, rfl, hl, hss, hfar⟩ := own_strss hown Hh.out
          have Hl2 := Lib.hid hl
          have Hss := Lib.hid hss
          have Hfar := Lib.hid hfar
          clear hl hss hfar
          go_wp2
          go_ret2
          rw [E.out]
          exact ⟨a, c, acc, by rw [Hl2.out]; rfl, rfl, Hss.out, Hfar.out, hb⟩
    · have E := Lib.hid (show R = ([], 3) by rw [← HR.out, linesL_no (by rw [HE1.out hlast, Hz.out]; simpa using hz10)])
      have n0 : ((z : Int) != 10) = true := by simpa using (by omega : (z : Int) ≠ 10)
      clear hz10
      go_enter Try.func18, Try.ntmps18
      go_wp2
      go_ret2
      rw [E.out]
      exact ⟨none, 0, [], rfl, rfl, fun h => absurd rfl h, (fun x hx => by cases hx), Below.refl _ _⟩
end Go.Proofs.Ytdkhajpkldjlmaa
