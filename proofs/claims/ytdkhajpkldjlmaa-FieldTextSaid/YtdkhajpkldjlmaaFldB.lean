/-
  Walks over the reference of package field: Join, take.
-/
import Derived.Test.YtdkhajpkldjlmaaFldA
namespace Go.Proofs.Ytdkhajpkldjlmaa
set_option linter.unusedVariables false
set_option linter.unusedSimpArgs false
open Go.RowKit

set_option maxRecDepth 20000 in
set_option maxHeartbeats 4000000 in
theorem rJoin_any (a : Option Addr) (l : List ByteArray) (n cap : Nat) (w : World) (hn : l.length = n) (hb : n ≤ 100000) (hl : Strs w a l) (hsz : ∀ s ∈ l, s.size ≤ 1000000) :
    Calls Try.prog 16 #[.slice a n cap] w fun e w' => e = .returned (.tuple #[.string (ofL (joinL (B l)).1), .int .i64 (joinL (B l)).2]) ∧ w = w' := by
  have Hn := Lib.hid hn
  have Hsz := Lib.hid hsz
  obtain ⟨R, hR⟩ : ∃ R, joinL (B l) = R := ⟨_, rfl⟩
  have HR := Lib.hid hR
  rw [hR]
  clear hn hsz hR
  go_enter Try.func16, Try.ntmps16
  go_wp2
  go_loop [4, 5] (fun i _ => ∃ k : Nat, k ≤ n ∧ i = .int .i64 k ∧ Hid (faults ((B l).drop k) = faults (B l))) (fun i _ => n - (intOf i).toNat)
  case atStart => exact ⟨0, Nat.zero_le _, rfl, rfl⟩
  case round =>
    obtain ⟨k, hk, rfl, Hf⟩ := hrel
    by_cases hlt : k < n
    · have hkl : k < l.length := by rw [Hn.out]; exact hlt
      obtain ⟨b, off, rfl, hc⟩ := hl.at_ (k := k) hkl
      have hu1 := Hsz.out (l[k]?.getD ByteArray.empty) (by
        rw [List.getElem?_eq_getElem hkl]
        exact List.getElem_mem hkl)
      have Hd := Lib.hid (B_drop l k hkl)
      obtain ⟨u, hu⟩ : ∃ u, l[k]?.getD ByteArray.empty = u := ⟨_, rfl⟩
      rw [hu] at hc Hd hu1
      clear hu hkl
      obtain ⟨e, he⟩ : ∃ e, faultL u.data.toList = e := ⟨_, rfl⟩
      have HF := Lib.hid (rFault_is he w hu1)
      have He := Lib.hid he
      clear he
      by_cases hx : e = 0
      · subst hx
        have E := Lib.hid (show faults ((B l).drop (k + 1)) = faults (B l) by
          rw [← Hf.out, Hd.out, faults_cons, He.out, if_pos rfl])
        go_wp2_with fail
        refine HF.out.mono ?_
        rintro e w1 ⟨rfl, rfl⟩
        go_wp2
        go_round
        case rel => exact ⟨k + 1, by omega, by go_num, E⟩
        case measure => simp [intOf]; omega
      · have E := Lib.hid (show R = ([], e) by
          have h1 : faults (B l) = e := by rw [← Hf.out, Hd.out, faults_cons, He.out, if_neg hx]
          rw [← HR.out]
          unfold joinL
          rw [h1, if_neg hx])
        have hx0 : (e != 0) = true := by simpa using hx
        go_wp2_with fail
        refine HF.out.mono ?_
        rintro e w1 ⟨rfl, rfl⟩
        go_wp2
        go_ret2
        exact ⟨by rw [E.out]; rfl, rfl⟩
    · have Hf0 := Lib.hid (show faults (B l) = 0 by
        rw [← Hf.out, List.drop_eq_nil_of_le (by rw [B_length, Hn.out]; omega)]; rfl)
      go_wp2
      go_loop [6, 7] (fun t i => ∃ (k : Nat) (o : ByteArray), k ≤ n ∧ i = .int .i64 k ∧ t = .string o ∧ o.size ≤ 1024 ∧ Hid (o.data.toList = lineL ((B l).take k))) (fun _ i => n - (intOf i).toNat)
      case atStart => exact ⟨0, _, Nat.zero_le _, rfl, rfl, by decide, rfl⟩
      case round =>
        obtain ⟨k, o, hk, rfl, rfl, ho, Ho⟩ := hrel
        by_cases hlt : k < n
        · have hkl : k < l.length := by rw [Hn.out]; exact hlt
          obtain ⟨b, off, rfl, hc⟩ := hl.at_ (k := k) hkl
          have hu1 := Hsz.out (l[k]?.getD ByteArray.empty) (by
            rw [List.getElem?_eq_getElem hkl]
            exact List.getElem_mem hkl)
          have Ht := Lib.hid (B_take l k hkl)
          have Hfu := Lib.hid ((fault_ok (faults_ok Hf0.out ((l[k]?.getD ByteArray.empty).data.toList) (by
            unfold B
            rw [List.mem_map]
            exact ⟨_, by rw [List.getElem?_eq_getElem hkl]; exact List.getElem_mem hkl, rfl⟩))).1)
          obtain ⟨u, hu⟩ : ∃ u, l[k]?.getD ByteArray.empty = u := ⟨_, rfl⟩
          rw [hu] at hc Ht hu1 Hfu
          clear hu hkl
          have HW := Lib.hid (rWritten_any u w hu1)
          obtain ⟨v, hv⟩ : ∃ v, ofL (wrL u.data.toList) = v := ⟨_, rfl⟩
          have hvs : v.size ≤ 1000 := by
            rw [← hv, ofL_size]
            have := wrL_length u.data.toList
            have := Hfu.out
            omega
          have Hv := Lib.hid (show v.data.toList = wrL u.data.toList by rw [← hv]; rfl)
          rw [show str (wrL u.data.toList) = .string (ofL (wrL u.data.toList)) from rfl, hv] at HW
          clear hv
          by_cases h0 : k = 0
          · have H0 := Lib.hid h0
            have Hline := Lib.hid (show lineL ((B l).take (k + 1)) = v.data.toList by rw [Ht.out, Hv.out, H0.out]; rfl)
            have HO := Lib.hid (show o.data.toList = [] by rw [Ho.out, H0.out]; rfl)
            have hk0 : k ≤ 0 := by omega
            obtain ⟨p, hp⟩ : ∃ p, o ++ v = p := ⟨_, rfl⟩
            have Hp := Lib.hid (show p.data.toList = lineL ((B l).take (k + 1)) by rw [← hp, data_app, HO.out, Hline.out]; rfl)
            have hps : p.size ≤ 1024 := by
              have h1 : p.size = p.data.toList.length := rfl
              have h2 : v.size = v.data.toList.length := rfl
              rw [h1, Hp.out, Hline.out, ← h2]
              omega
            clear h0
            go_wp2_with fail
            refine HW.out.mono ?_
            rintro e w1 ⟨rfl, rfl⟩
            go_wp2
            go_round
            case rel => exact ⟨k + 1, p, by omega, by go_num, rfl, hps, Hp⟩
            case measure => simp [intOf]; omega
          · have hk0 : 0 < k := by omega
            have Hline := Lib.hid (show lineL ((B l).take (k + 1)) = o.data.toList ++ 32 :: v.data.toList by
              rw [Ht.out, lineL_snoc, if_neg, ← Ho.out, Hv.out]
              intro e
              have := congrArg List.length e
              rw [List.length_take, B_length, Hn.out] at this
              simp at this
              omega)
            have z1 : (o ++ ⟨#[32]⟩ : ByteArray).size = o.size + 1 := ByteArray.size_append
            obtain ⟨p, hp⟩ : ∃ p, (o ++ ⟨#[32]⟩ : ByteArray) ++ v = p := ⟨_, rfl⟩
            have Hp := Lib.hid (show p.data.toList = lineL ((B l).take (k + 1)) by rw [← hp, data_app, data_app, Hline.out]; simp)
            have hle := Lib.hid (lineL_take_le (B l) (k + 1))
            clear h0
            by_cases hg : 1024 < p.size
            · have E := Lib.hid (show R = ([], 8) by
                rw [← HR.out]
                unfold joinL
                rw [if_pos Hf0.out, if_pos]
                have h1 : p.size = p.data.toList.length := rfl
                rw [h1, Hp.out] at hg
                have := hle.out
                omega)
              go_wp2_with fail
              refine HW.out.mono ?_
              rintro e w1 ⟨rfl, rfl⟩
              go_wp2
              go_ret2
              exact ⟨by rw [E.out]; rfl, rfl⟩
            · have hg' : p.size ≤ 1024 := by omega
              clear hg
              go_wp2_with fail
              refine HW.out.mono ?_
              rintro e w1 ⟨rfl, rfl⟩
              go_wp2
              go_round
              case rel => exact ⟨k + 1, p, by omega, by go_num, rfl, hg', Hp⟩
              case measure => simp [intOf]; omega
        · have E := Lib.hid (show R = (o.data.toList, 0) by
            have h2 : (B l).take k = B l := List.take_of_length_le (by rw [B_length, Hn.out]; omega)
            rw [← HR.out]
            unfold joinL
            have h3 : o.size = (lineL (B l)).length := by rw [← h2, ← Ho.out]; rfl
            rw [if_pos Hf0.out, if_neg (by omega), Ho.out, h2])
          go_wp2
          go_ret2
          exact ⟨by rw [E.out]; rfl, rfl⟩

/-! ### take -/
theorem span_at (s : ByteArray) (k : Nat) (hall : (s.data.toList.take k).all notSp = true) (hend : ∀ h : k < s.size, (s[k]'h).toNat = 32) :
    s.data.toList.takeWhile notSp = s.data.toList.take k ∧ s.data.toList.dropWhile notSp = s.data.toList.drop k := by
  have := takeWhile_all (p := notSp) (x := s.data.toList.take k) (s.data.toList.drop k) (fun d hd => List.all_eq_true.1 hall d hd) (fun c q e => by
    by_cases h : k < s.size
    · rw [tail_at s k h] at e
      injection e with e1 e2
      subst e1
      simp [notSp, hend h]
    · rw [tail_end s k h] at e
      cases e)
  rwa [List.take_append_drop] at this
theorem takeL_empty : takeL [] = ([], []) := rfl
theorem takeL_plain (s : ByteArray) (h0 : ∀ h : 0 < s.size, (s[0]'h).toNat ≠ 34) : takeL s.data.toList = (s.data.toList.takeWhile notSp, s.data.toList.dropWhile notSp) := by
  by_cases h : 0 < s.size
  · have e := tail_at s 0 h
    rw [List.drop_zero] at e
    rw [e]
    unfold takeL
    simp only []
    rw [if_neg (h0 h)]
  · obtain rfl := is_empty (s := s) (by omega)
    rfl
theorem takeL_quote (s : ByteArray) (h : 0 < s.size) (h0 : (s[0]'h).toNat = 34) : takeL s.data.toList = unq (s.data.toList.drop 1) := by
  have e := tail_at s 0 h
  rw [List.drop_zero] at e
  rw [e]
  unfold takeL
  simp only []
  rw [if_pos h0]
  rfl
end Go.Proofs.Ytdkhajpkldjlmaa
