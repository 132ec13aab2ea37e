/-
  The contract of the landed package field: Join.
-/
import Derived.Test.YtdkhajpkldjlmaaDoorFldConA
namespace Go.Proofs.YtdkhajpkldjlmaaDoor
set_option linter.unusedVariables false
set_option linter.unusedSimpArgs false
open Go.RowKit

theorem fault_okC {x : List UInt8} (h : faultL x = 0) : x.all okC = true := by
  unfold faultL at h
  split at h
  · cases h
  · split at h
    · assumption
    · cases h

set_option maxRecDepth 20000 in
set_option maxHeartbeats 8000000 in
theorem join_any (a : Option Addr) (l : List ByteArray) (n cap : Nat) (w : World) (hn : l.length = n) (hb : n ≤ 100000) (hl : Strs w a l) (hsz : ∀ s ∈ l, s.size ≤ 1000000) :
    Calls Tryd.prog 11 #[.slice a n cap] w fun e w' => e = .returned (.tuple #[.string (ofL (joinL (B l)).1), .int .i64 (joinL (B l)).2]) ∧ Below w.heap.size w w' := by
  have Hn := Lib.hid hn
  have Hsz := Lib.hid hsz
  obtain ⟨R, hR⟩ : ∃ R, joinL (B l) = R := ⟨_, rfl⟩
  have HR := Lib.hid hR
  rw [hR]
  clear hn hsz hR
  go_enter Tryd.func11, Tryd.ntmps11
  go_wp2
  go_loop [5, 6, 12] (fun _ _ i => ∃ k : Nat, k ≤ n ∧ i = .int .i64 k ∧ Hid (faults ((B l).drop k) = faults (B l))) (fun _ _ i => n - (intOf i).toNat)
  case atStart => exact ⟨0, Nat.zero_le _, rfl, rfl⟩
  case round =>
    obtain ⟨k, hk, rfl, Hf⟩ := hrel
    by_cases hlt : k < n
    · have hkl : k < l.length := by rw [Hn.out]; exact hlt
      obtain ⟨b, off, rfl, hc⟩ := hl.at_ (k := k) hkl
      have hu1 := Hsz.out (l[k]?.getD ByteArray.empty) (by
        rw [List.getElem?_eq_getElem hkl]
        exact List.getElem_mem hkl)
      have Hd := Lib.hid (B_drop l k hkl)
      obtain ⟨u, hu⟩ : ∃ u, l[k]?.getD ByteArray.empty = u := ⟨_, rfl⟩
      rw [hu] at hc Hd hu1
      clear hu hkl
      obtain ⟨e, he⟩ : ∃ e, faultL u.data.toList = e := ⟨_, rfl⟩
      have HF := Lib.hid (check_is he w hu1)
      have He := Lib.hid he
      clear he
      by_cases hx : e = 0
      · subst hx
        have E := Lib.hid (show faults ((B l).drop (k + 1)) = faults (B l) by
          rw [← Hf.out, Hd.out, faults_cons, He.out, if_pos rfl])
        go_wp2_with fail
        refine HF.out.mono ?_
        rintro e w1 ⟨rfl, rfl⟩
        go_wp2
        go_round
        case rel => exact ⟨k + 1, by omega, by go_num, E⟩
        case measure => simp [intOf]; omega
      · have E := Lib.hid (show R = ([], e) by
          have h1 : faults (B l) = e := by rw [← Hf.out, Hd.out, faults_cons, He.out, if_neg hx]
          rw [← HR.out]
          unfold joinL
          rw [h1, if_neg hx])
        have hx0 : (e != 0) = true := by simpa using hx
        go_wp2_with fail
        refine HF.out.mono ?_
        rintro e w1 ⟨rfl, rfl⟩
        go_wp2
        go_ret2
        exact ⟨by rw [E.out]; rfl, Below.refl _ _⟩
    · have Hf0 := Lib.hid (show faults (B l) = 0 by
        rw [← Hf.out, List.drop_eq_nil_of_le (by rw [B_length, Hn.out]; omega)]; rfl)
      go_wp2
      go_loopw [7, 8, 9, 24] (fun x _ _ i wr => ∃ (k m : Nat), k ≤ n ∧ i = .int .i64 k ∧ m ≤ 1024 ∧ wr.ownsRow w.heap.size 5 1 x m (bytV (lineL ((B l).take k))) ∧ Below w.heap.size w wr) (fun _ _ _ i _ => n - (intOf i).toNat)
      case atStart => exact ⟨0, 0, Nat.zero_le _, rfl, by omega, World.ownsRow_nil _ _ _ _, Below.refl _ _⟩
      case round =>
        obtain ⟨k, m, hk, rfl, hm, own, hb0⟩ := hrel
        have hsz := hb0.size
        by_cases hlt : k < n
        · have hkl : k < l.length := by rw [Hn.out]; exact hlt
          have hl' := hl.kept hb0
          obtain ⟨b, off, rfl, hc⟩ := hl'.at_ (k := k) hkl
          have Ht := Lib.hid (B_take l k hkl)
          have hfu := faults_ok Hf0.out ((l[k]?.getD ByteArray.empty).data.toList) (by
            unfold B
            rw [List.mem_map]
            exact ⟨_, by rw [List.getElem?_eq_getElem hkl]; exact List.getElem_mem hkl, rfl⟩)
          have Hok := Lib.hid (fault_okC hfu)
          have hu1 := (fault_ok hfu).1
          obtain ⟨u, hu⟩ : ∃ u, l[k]?.getD ByteArray.empty = u := ⟨_, rfl⟩
          rw [hu] at hc Ht hu1 Hok
          replace hu1 : u.size ≤ 256 := hu1
          clear hu hkl hl hl' hfu
          have hle := Lib.hid (lineL_take_le (B l) (k + 1))
          by_cases h0 : k = 0
          · have H0 := Lib.hid h0
            have Hline := Lib.hid (show lineL ((B l).take k) ++ wrL u.data.toList = lineL ((B l).take (k + 1)) by rw [Ht.out, H0.out]; rfl)
            have hk0 : k ≤ 0 := by omega
            have HW := Lib.hid (wr_any w.heap.size _ m _ u wr own hsz (by omega) hu1 Hok.out)
            rw [Hline.out] at HW
            clear h0
            go_wp2_with fail
            refine HW.out.mono ?_
            rintro e w4 ⟨v4, m4, rfl, hm4, o4, hb4⟩
            obtain ⟨a4, c4, rfl, -⟩ := own_reads o4
            have Hm4 := Lib.hid hm4
            clear hm4
            by_cases hg : 1024 < m4
            · have E := Lib.hid (show R = ([], 8) by
                rw [← HR.out]
                unfold joinL
                rw [if_pos Hf0.out, if_pos]
                have := hle.out
                have := Hm4.out
                omega)
              go_wp2
              go_ret2
              exact ⟨by rw [E.out]; rfl, hb0.trans hb4⟩
            · have hg' : m4 ≤ 1024 := by omega
              clear hg
              go_wp2
              go_roundw
              case rel => exact ⟨k + 1, m4, by omega, by go_num, hg', o4, hb0.trans hb4⟩
              case measure => simp [intOf]; omega
          · have hk0 : 0 < k := by omega
            have Hline := Lib.hid (show (lineL ((B l).take k) ++ [32]) ++ wrL u.data.toList = lineL ((B l).take (k + 1)) by
              rw [Ht.out, lineL_snoc, if_neg]
              · simp
              · intro e
                have := congrArg List.length e
                rw [List.length_take, B_length, Hn.out] at this
                simp at this
                omega)
            clear h0
            go_wp2_with (at_builtin; refine wpList_append_reads rfl (.tmp 31) (.tmp 32) Tryd.underlying45 info_byt rfl (by omega) rfl w.heap.size _ m (bytV (lineL ((B l).take k))) rfl (own.alloc _) (some ⟨_, 0, none⟩) 1 1 (bytV [32]) rfl rfl (reads_lit _ (bytV [32]) _ rfl) (bytV_one _) (by omega) (by simp; omega) ?_; intro v2 w2 o2 g2 e2; have hb2 := below_based hb0 g2 hsz (own_base own); rw [← bytV_append] at o2)
            have HW := Lib.hid (wr_any w.heap.size _ (m + 1) _ u w2 o2 hb2.size (by omega) hu1 Hok.out)
            rw [Hline.out] at HW
            refine HW.out.mono ?_
            rintro e w4 ⟨v4, m4, rfl, hm4, o4, hb4'⟩
            have hb4 := hb2.trans hb4'
            obtain ⟨a4, c4, rfl, -⟩ := own_reads o4
            have Hm4 := Lib.hid hm4
            clear hm4
            by_cases hg : 1024 < m4
            · have E := Lib.hid (show R = ([], 8) by
                rw [← HR.out]
                unfold joinL
                rw [if_pos Hf0.out, if_pos]
                have := hle.out
                have := Hm4.out
                omega)
              go_wp2
              go_ret2
              exact ⟨by rw [E.out]; rfl, hb4⟩
            · have hg' : m4 ≤ 1024 := by omega
              clear hg
              go_wp2
              go_roundw
              case rel => exact ⟨k + 1, m4, by omega, by go_num, hg', o4, hb4⟩
              case measure => simp [intOf]; omega
        · have E := Lib.hid (show R = (lineL ((B l).take k), 0) by
            have h2 : (B l).take k = B l := List.take_of_length_le (by rw [B_length, Hn.out]; omega)
            have h3 := own.1
            rw [bytV_length, h2] at h3
            rw [← HR.out, h2]
            unfold joinL
            rw [if_pos Hf0.out, if_neg (by omega)])
          obtain ⟨p, c, rfl, hlen, hrd, -⟩ := own_reads own
          rw [bytV_length] at hlen
          have hst := run_string_bytes (P := Tryd.prog) Tryd.underlying45 Tryd.underlying5 Tryd.underlying9 wr p _ m c hlen hrd
          clear own hrd hlen hl
          go_wp2
          go_ret2
          exact ⟨by rw [E.out]; rfl, hb0⟩
end Go.Proofs.YtdkhajpkldjlmaaDoor
