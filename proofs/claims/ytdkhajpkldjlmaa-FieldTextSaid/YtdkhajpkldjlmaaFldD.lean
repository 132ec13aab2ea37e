/-
  Walks over the reference of package field: Split.
-/
import Derived.Test.YtdkhajpkldjlmaaFldC
namespace Go.Proofs.Ytdkhajpkldjlmaa
set_option linter.unusedVariables false
set_option linter.unusedSimpArgs false
open Go.RowKit

set_option maxRecDepth 20000 in
set_option maxHeartbeats 4000000 in
theorem rSplit_any (s : ByteArray) (w : World) (hs : s.size ≤ 1000000) :
    Calls Try.prog 12 #[.string s] w (GivesStrs w (splitL s.data.toList)) := by
  have hl : s.data.toList.length = s.size := rfl
  obtain ⟨R, hR⟩ : ∃ R, splitL s.data.toList = R := ⟨_, rfl⟩
  have HR := Lib.hid hR
  rw [hR]
  clear hR
  by_cases h1 : 1024 < s.size
  · have E := Lib.hid (show R = ([], 8) by rw [← HR.out]; exact split_long (by omega))
    go_enter Try.func12, Try.ntmps12
    go_wp2
    go_ret2
    rw [E.out]
    exact ⟨none, 0, [], rfl, rfl, fun h => absurd rfl h, (fun x hx => by cases hx), Below.refl _ _⟩
  · by_cases h0 : s.size = 0
    · obtain rfl := is_empty h0
      have E := Lib.hid (show R = ([], 0) by rw [← HR.out]; rfl)
      clear hl h0 h1
      go_enter Try.func12, Try.ntmps12
      go_wp2
      go_ret2
      rw [E.out]
      exact ⟨none, 0, [], rfl, rfl, fun h => absurd rfl h, (fun x hx => by cases hx), Below.refl _ _⟩
    · have h2 : s.size ≤ 1024 := by omega
      obtain ⟨e1, e2⟩ := ne_empty (s := s) (by omega)
      have hne : s.data.toList ≠ [] := fun e => by rw [e] at hl; simp at hl; omega
      obtain ⟨T, hT⟩ : ∃ T, takes (s.data.toList.length + 1) s.data.toList = T := ⟨_, rfl⟩
      have HS := Lib.hid (split_some (by omega) hne hT)
      have HT := Lib.hid hT
      clear hl h0 h1 hne hT
      go_enter Try.func12, Try.ntmps12
      go_wp2
      go_loopw [4, 5, 6, 7] (fun v r _ _ wr => ∃ (acc : List ByteArray) (rest : ByteArray) (k : Nat), Hid (acc.length = k) ∧ k + rest.size ≤ s.size ∧ r = .string rest ∧ wr.ownsRow w.heap.size 9 1 v k (strV acc) ∧ Hid (∀ x ∈ acc, x.size ≤ 1024) ∧ Hid (B acc ++ takes (rest.data.toList.length + 1) rest.data.toList = T) ∧ Below w.heap.size w wr) (fun _ r _ _ _ => lenOf r)
      case atStart => exact ⟨[], s, 0, rfl, by omega, rfl, World.ownsRow_nil _ _ _ _, (fun x hx => by cases hx), HT, Below.refl _ _⟩
      case round =>
        obtain ⟨acc, rest, k, Hk, hkr, rfl, hown, Hsm, Hacc, hb⟩ := hrel
        clear e1 e2
        have Hst := Lib.hid (takes_step rest.data.toList (rest.data.toList.length + 1) (by omega))
        have hlen := takeL_len rest.data.toList
        have HTk := Lib.hid (rTake_any rest wr (by omega))
        have hrl : rest.data.toList.length = rest.size := rfl
        obtain ⟨⟨F, L⟩, hFL⟩ : ∃ z, takeL rest.data.toList = z := ⟨_, rfl⟩
        rw [hFL] at Hst hlen HTk
        simp only [] at hlen
        obtain ⟨f, hf⟩ : ∃ f, ofL F = f := ⟨_, rfl⟩
        obtain ⟨left, hleft⟩ : ∃ f, ofL L = f := ⟨_, rfl⟩
        have fs : f.size = F.length := by rw [← hf]; rfl
        have ls : left.size = L.length := by rw [← hleft]; rfl
        have HF := Lib.hid (show f.data.toList = F by rw [← hf]; rfl)
        have HL := Lib.hid (show left.data.toList = L by rw [← hleft]; rfl)
        have hfs : f.size ≤ 1024 := by omega
        have hls : left.size ≤ rest.size := by omega
        have Hsm2 := Lib.hid (show ∀ x ∈ acc ++ [f], x.size ≤ 1024 from fun x hx => by
          rcases List.mem_append.1 hx with h | h
          · exact Hsm.out x h
          · rw [List.mem_singleton.1 h]; exact hfs)
        simp only [hf, hleft] at HTk
        have HA := Lib.hid (show B (acc ++ [f]) = B acc ++ [F] by rw [B_snoc, HF.out])
        clear hf hleft hlen hrl fs ls hFL
        obtain ⟨a, c, rfl, -, -⟩ := own_strs hown
        by_cases hz : left.size = 0
        · obtain rfl := is_empty hz
          have hL0 : L = [] := by rw [← HL.out]
          have ET := Lib.hid (show B (acc ++ [f]) = T by
            rw [HA.out, ← Hacc.out, Hst.out]
            simp only [hL0])
          clear hz hL0
          go_wp2_with fail
          refine HTk.out.mono ?_
          rintro e w1 ⟨rfl, hb1⟩
          have hown1 := own_kept hown hb1
          have hb1' : Below w.heap.size w w1 := hb.trans (hb1.mono hb.size)
          go_wp2_with (at_builtin; refine wpList_append_strs rfl (.tmp 21) (.tmp 23) Try.underlying23 info_string rfl w.heap.size (.slice a k c) k acc rfl (hown1.alloc _) _ _ _ [f] rfl rfl (Strs_one _ _ _ (by simp)) (by omega) (by have := hb1'.size; simp; omega) ?_; intro v3 w3 o3 g3 _ e3; obtain ⟨a3, c3, rfl, hl3, hq3⟩ := own_strs o3; have hl3' := Lib.hid hl3; have hq3' := Lib.hid hq3; clear hl3 hq3)
          have hb3 : Below w.heap.size w w3 := below_grown hb1' g3 (fun g hg => by
            obtain ⟨x, hx, rfl⟩ := own_block hg
            exact (own_far hown1 x hx).1)
          have hj0 := rJoin_any a3 (acc ++ [f]) (k + 1) c3 w3 hl3'.out (by omega) hq3'.out (fun x hx => Nat.le_trans (Hsm2.out x hx) (by omega))
          rw [ET.out] at hj0
          obtain ⟨⟨J, e⟩, hJ⟩ : ∃ z, joinL T = z := ⟨_, rfl⟩
          rw [hJ] at hj0
          obtain ⟨j, hj⟩ : ∃ j, ofL J = j := ⟨_, rfl⟩
          have Hj := Lib.hid (show j.data.toList = J by rw [← hj]; rfl)
          simp only [hj] at hj0
          have HJ := Lib.hid hJ
          have Hj0 := Lib.hid hj0
          clear hj hJ hj0
          by_cases hx : e = 0
          · subst hx
            by_cases hsj : j = s
            · subst hsj
              have hts : (j.toList == j.toList) = true := by simp
              have E := Lib.hid (show R = (T, 0) by rw [← HR.out, HS.out, HJ.out, Hj.out, if_pos rfl])
              refine Hj0.out.mono ?_
              rintro e w4 ⟨rfl, rfl⟩
              go_wp2
              go_ret2
              refine ⟨a3, c3, acc ++ [f], ?_, ?_, hq3'.out, own_far o3, hb3⟩
              · rw [E.out, hl3'.out]; rfl
              · rw [E.out]; exact ET.out
            · have hts : (j.toList == s.toList) = false := by rw [str_eq]; simpa using hsj
              have E := Lib.hid (show R = ([], 3) by
                rw [← HR.out, HS.out, HJ.out, if_neg]
                intro h
                have h2 : J = s.data.toList := (Prod.mk.inj h).1
                exact hsj (ByteArray.ext (Array.toList_inj.1 (Hj.out.trans h2))))
              clear hsj
              refine Hj0.out.mono ?_
              rintro e w4 ⟨rfl, rfl⟩
              go_wp2
              go_ret2
              rw [E.out]
              exact ⟨none, 0, [], rfl, rfl, fun h => absurd rfl h, (fun x hx => by cases hx), hb3⟩
          · have hx0 : (e != 0) = true := by simpa using hx
            have E := Lib.hid (show R = ([], 3) by
              rw [← HR.out, HS.out, HJ.out, if_neg]
              intro h
              exact hx (Prod.mk.inj h).2)
            refine Hj0.out.mono ?_
            rintro e w4 ⟨rfl, rfl⟩
            go_wp2
            go_ret2
            rw [E.out]
            exact ⟨none, 0, [], rfl, rfl, fun h => absurd rfl h, (fun x hx => by cases hx), hb3⟩
        · obtain ⟨d1, d2⟩ := ne_empty (s := left) (by omega)
          have hl0 : 0 < left.size := by omega
          have ht := tail_at left 0 hl0
          rw [List.drop_zero] at ht
          have ET := Lib.hid (show B (acc ++ [f]) ++ takes ((left.extract 1 left.size).data.toList.length + 1) (left.extract 1 left.size).data.toList = T by
            rw [HA.out, ← Hacc.out, Hst.out]
            have h2 : (left.extract 1 left.size).data.toList = left.data.toList.drop 1 := by rw [ext_data]; exact List.take_of_length_le (by simp)
            rw [h2, ← HL.out, ht]
            simp)
          have hrs := Lib.hid (show (left.extract 1 left.size).size + 1 = left.size by rw [ext_size _ _ _ (Nat.le_refl _)]; omega)
          clear hz ht
          go_wp2_with fail
          refine HTk.out.mono ?_
          rintro e w1 ⟨rfl, hb1⟩
          have hown1 := own_kept hown hb1
          have hb1' : Below w.heap.size w w1 := hb.trans (hb1.mono hb.size)
          go_wp2_with (at_builtin; refine wpList_append_strs rfl (.tmp 21) (.tmp 23) Try.underlying23 info_string rfl w.heap.size (.slice a k c) k acc rfl (hown1.alloc _) _ _ _ [f] rfl rfl (Strs_one _ _ _ (by simp)) (by omega) (by have := hb1'.size; simp; omega) ?_; intro v3 w3 o3 g3 _ e3; obtain ⟨a3, c3, rfl, hl3, hq3⟩ := own_strs o3; have hl3' := Lib.hid hl3; have hq3' := Lib.hid hq3; clear hl3 hq3)
          have hb3 : Below w.heap.size w w3 := below_grown hb1' g3 (fun g hg => by
            obtain ⟨x, hx, rfl⟩ := own_block hg
            exact (own_far hown1 x hx).1)
          go_roundw
          case rel => exact ⟨acc ++ [f], _, k + 1, hl3'.out, by have := hrs.out; omega, rfl, o3, Hsm2.out, ET.out, hb3⟩
          case measure => simp [lenOf]; have := hrs.out; omega
end Go.Proofs.Ytdkhajpkldjlmaa
