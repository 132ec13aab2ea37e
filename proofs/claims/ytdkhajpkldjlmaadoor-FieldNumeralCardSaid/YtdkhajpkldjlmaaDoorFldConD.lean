/-
  The contract of the landed package field: Split.
-/
import Derived.Test.YtdkhajpkldjlmaaDoorFldConC
namespace Go.Proofs.YtdkhajpkldjlmaaDoor
set_option linter.unusedVariables false
set_option linter.unusedSimpArgs false
open Go.RowKit

theorem readF_is {t : ByteArray} {x y : ByteArray} {r : List UInt8 × List UInt8} (h : readL t.data.toList = r) (hx : ofL r.1 = x) (hy : ofL r.2 = y) (w : World) (h0 : 0 < t.size) (hs : t.size ≤ 900000) :
    Calls Tryd.prog 17 #[.string t] w fun e w' => e = .returned (.tuple #[.string x, .string y]) ∧ Below w.heap.size w w' := by
  have := readF_any t w h0 hs
  unfold GivesTwo at this
  rwa [h, hx, hy] at this
theorem join_is {l : List ByteArray} {p : ByteArray} {x : Int} {r : List (List UInt8)} (hr : B l = r) (h : joinL r = (p.data.toList, x)) (a : Option Addr) (n cap : Nat) (w : World) (hn : l.length = n) (hb : n ≤ 100000) (hl : Strs w a l) (hsz : ∀ s ∈ l, s.size ≤ 1000000) :
    Calls Tryd.prog 11 #[.slice a n cap] w fun e w' => e = .returned (.tuple #[.string p, .int .i64 x]) ∧ Below w.heap.size w w' := by
  have := join_any a l n cap w hn hb hl hsz
  rw [hr, h] at this
  exact this

set_option maxRecDepth 20000 in
set_option maxHeartbeats 8000000 in
theorem split_any (s : ByteArray) (w : World) (hs : s.size ≤ 1000000) :
    Calls Tryd.prog 10 #[.string s] w (GivesStrs w (splitL s.data.toList)) := by
  have hl : s.data.toList.length = s.size := rfl
  obtain ⟨R, hR⟩ : ∃ R, splitL s.data.toList = R := ⟨_, rfl⟩
  have HR := Lib.hid hR
  rw [hR]
  clear hR
  by_cases h1 : 1024 < s.size
  · have E := Lib.hid (show R = ([], 8) by rw [← HR.out]; exact split_long (by omega))
    clear hl
    go_enter Tryd.func10, Tryd.ntmps10
    go_wp2
    go_ret2
    rw [E.out]
    exact ⟨none, 0, [], rfl, rfl, fun h => absurd rfl h, (fun x hx => by cases hx), Below.refl _ _⟩
  · have h2 : s.size ≤ 1024 := by omega
    obtain ⟨T, hT⟩ : ∃ T, flds (s.data.toList.length + 1) s.data.toList = T := ⟨_, rfl⟩
    have HS := Lib.hid (show R = if joinL T = (s.data.toList, 0) then (T, 0) else ([], 3) by rw [← HR.out, split_flds (by omega), hT])
    have HT := Lib.hid hT
    clear hl h1 hT
    go_enter Tryd.func10, Tryd.ntmps10
    go_wp2
    go_loopw [4, 5, 6, 15] (fun v r _ _ wr => ∃ (acc : List ByteArray) (t : ByteArray) (k : Nat), Hid (acc.length = k) ∧ k + t.size ≤ s.size ∧ r = .string t ∧ wr.ownsRow w.heap.size 9 1 v k (strV acc) ∧ Hid (∀ x ∈ acc, x.size ≤ 1024) ∧ Hid (B acc ++ flds (t.data.toList.length + 1) t.data.toList = T) ∧ Below w.heap.size w wr) (fun _ r _ _ _ => lenOf r)
    case atStart => exact ⟨[], s, 0, rfl, by omega, rfl, World.ownsRow_nil _ _ _ _, (fun x hx => by cases hx), HT.out, Below.refl _ _⟩
    case round =>
      obtain ⟨acc, t, k, Hk, hkr, rfl, own, Hsm, Hacc, hb0⟩ := hrel
      have hsz := hb0.size
      by_cases h0 : t.size = 0
      · have e1 : t.toList.isEmpty = true := by rw [ByteArray.toList_eq, is_empty h0]; rfl
        have e2 : (t.toList == []) = true := by rw [ByteArray.toList_eq, is_empty h0]; rfl
        have HB := Lib.hid (show B acc = T by
          rw [← Hacc.out, is_empty h0]
          simp [flds])
        obtain ⟨a, c, rfl, -, hrd⟩ := own_strs own
        obtain ⟨⟨J, x⟩, hJ⟩ : ∃ z, joinL T = z := ⟨_, rfl⟩
        obtain ⟨p, hp⟩ : ∃ p, ofL J = p := ⟨_, rfl⟩
        have HJ := Lib.hid (show joinL T = (p.data.toList, x) by rw [hJ, ← hp]; rfl)
        have HC := Lib.hid (join_is HB.out HJ.out a k c wr Hk.out (by omega) hrd (fun x hx => Nat.le_trans (Hsm.out x hx) (by omega)))
        clear h0 hJ hp
        by_cases hx : x = 0
        · subst hx
          by_cases hps : p = s
          · subst hps
            have hts : (p.toList != p.toList) = false := by simp
            have hts2 : (p.toList == p.toList) = true := by simp
            have E := Lib.hid (show R = (T, 0) by rw [HS.out, if_pos HJ.out])
            go_wp2_with fail
            ((with_reducible refine HC.out.mono ?_))
            rintro e w4 ⟨rfl, hb4⟩
            go_wp2
            go_ret2
            refine ⟨a, c, acc, ?_, ?_, hrd.kept hb4, (fun x hx => ?_), by (repeat' first | with_reducible assumption | exact Below.refl _ _ | with_reducible refine Below.drew ?_ | with_reducible refine Below.drewN ?_ _ | with_reducible refine Below.alloc' ?_ _ | with_reducible refine Below.setCell ?_ (by first | exact Nat.le_refl _ | omega | (simp; done) | (simp; omega)) _ | with_reducible refine Below.after ?_ ‹_›)⟩
            · rw [E.out, Hk.out]; rfl
            · rw [E.out]; exact HB.out
            · have := own_far own x hx
              have := hb4.size
              omega
          · have hts : (p.toList == s.toList) = false := by rw [str_eq]; simpa using hps
            have hts2 : (p.toList != s.toList) = true := by simp [bne, hts]
            have E := Lib.hid (show R = ([], 3) by
              rw [HS.out, HJ.out, if_neg]
              intro h
              have h2 : p.data.toList = s.data.toList := (Prod.mk.inj h).1
              exact hps (ByteArray.ext (Array.toList_inj.1 h2)))
            clear hps
            go_wp2_with fail
            ((with_reducible refine HC.out.mono ?_))
            rintro e w4 ⟨rfl, hb4⟩
            go_wp2
            go_ret2
            rw [E.out]
            exact ⟨none, 0, [], rfl, rfl, fun h => absurd rfl h, (fun x hx => by cases hx), by (repeat' first | with_reducible assumption | exact Below.refl _ _ | with_reducible refine Below.drew ?_ | with_reducible refine Below.drewN ?_ _ | with_reducible refine Below.alloc' ?_ _ | with_reducible refine Below.setCell ?_ (by first | exact Nat.le_refl _ | omega | (simp; done) | (simp; omega)) _ | with_reducible refine Below.after ?_ ‹_›)⟩
        · have hx0 : (x != 0) = true := by simpa using hx
          have E := Lib.hid (show R = ([], 3) by
            rw [HS.out, HJ.out, if_neg]
            intro h
            exact hx (Prod.mk.inj h).2)
          clear hx
          go_wp2_with fail
          ((with_reducible refine HC.out.mono ?_))
          rintro e w4 ⟨rfl, hb4⟩
          go_wp2
          go_ret2
          rw [E.out]
          exact ⟨none, 0, [], rfl, rfl, fun h => absurd rfl h, (fun x hx => by cases hx), by (repeat' first | with_reducible assumption | exact Below.refl _ _ | with_reducible refine Below.drew ?_ | with_reducible refine Below.drewN ?_ _ | with_reducible refine Below.alloc' ?_ _ | with_reducible refine Below.setCell ?_ (by first | exact Nat.le_refl _ | omega | (simp; done) | (simp; omega)) _ | with_reducible refine Below.after ?_ ‹_›)⟩
      · obtain ⟨e1, e2⟩ := ne_empty (s := t) (by omega)
        have hne : t.data.toList ≠ [] := fun e => by
          have h3 : t.data.toList.length = t.size := rfl
          rw [e] at h3
          simp at h3
          omega
        have Hst := Lib.hid (flds_step hne)
        have hless := readL_less hne
        obtain ⟨⟨F, L⟩, hFL⟩ : ∃ z, readL t.data.toList = z := ⟨_, rfl⟩
        rw [hFL] at Hst hless
        simp only [] at hless
        obtain ⟨f, hf⟩ : ∃ f, ofL F = f := ⟨_, rfl⟩
        obtain ⟨u, hu⟩ : ∃ u, ofL L = u := ⟨_, rfl⟩
        have HF := Lib.hid (readF_is hFL hf hu wr (by omega) (by omega))
        have hl3 : t.data.toList.length = t.size := rfl
        have hfs : f.size ≤ 1024 := by rw [← hf, ofL_size]; omega
        have hus : u.size < t.size := by rw [← hu, ofL_size]; omega
        have HA := Lib.hid (show B (acc ++ [f]) ++ flds (u.data.toList.length + 1) u.data.toList = T by
          rw [← Hacc.out, Hst.out, B_snoc, ← hf, ← hu]
          simp [ofL_data])
        have Hsm2 := Lib.hid (show ∀ x ∈ acc ++ [f], x.size ≤ 1024 from fun x hx => by
          rcases List.mem_append.1 hx with h | h
          · exact Hsm.out x h
          · rw [List.mem_singleton.1 h]; exact hfs)
        have Hk2 := Lib.hid (show (acc ++ [f]).length = k + 1 by rw [List.length_append, Hk.out]; rfl)
        clear hf hu hl3 hless hFL h0 hne
        go_wp2_with fail
        ((with_reducible refine HF.out.mono ?_))
        rintro e w1 ⟨rfl, hb1⟩
        have own1 := own_kept own hb1
        have hb1' : Below w.heap.size w w1 := hb0.trans (hb1.mono hb0.size)
        have hsz1 := hb1'.size
        go_wp2_with (at_builtin; refine wpList_append_reads rfl (.tmp 20) (.tmp 22) Tryd.underlying31 info_string rfl (by omega) rfl w.heap.size _ k (strV acc) rfl (own1.alloc _) (some ⟨_, 0, none⟩) 1 1 (strV [f]) rfl rfl (reads_lit _ (strV [f]) _ rfl) (strV_one _) (by omega) (by simp; omega) ?_; intro v2 w2 o2 g2 e3)
        have hb2 := below_based hb1' g2 hsz1 (own_base own1)
        rw [← strV_append] at o2
        go_roundw
        case rel => exact ⟨acc ++ [f], u, k + 1, Hk2.out, by omega, rfl, o2, Hsm2.out, HA.out, hb2⟩
        case measure => simp [lenOf]; omega
end Go.Proofs.YtdkhajpkldjlmaaDoor
