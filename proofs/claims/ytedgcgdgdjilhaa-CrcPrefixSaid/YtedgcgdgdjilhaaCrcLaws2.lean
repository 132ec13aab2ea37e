/-
  Walks over the laws of package crc: RoundTrip.
-/
import Derived.Test.YtedgcgdgdjilhaaCrcLaws1
namespace Go.Proofs.Ytedgcgdgdjilhaa
set_option linter.unusedVariables false
set_option linter.unusedSimpArgs false
open Go.RowKit

theorem frameS_ok {l : List UInt8} (h : l.length ≤ 65536) : frameS l = (frameL l, 0) := by unfold frameS; rw [if_neg (by omega)]

section
variable (K : CrcCon)
include K
set_option maxRecDepth 20000 in
set_option maxHeartbeats 8000000 in
theorem crcRoundTrip_of (a : Option Addr) (l : List UInt8) (n cap : Nat) (b : Option Addr) (m : List UInt8) (k c : Nat) (p : Option Addr) (o : List UInt8) (j d : Nat) (w : World)
    (hn : l.length = n) (hc : n ≤ cap) (hb : n ≤ maxLen) (hl : Bytes w a l) (hk : m.length = k) (hkc : k ≤ c) (hb2 : k ≤ maxLen) (hm : Bytes w b m) (hj : o.length = j) (hjd : j ≤ d) (hb3 : j ≤ maxLen) (ho : Bytes w p o) :
    Calls Try.prog 9 #[.slice a n cap, .slice b k c, .slice p j d] w fun e w' => e = .returned (.bool true) ∧ Below w.heap.size w w' := by
  unfold maxLen at hb hb2 hb3
  by_cases h1 : n ≤ 5000
  · by_cases h2 : k ≤ 5000
    · by_cases h3 : j ≤ 5000
      · have HL := Lib.hid hl
        have HM := Lib.hid hm
        have HO := Lib.hid ho
        have Hn := Lib.hid hn
        have Hk := Lib.hid hk
        have Hj := Lib.hid hj
        obtain ⟨F, hF⟩ : ∃ F, frameL l = F := ⟨_, rfl⟩
        obtain ⟨f, hf⟩ : ∃ f, F.length = f := ⟨_, rfl⟩
        have HF := Lib.hid (show frameS l = (F, 0) by rw [frameS_ok (by omega), hF])
        have Hf := Lib.hid hf
        have HO1 := Lib.hid (show openS (F ++ m) = (l, f, 0) by rw [← hF, open_frame l m (by omega), hF, hf])
        have hfl : f ≤ 5020 := by
          have h4 := frameL_length l
          have h5 := vL_le10 (v := l.length) (by omega)
          rw [hF, hf] at h4
          omega
        obtain ⟨S, hS⟩ : ∃ S : ByteArray, (⟨l.toArray⟩ : ByteArray) = S := ⟨_, rfl⟩
        have HS := Lib.hid hS
        have hts : (S.toList == S.toList) = true := by simp
        have hts2 : (S.toList != S.toList) = false := by simp
        have hff : ((f : Int) != (f : Int)) = false := by simp
        obtain ⟨⟨D, q, e⟩, hD⟩ : ∃ r, openS o = r := ⟨_, rfl⟩
        obtain ⟨u, hu⟩ : ∃ u, D.length = u := ⟨_, rfl⟩
        have HD := Lib.hid hD
        have Hu := Lib.hid hu
        clear hn hk hj hl hm ho hF hf hS hD hu
        go_enter Try.func9, Try.ntmps9
        go_wp2_with fail
        refine (K.frame_is HF.out Hf.out a n cap _ Hn.out (by omega) hc HL.out).mono ?_
        rintro e0 w1 ⟨b1, c1, rfl, hc1, hr1, hb1⟩
        have HR1 := Lib.hid hr1
        have hs1 := hb1.size
        clear hr1
        go_wp2_with (first
          | (at_builtin; refine wpList_append_reads rfl (.tmp 37) (.tmp 38) Try.underlying22 info_byte rfl (by omega) rfl w.heap.size (.slice (some ⟨w1.heap.size, 0, none⟩) 0 0) 0 [] rfl (own_made w1 _ rfl hs1) b1 f c1 (bytV F) rfl (by rw [bytV_length]; exact Hf.out) (HR1.out.kept ((Below.refl _ w1).alloc (Nat.le_refl _) _)) (bytV_one F) (by omega) (by simp; omega) ?_; intro v2 w2 o2 g2 e2; have hb2 : Below w.heap.size w w2 := below_grown hb1 g2 (fun g hg => by simp [Value.ownBlock] at hg; omega); have hs2 := hb2.size; rw [Nat.zero_add, List.nil_append] at o2)
          | (at_builtin; refine wpList_append_reads rfl (.tmp 39) (.tmp 40) Try.underlying22 info_byte rfl (by omega) rfl w.heap.size _ f (bytV F) rfl o2 b k c (bytV m) rfl (by rw [bytV_length]; exact Hk.out) (HM.out.kept hb2) (bytV_one m) (by omega) (by omega) ?_; intro v3 w3 o3 g3 e3; have hb3 : Below w.heap.size w w3 := below_own hb2 g3 (own_base o2); rw [← bytV_append] at o3; obtain ⟨b3, c3, rfl, h3, hc3, hr3, -⟩ := own_slice o3; have HR3 := Lib.hid hr3; clear hr3 h3))
        clear o2 o3 g2 g3 e2 e3 hb1 hb2 hs1 hs2
        refine (K.open_is HO1.out Hn.out b3 (f + k) c3 w3 (by rw [List.length_append, Hf.out, Hk.out]) (by omega) hc3 HR3.out).mono ?_
        rintro e0 w4 ⟨b4, c4, rfl, hc4, hr4, hb4⟩
        have hb4' := hb3.trans (hb4.mono hb3.size)
        have hv1 := str_bytes7 (c := c4) Hn.out hr4
        have hv2 := str_bytes7 (c := cap) Hn.out (HL.out.kept hb4')
        rw [HS.out] at hv1 hv2
        have CD := Lib.hid (K.open_is HD.out Hu.out p j d w4 Hj.out (by omega) hjd (HO.out.kept hb4'))
        clear hr4 hb4 hb3
        by_cases he : e = 0
        · subst he
          obtain ⟨t1, t2, t3, t4⟩ := open_back HD.out
          have HT := Lib.hid t1
          have HG := Lib.hid (show frameS D = (o.take q, 0) by rw [frameS_ok t4, t1])
          have Hq := Lib.hid (show (o.take q).length = q by rw [List.length_take]; omega)
          rw [Hj.out] at t3
          rw [Hu.out] at t4
          clear t1 t2
          go_wp2_with fail
          ((with_reducible refine CD.out.mono ?_))
          rintro e0 w5 ⟨b5, c5, rfl, hc5, hr5, hb5⟩
          have hb5' := hb4'.trans (hb5.mono hb4'.size)
          clear hv1 hv2 hts hts2 hff
          go_wp2_with fail
          refine (K.frame_is HG.out Hq.out b5 u c5 w5 Hu.out (by omega) hc5 hr5).mono ?_
          rintro e0 w6 ⟨b6, c6, rfl, hc6, hr6, hb6⟩
          have hb6' := hb5'.trans (hb6.mono hb5'.size)
          obtain ⟨p2, hp2, hr2⟩ := part_upto und_bytes7 size_bytes7 (HO.out.kept hb6') (n := j) (j := q) (cap := d) (J := (q : Int)) rfl (by rw [bytV_length, Hj.out]; exact t3) (by omega)
          rw [bytV_take] at hr2
          obtain ⟨S2, hS2⟩ : ∃ S : ByteArray, (⟨(o.take q).toArray⟩ : ByteArray) = S := ⟨_, rfl⟩
          have HC := Lib.hid (fun (W : World) (hW : Below w6.heap.size w6 W) => show (convert 22 9 (.slice b6 q c6)).run Try.prog W = .ok (.string S2) W ∧ (convert 22 9 (.slice p2 q d)).run Try.prog W = .ok (.string S2) W by
            rw [← hS2]
            exact ⟨str_bytes7 (c := c6) Hq.out (hr6.kept hW), str_bytes7 (c := d) Hq.out (hr2.kept hW)⟩)
          have hts : (S2.toList == S2.toList) = true := by simp
          have i0 : (0 : Int) ≤ (q : Int) := by omega
          have i1 : (q : Int) ≤ (j : Int) := by omega
          have i2 : decide ((q : Int) ≤ (j : Int)) = true := decide_eq_true i1
          have i3 : decide ((q : Int) < 0) = false := decide_eq_false (by omega)
          have i4 : decide (d < q) = false := decide_eq_false (by omega)
          have i5 : decide ((d : Int) < (q : Int)) = false := decide_eq_false (by omega)
          have i6 : ((q : Int) == (q : Int)) = true := by simp
          clear hr5 hr6 hr2 hS2 hb5 hb6
          go_wp2_with fail
          go_region_held (fun W => (convert 22 9 (.slice b6 q c6)).run Try.prog W = .ok (.string S2) W ∧ (convert 22 9 (.slice p2 q d)).run Try.prog W = .ok (.string S2) W) ((refine HC.out _ ?_; ((repeat' first | with_reducible assumption | exact Below.refl _ _ | with_reducible refine Below.drew ?_ | with_reducible refine Below.drewN ?_ _ | with_reducible refine Below.alloc' ?_ _ | with_reducible refine Below.setCell ?_ (by first | exact Nat.le_refl _ | omega | (simp; done) | (simp; omega)) _ | with_reducible refine Below.after ?_ ‹_›)); done)) (first
            | (go_at_call 14; (with_reducible refine (crcAwake_any K _).mono ?_); rintro e3 w8 ⟨rfl, hb8⟩))
          all_goals go_wp2_with fail
          all_goals go_ret
          all_goals exact ⟨rfl, by (repeat' first | with_reducible assumption | exact Below.refl _ _ | with_reducible refine Below.drew ?_ | with_reducible refine Below.drewN ?_ _ | with_reducible refine Below.alloc' ?_ _ | with_reducible refine Below.setCell ?_ (by first | exact Nat.le_refl _ | omega | (simp; done) | (simp; omega)) _ | with_reducible refine Below.after ?_ ‹_›)⟩
        · have e0 : (e != 0) = true := by simpa using he
          have hz : D = [] ∧ q = 0 := by
            rcases openS_err o with h | ⟨h, h2⟩
            · rw [HD.out] at h; exact absurd h he
            · rw [HD.out] at h2
              simp only [Prod.mk.injEq] at h2
              exact ⟨h2.1, h2.2.1⟩
          obtain ⟨rfl, rfl⟩ := hz
          obtain rfl : 0 = u := Hu.out
          clear he
          go_wp2_with fail
          ((with_reducible refine CD.out.mono ?_))
          rintro e0 w5 ⟨b5, c5, rfl, hc5, hr5, hb5⟩
          have hb5' := hb4'.trans (hb5.mono hb4'.size)
          clear hb5 hb4'
          go_wp2_with fail
          refine (crcAwake_any K _).mono ?_
          rintro e3 w8 ⟨rfl, hb8⟩
          go_wp2
          go_ret
          exact ⟨rfl, by (repeat' first | with_reducible assumption | exact Below.refl _ _ | with_reducible refine Below.drew ?_ | with_reducible refine Below.drewN ?_ _ | with_reducible refine Below.alloc' ?_ _ | with_reducible refine Below.setCell ?_ (by first | exact Nat.le_refl _ | omega | (simp; done) | (simp; omega)) _ | with_reducible refine Below.after ?_ ‹_›)⟩
      · clear hn hk hj hl hm ho
        go_enter Try.func9, Try.ntmps9
        go_wp2_with fail
        refine (crcAwake_any K _).mono ?_
        rintro e w1 ⟨rfl, hb1⟩
        go_wp2
        go_ret
        exact ⟨rfl, hb1⟩
    · clear hn hk hj hl hm ho
      go_enter Try.func9, Try.ntmps9
      go_wp2_with fail
      refine (crcAwake_any K _).mono ?_
      rintro e w1 ⟨rfl, hb1⟩
      go_wp2
      go_ret
      exact ⟨rfl, hb1⟩
  · clear hn hk hj hl hm ho
    go_enter Try.func9, Try.ntmps9
    go_wp2_with fail
    refine (crcAwake_any K _).mono ?_
    rintro e w1 ⟨rfl, hb1⟩
    go_wp2
    go_ret
    exact ⟨rfl, hb1⟩
end
end Go.Proofs.Ytedgcgdgdjilhaa
