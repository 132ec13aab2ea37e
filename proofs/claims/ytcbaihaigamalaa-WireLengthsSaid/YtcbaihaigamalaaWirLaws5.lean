/-
  Walks over the laws of package wire: RoundTrip.
-/
import Derived.Test.YtcbaihaigamalaaWirLaws4
import Derived.Deep.QuietTactic
import Derived.BigQuiet
namespace Go.Proofs.Ytcbaihaigamalaa
set_option linter.unusedVariables false
set_option linter.unusedSimpArgs false
open Go.RowKit

theorem drop_next {T X Y : List UInt8} {p q k : Nat} (h : T.drop p = X ++ Y) (hk : X.length = k) (hq : p + k = q) : T.drop q = Y := by
  subst hk hq
  rw [← List.drop_drop, h, List.drop_left]

section
variable (K : WirCon)
include K
set_option maxRecDepth 100000 in
set_option maxHeartbeats 16000000 in
theorem wireRoundTrip_of (u : Nat) (x : Int) (s : ByteArray) (b : Option Addr) (l : List Int) (m c : Nat) (a1 : Option Addr) (B : List UInt8) (n1 k1 : Nat) (a2 : Option Addr) (A : List UInt8) (n2 k2 : Nat) (w : World) (hu : u < 18446744073709551616) (h1 : -9223372036854775808 ≤ x) (h2 : x ≤ 9223372036854775807) (hs : s.size ≤ maxLen)
    (hm : l.length = m) (hc : m ≤ c) (hcm : c ≤ maxLen) (hl : Ints w b l) (hr : ∀ y ∈ l, -9223372036854775808 ≤ y ∧ y ≤ 9223372036854775807)
    (hn1 : B.length = n1) (hk1 : n1 ≤ k1) (hk1m : k1 ≤ maxLen) (hB : Bytes w a1 B) (hn2 : A.length = n2) (hk2 : n2 ≤ k2) (hk2m : k2 ≤ maxLen) (hA : Bytes w a2 A) :
    Calls Try.prog 7 #[.agg #[.int .u64 (u : Int), .int .i64 x, .string s, .slice b m c], .slice a1 n1 k1, .slice a2 n2 k2] w fun e w' => e = .returned (.bool true) ∧ Below w.heap.size w w' := by
  cases hq : smallB n1 s.size m
  · have HQ := Lib.hid (fun W => small_is hq a1 k1 s b c W rfl (by omega) hs (by omega))
    unfold maxLen at hs hcm hk1m hk2m
    clear hq hm hl hr hn1 hB hn2 hA
    go_enter Try.func7, Try.ntmps7
    go_wp2_with fail
    refine (HQ.out _).mono ?_
    rintro e w1 ⟨rfl, rfl⟩
    go_wp2_with fail
    refine (wirAwake_any K _).mono ?_
    rintro e w1 ⟨rfl, hb1⟩
    go_wp2
    go_ret
    exact ⟨rfl, by (repeat' first | with_reducible assumption | exact Below.refl _ _ | with_reducible refine Below.drew ?_ | with_reducible refine Below.drewN ?_ _ | with_reducible refine Below.alloc' ?_ _ | with_reducible refine Below.setCell ?_ (by first | exact Nat.le_refl _ | omega | (simp; done) | (simp; omega)) _ | with_reducible refine Below.after ?_ ‹_›)⟩
  · have HQ := Lib.hid (fun W => small_is hq a1 k1 s b c W rfl (by omega) hs (by omega))
    have hq5 : n1 ≤ 5000 ∧ s.size ≤ 5000 ∧ m ≤ 5000 := by
      unfold smallB at hq
      simp at hq
      omega
    obtain ⟨hn15, hs5, hm5⟩ := hq5
    cases hq' : smallB n2 0 0
    · have HQ' := Lib.hid (fun W => small_is hq' a2 k2 ⟨#[]⟩ none 0 W rfl (by omega) (by decide) (by decide))
      unfold maxLen at hs hcm hk1m hk2m
      clear hq hq' hm hl hr hn1 hB hn2 hA
      go_enter Try.func7, Try.ntmps7
      go_wp2_with fail
      refine (HQ.out _).mono ?_
      rintro e w1 ⟨rfl, rfl⟩
      go_wp2_with fail
      refine (HQ'.out _).mono ?_
      rintro e w1 ⟨rfl, rfl⟩
      go_wp2_with fail
      refine (wirAwake_any K _).mono ?_
      rintro e w1 ⟨rfl, hb1⟩
      go_wp2
      go_ret
      exact ⟨rfl, by (repeat' first | with_reducible assumption | exact Below.refl _ _ | with_reducible refine Below.drew ?_ | with_reducible refine Below.drewN ?_ _ | with_reducible refine Below.alloc' ?_ _ | with_reducible refine Below.setCell ?_ (by first | exact Nat.le_refl _ | omega | (simp; done) | (simp; omega)) _ | with_reducible refine Below.after ?_ ‹_›)⟩
    · have HQ' := Lib.hid (fun W => small_is hq' a2 k2 ⟨#[]⟩ none 0 W rfl (by omega) (by decide) (by decide))
      have hn25 : n2 ≤ 5000 := by
        unfold smallB at hq'
        simp at hq'
        omega
      have Hm := Lib.hid hm
      have HL := Lib.hid hl
      have Hr := Lib.hid hr
      have H1 := Lib.hid hn1
      have HB1 := Lib.hid hB
      have H2 := Lib.hid hn2
      have HA2 := Lib.hid hA
      unfold maxLen at hs hcm hk1m hk2m
      clear hq hq' hm hl hr hn1 hB hn2 hA
      have hsl : s.data.toList.length = s.size := rfl
      obtain ⟨kU, hkU⟩ : ∃ n, (vL u).length = n := ⟨_, rfl⟩
      obtain ⟨kI, hkI⟩ : ∃ n, (iL x).length = n := ⟨_, rfl⟩
      obtain ⟨kS, hkS⟩ : ∃ n, (textL s.data.toList).length = n := ⟨_, rfl⟩
      obtain ⟨kL, hkL⟩ : ∃ n, (listL l).length = n := ⟨_, rfl⟩
      have pU : 1 ≤ kU ∧ kU ≤ 10 := by rw [← hkU]; exact vL_le10 hu
      have pI : 1 ≤ kI ∧ kI ≤ 10 := by rw [← hkI]; exact vL_le10 (zz_lt h1 h2)
      have pS : 1 ≤ kS ∧ kS ≤ 5010 := by
        have := vL_le10 (show s.data.toList.length < 18446744073709551616 by rw [hsl]; omega)
        rw [← hkS]
        unfold textL
        rw [List.length_append]
        omega
      have pL : 1 ≤ kL ∧ kL ≤ 50010 := by
        have h3 := vL_le10 (show l.length < 18446744073709551616 by rw [Hm.out]; omega)
        have h4 := items_le10 l Hr.out
        have h5 := Hm.out
        rw [← hkL]
        unfold listL
        rw [List.length_append]
        omega
      obtain ⟨X1, hX1⟩ : ∃ X, B ++ vL u = X := ⟨_, rfl⟩
      obtain ⟨X2, hX2⟩ : ∃ X, X1 ++ iL x = X := ⟨_, rfl⟩
      obtain ⟨X3, hX3⟩ : ∃ X, X2 ++ textL s.data.toList = X := ⟨_, rfl⟩
      obtain ⟨R, hRR⟩ : ∃ X, X3 ++ listL l = X := ⟨_, rfl⟩
      have l1 : X1.length = n1 + kU := by rw [← hX1, List.length_append, H1.out, hkU]
      have l2 : X2.length = n1 + kU + kI := by rw [← hX2, List.length_append, l1, hkI]
      have l3 : X3.length = n1 + kU + kI + kS := by rw [← hX3, List.length_append, l2, hkS]
      obtain ⟨nR, hnR⟩ : ∃ n, R.length = n := ⟨_, rfl⟩
      have l4 : nR = n1 + kU + kI + kS + kL := by rw [← hnR, ← hRR, List.length_append, l3, hkL]
      have K1 := Lib.hid (fun W (h : Below w.heap.size w W) => K.putUint_is hX1 a1 n1 k1 W H1.out (by omega) hk1 (HB1.out.kept h) hu)
      have K2 := Lib.hid (fun W b c (hc : X1.length ≤ c) (h : Bytes W b X1) => show Calls Try.prog 19 #[.slice b X1.length c, .int .i64 x] W (GivesBytes W X2) by have := K.putInt b X1 X1.length c x W rfl (by omega) hc h h1 h2; rw [hX2] at this; exact this)
      have K3 := Lib.hid (fun W b c (hc : X2.length ≤ c) (h : Bytes W b X2) => show Calls Try.prog 23 #[.slice b X2.length c, .string s] W (GivesBytes W X3) by have := K.putText b X2 X2.length c s W rfl (by omega) hc h (by omega); rw [hX3] at this; exact this)
      have K4 := Lib.hid (fun W b' c' (hc' : X3.length ≤ c') (h : Bytes W b' X3) (hw : Below w.heap.size w W) => show Calls Try.prog 27 #[.slice b' X3.length c', .slice b m c] W (GivesBytes W R) by have := K.putList b' X3 X3.length c' b l m c W rfl Hm.out (by omega) (by omega) hc' hc h (HL.out.kept hw) Hr.out; rw [hRR] at this; exact this)
      obtain ⟨T, hT⟩ : ∃ T, R ++ A = T := ⟨_, rfl⟩
      have dT : T = B ++ (vL u ++ (iL x ++ (textL s.data.toList ++ (listL l ++ A)))) := by rw [← hT, ← hRR, ← hX3, ← hX2, ← hX1]; simp only [List.append_assoc]
      obtain ⟨p1, hp1⟩ : ∃ p, n1 + kU = p := ⟨_, rfl⟩
      obtain ⟨p2, hp2⟩ : ∃ p, p1 + kI = p := ⟨_, rfl⟩
      obtain ⟨p3, hp3⟩ : ∃ p, p2 + kS = p := ⟨_, rfl⟩
      have D1 := Lib.hid (show T.drop n1 = vL u ++ (iL x ++ (textL s.data.toList ++ (listL l ++ A))) by rw [dT, ← H1.out, List.drop_left])
      have D2 := Lib.hid (drop_next D1.out hkU hp1)
      have D3 := Lib.hid (drop_next D2.out hkI hp2)
      have D4 := Lib.hid (drop_next D3.out hkS hp3)
      have TU := Lib.hid (show takeU (T.drop n1) = (u, kU, 0) by rw [D1.out, take_put _ _ hu, hkU])
      have TI := Lib.hid (show takeI (T.drop p1) = (x, kI, 0) by rw [D2.out, takeI_put _ _ (zz_lt h1 h2), hkI])
      have TS := Lib.hid (show takeT (T.drop p2) (s.size : Int) = (s.data.toList, kS, 0) by rw [D3.out, takeT_put _ _ _ (by rw [hsl]; omega) (by rw [hsl]; exact Int.le_refl _), hkS])
      have TL := Lib.hid (show takeLs (T.drop p3) (m : Int) = (l, kL, 0) by rw [D4.out, takeLs_put _ _ _ (fun y hy => zz_lt (Hr.out y hy).1 (Hr.out y hy).2) (by rw [Hm.out]; omega) (by rw [Hm.out]; exact Int.le_refl _), hkL])
      obtain ⟨nT, hnT⟩ : ∃ n, T.length = n := ⟨_, rfl⟩
      have lT : nT = nR + n2 := by rw [← hnT, ← hT, List.length_append, hnR, H2.out]
      have HT := Lib.hid hT
      have HnT := Lib.hid hnT
      have HnR := Lib.hid hnR
      have HRB := Lib.hid (show R.take n1 = B by rw [← hRR, ← hX3, ← hX2, ← hX1]; simp only [List.append_assoc]; rw [← H1.out, List.take_left])
      obtain ⟨pU1, pU2⟩ := pU
      obtain ⟨pI1, pI2⟩ := pI
      obtain ⟨pS1, pS2⟩ := pS
      obtain ⟨pL1, pL2⟩ := pL
      have j1 : (n1 : Int) + (kU : Int) = (p1 : Int) := by omega
      have j2 : (p1 : Int) + (kI : Int) = (p2 : Int) := by omega
      have j3 : (p2 : Int) + (kS : Int) = (p3 : Int) := by omega
      have L4 : n1 + kU + kI + kS + kL ≤ nR ∧ nR ≤ n1 + kU + kI + kS + kL := by omega
      have P1 : n1 + kU ≤ p1 ∧ p1 ≤ n1 + kU := by omega
      have P2 : p1 + kI ≤ p2 ∧ p2 ≤ p1 + kI := by omega
      have P3 : p2 + kS ≤ p3 ∧ p3 ≤ p2 + kS := by omega
      have LT : nR + n2 ≤ nT ∧ nT ≤ nR + n2 := by omega
      obtain ⟨L4a, L4b⟩ := L4
      obtain ⟨P1a, P1b⟩ := P1
      obtain ⟨P2a, P2b⟩ := P2
      obtain ⟨P3a, P3b⟩ := P3
      obtain ⟨LTa, LTb⟩ := LT
      have J1 := Lib.hid j1
      have J2 := Lib.hid j2
      have J3 := Lib.hid j3
      have L1 := Lib.hid l1
      have L2 := Lib.hid l2
      have L3 := Lib.hid l3
      clear hkU hkI hkS hkL hX1 hX2 hX3 hRR l1 l2 l3 hnR l4 hT dT hp1 hp2 hp3 hnT lT hsl j1 j2 j3
      obtain ⟨SB, hSB⟩ : ∃ S, (⟨B.toArray⟩ : ByteArray) = S := ⟨_, rfl⟩
      have HSB := Lib.hid hSB
      clear hSB
      go_enter Try.func7, Try.ntmps7
      go_wp2_with fail
      refine (HQ.out _).mono ?_
      rintro e w1 ⟨rfl, hw1⟩
      have hbx : BoxAt w1 w.heap.size u x s b m c := by rw [← hw1]; exact ⟨by simp [go_sem], by simp [go_sem], by simp [go_sem], by simp [go_sem]⟩
      have hb1 : Below w.heap.size w w1 := by rw [← hw1]; (repeat' first | with_reducible assumption | exact Below.refl _ _ | with_reducible refine Below.drew ?_ | with_reducible refine Below.drewN ?_ _ | with_reducible refine Below.alloc' ?_ _ | with_reducible refine Below.setCell ?_ (by first | exact Nat.le_refl _ | omega | (simp; done) | (simp; omega)) _ | with_reducible refine Below.after ?_ ‹_›)
      clear hw1 HQ
      go_wp2_with fail
      refine (HQ'.out _).mono ?_
      rintro e w1 ⟨rfl, rfl⟩
      have HB := Lib.hid (fun W (h : Below w1.heap.size w1 W) => (hbx.kept h : BoxAt W w.heap.size u x s b m c))
      clear hbx HQ'
      go_upto_region 4 with fail
      go_region_held3 (fun W => W.cell? ⟨w.heap.size, 0, none⟩ = some (.int .u64 (u : Int)) ∧ W.cell? ⟨w.heap.size, 1, none⟩ = some (.int .i64 x) ∧ W.cell? ⟨w.heap.size, 2, none⟩ = some (.string s) ∧ W.cell? ⟨w.heap.size, 3, none⟩ = some (.slice b m c)) ((refine HB.out _ ?_; ((repeat' first | with_reducible assumption | exact Below.refl _ _ | with_reducible refine Below.drew ?_ | with_reducible refine Below.drewN ?_ _ | with_reducible refine Below.alloc' ?_ _ | with_reducible refine Below.setCell ?_ (by first | exact Nat.le_refl _ | omega | (simp; done) | (simp; omega)) _ | with_reducible refine Below.after ?_ ‹_›)); done)) (first
        | (go_at_call 15; refine (K1.out _ (hb1.trans (Below.mono (?_ : Below w1.heap.size w1 _) hb1.size))).mono ?_; (· (repeat' first | with_reducible assumption | exact Below.refl _ _ | with_reducible refine Below.drew ?_ | with_reducible refine Below.drewN ?_ _ | with_reducible refine Below.alloc' ?_ _ | with_reducible refine Below.setCell ?_ (by first | exact Nat.le_refl _ | omega | (simp; done) | (simp; omega)) _ | with_reducible refine Below.after ?_ ‹_›)); rintro e w2 ⟨b2, c2, rfl, hc2, hi2, hb2⟩)
        | (go_at_call 19; refine (K2.out _ b2 c2 hc2 hi2).mono ?_; rintro e w3 ⟨b3, c3, rfl, hc3, hi3, hb3⟩)
        | (go_at_call 23; refine (K3.out _ b3 c3 hc3 hi3).mono ?_; rintro e w4 ⟨b4, c4, rfl, hc4, hi4, hb4⟩)
        | (go_at_call 27; refine (K4.out _ b4 c4 hc4 hi4 (hb1.trans (Below.mono (?_ : Below w1.heap.size w1 _) hb1.size))).mono ?_; (· (repeat' first | with_reducible assumption | exact Below.refl _ _ | with_reducible refine Below.drew ?_ | with_reducible refine Below.drewN ?_ _ | with_reducible refine Below.alloc' ?_ _ | with_reducible refine Below.setCell ?_ (by first | exact Nat.le_refl _ | omega | (simp; done) | (simp; omega)) _ | with_reducible refine Below.after ?_ ‹_›)); rintro e w5 ⟨b5, c5, rfl, hc5, hi5, hb5⟩))
      have hB5 : Below w1.heap.size w1 w5 := by (repeat' first | with_reducible assumption | exact Below.refl _ _ | with_reducible refine Below.drew ?_ | with_reducible refine Below.drewN ?_ _ | with_reducible refine Below.alloc' ?_ _ | with_reducible refine Below.setCell ?_ (by first | exact Nat.le_refl _ | omega | (simp; done) | (simp; omega)) _ | with_reducible refine Below.after ?_ ‹_›)
      rw [HnR.out] at hc5 ⊢
      clear hi2 hi3 hi4 hb2 hb3 hb4 hb5 hc2 hc3 hc4
      obtain ⟨q1, hq1, hr1⟩ := part_upto und_bytes size_bytes hi5 (n := nR) (j := n1) (cap := c5) (J := (n1 : Int)) rfl (by rw [bytV_length, HnR.out]; omega) (by omega)
      rw [bytV_take, HRB.out] at hr1
      have hBw5 : Bytes w5 a1 B := HB1.out.kept (hb1.trans (hB5.mono hb1.size))
      have hv1 : ∀ q, (convert 22 9 (.slice q1 n1 c5)).run Try.prog (w5.drewN q) = .ok (.string SB) (w5.drewN q) := fun q => by rw [← HSB.out]; exact run_string_bytes Try.underlying22 Try.underlying5 Try.underlying9 (w5.drewN q) q1 B n1 c5 H1.out (hr1.drewN q)
      have hv2 : ∀ q, (convert 22 9 (.slice a1 n1 k1)).run Try.prog (w5.drewN q) = .ok (.string SB) (w5.drewN q) := fun q => by rw [← HSB.out]; exact run_string_bytes Try.underlying22 Try.underlying5 Try.underlying9 (w5.drewN q) a1 B n1 k1 H1.out (hBw5.drewN q)
      have hts1 : (SB.toList == SB.toList) = true := by simp
      have hts2 : (SB.toList != SB.toList) = false := by simp
      have i1 : decide (nR < n1) = false := decide_eq_false (by omega)
      have i2 : decide ((nR : Int) < (n1 : Int)) = false := decide_eq_false (by omega)
      clear hr1 hBw5
      go_upto_region 5 with fail
      go_quiet (fail)
      obtain ⟨W5, hW5⟩ : ∃ W, w5.drewN nq = W := ⟨_, rfl⟩
      have hi5' : Bytes W5 b5 R := by rw [← hW5]; exact hi5.drewN nq
      have hBB : Below w1.heap.size w1 W5 := by rw [← hW5]; exact Below.drewN hB5 nq
      have hA5 : Bytes W5 a2 A := HA2.out.kept (hb1.trans (hBB.mono hb1.size))
      rw [hW5]
      clear hW5 hv1 hv2 hts1 hts2 i1 i2 hq1 hi5 hB5
      go_wp2_with (first
        | (at_builtin; refine wpList_append_reads rfl (.tmp 63) (.tmp 64) Try.underlying22 info_byte rfl (by omega) rfl W5.heap.size (.slice (some ⟨W5.heap.size, 0, none⟩) 0 0) 0 [] rfl (own_made W5 _ rfl (Nat.le_refl _)) b5 nR c5 (bytV R) rfl (by rw [bytV_length]; exact HnR.out) (hi5'.kept ((Below.refl _ W5).alloc (Nat.le_refl _) _)) (bytV_one R) (by omega) (by simp) ?_; intro v6 w6 o6 g6 e6; have hb6 : Below W5.heap.size W5 w6 := below_grown (Below.refl _ W5) g6 (fun g hg => by simp [Value.ownBlock] at hg; omega); rw [Nat.zero_add, List.nil_append] at o6)
        | (at_builtin; refine wpList_append_reads rfl (.tmp 65) (.tmp 66) Try.underlying22 info_byte rfl (by omega) rfl W5.heap.size v6 nR (bytV R) rfl o6 a2 n2 k2 (bytV A) rfl (by rw [bytV_length]; exact H2.out) (hA5.kept hb6) (bytV_one A) (by omega) hb6.size ?_; intro v7 w7 o7 g7 e7; have hb7 : Below W5.heap.size W5 w7 := below_own hb6 g7 (own_base o6); rw [← bytV_append, HT.out, show nR + n2 = nT by omega] at o7; obtain ⟨a7, c7, rfl, -, hr7, -⟩ := own_reads o7; have hc7 := own_cap o7; obtain ⟨q8, hp8, hr8⟩ := part_from und_bytes size_bytes hr7 (n := nT) (i := n1) (cap := c7) (I := (n1 : Int)) rfl (by rw [bytV_length, HnT.out]) (by omega) hc7))
      rw [bytV_drop] at hr8
      have hB7 : Below w1.heap.size w1 w7 := hBB.trans (hb7.mono hBB.size)
      clear o6 g6 e6 o7 g7 e7 hb6 hb7 hi5' hA5 hBB hp8
      refine (K.takeUint_is TU.out q8 (nT - n1) (c7 - n1) _ (by rw [List.length_drop, HnT.out]) (by omega) (by omega) hr8).mono ?_
      rintro e w8 ⟨rfl, hb8⟩
      have hB8 : Below w1.heap.size w1 w8 := hB7.trans (hb8.mono hB7.size)
      have x8 := (HB.out w8 hB8).1
      have j1 := J1.out
      obtain ⟨q9, hp9, hr9⟩ := part_from und_bytes size_bytes (hr7.kept hb8) (n := nT) (i := p1) (cap := c7) (I := (p1 : Int)) rfl (by rw [bytV_length, HnT.out]) (by omega) hc7
      rw [bytV_drop] at hr9
      have r1 : (kU : Int) ≤ (nR : Int) - (n1 : Int) := by omega
      clear hr8
      go_wp2_with fail
      refine (K.takeInt_is TI.out q9 (nT - p1) (c7 - p1) _ (by rw [List.length_drop, HnT.out]) (by omega) (by omega) hr9).mono ?_
      rintro e w9 ⟨rfl, hb9⟩
      have hB9 : Below w1.heap.size w1 w9 := hB8.trans (hb9.mono hB8.size)
      have x9 := (HB.out w9 hB9).2.1
      have h79 : Below w7.heap.size w7 w9 := hb8.trans (hb9.mono hb8.size)
      have j2 := J2.out
      have r2 : (kI : Int) ≤ (nR : Int) - (p1 : Int) := by omega
      clear hp9 hr9 x8 j1 r1 hb8 hb9
      go_upto_region 16 with fail
      obtain ⟨q10, hp10, hr10⟩ := part_from und_bytes size_bytes (hr7.kept h79) (n := nT) (i := p2) (cap := c7) (I := (p2 : Int)) rfl (by rw [bytV_length, HnT.out]) (by omega) hc7
      rw [bytV_drop] at hr10
      have HX9 := Lib.hid (fun W (h : Below w9.heap.size w9 W) => HB.out W (hB9.trans (h.mono hB9.size)))
      have i3 : (0 : Int) ≤ (p2 : Int) := by omega
      have i4 : (p2 : Int) ≤ (nT : Int) := by omega
      clear x9 j2 r2
      go_region_held3 (fun W => W.cell? ⟨w.heap.size, 2, none⟩ = some (.string s)) ((refine (HX9.out _ ?_).2.2.1; ((repeat' first | with_reducible assumption | exact Below.refl _ _ | with_reducible refine Below.drew ?_ | with_reducible refine Below.drewN ?_ _ | with_reducible refine Below.alloc' ?_ _ | with_reducible refine Below.setCell ?_ (by first | exact Nat.le_refl _ | omega | (simp; done) | (simp; omega)) _ | with_reducible refine Below.after ?_ ‹_›)); done)) (first
        | (go_at_call 21; refine (K.takeText_is (s := s) TS.out q10 (nT - p2) (c7 - p2) _ (by rw [List.length_drop, HnT.out]) (by omega) (by omega) (Reads.kept ?_ hr10) (by omega) (by omega)).mono ?_; (· (repeat' first | with_reducible assumption | exact Below.refl _ _ | with_reducible refine Below.drew ?_ | with_reducible refine Below.drewN ?_ _ | with_reducible refine Below.alloc' ?_ _ | with_reducible refine Below.setCell ?_ (by first | exact Nat.le_refl _ | omega | (simp; done) | (simp; omega)) _ | with_reducible refine Below.after ?_ ‹_›)); rintro e w10 ⟨rfl, hb10⟩))
      have h910 : Below w9.heap.size w9 w10 := by (repeat' first | with_reducible assumption | exact Below.refl _ _ | with_reducible refine Below.drew ?_ | with_reducible refine Below.drewN ?_ _ | with_reducible refine Below.alloc' ?_ _ | with_reducible refine Below.setCell ?_ (by first | exact Nat.le_refl _ | omega | (simp; done) | (simp; omega)) _ | with_reducible refine Below.after ?_ ‹_›)
      have hB10 : Below w1.heap.size w1 w10 := hB9.trans (h910.mono hB9.size)
      have h710 : Below w7.heap.size w7 w10 := h79.trans (h910.mono h79.size)
      have x10 := (HB.out w10 hB10).2.2.1
      have hts3 : (s.toList == s.toList) = true := by simp
      have hts4 : (s.toList != s.toList) = false := by simp
      have j3 := J3.out
      have r3 : (kS : Int) ≤ (nR : Int) - (p2 : Int) := by omega
      clear hp10 hr10 hb10 i3 i4
      go_upto_region 20 with fail
      obtain ⟨q11, hp11, hr11⟩ := part_from und_bytes size_bytes (hr7.kept h710) (n := nT) (i := p3) (cap := c7) (I := (p3 : Int)) rfl (by rw [bytV_length, HnT.out]) (by omega) hc7
      rw [bytV_drop] at hr11
      have HX10 := Lib.hid (fun W (h : Below w10.heap.size w10 W) => HB.out W (hB10.trans (h.mono hB10.size)))
      have i5 : (0 : Int) ≤ (p3 : Int) := by omega
      have i6 : (p3 : Int) ≤ (nT : Int) := by omega
      clear x10 j3 r3 h910 hts3 hts4
      go_region_held3 (fun W => W.cell? ⟨w.heap.size, 3, none⟩ = some (.slice b m c)) ((refine (HX10.out _ ?_).2.2.2; ((repeat' first | with_reducible assumption | exact Below.refl _ _ | with_reducible refine Below.drew ?_ | with_reducible refine Below.drewN ?_ _ | with_reducible refine Below.alloc' ?_ _ | with_reducible refine Below.setCell ?_ (by first | exact Nat.le_refl _ | omega | (simp; done) | (simp; omega)) _ | with_reducible refine Below.after ?_ ‹_›)); done)) (first
        | (go_at_call 25; refine (K.takeList_is TL.out q11 (nT - p3) (c7 - p3) _ (by rw [List.length_drop, HnT.out]) (by omega) (by omega) (Reads.kept ?_ hr11) (by omega) (by omega)).mono ?_; (· (repeat' first | with_reducible assumption | exact Below.refl _ _ | with_reducible refine Below.drew ?_ | with_reducible refine Below.drewN ?_ _ | with_reducible refine Below.alloc' ?_ _ | with_reducible refine Below.setCell ?_ (by first | exact Nat.le_refl _ | omega | (simp; done) | (simp; omega)) _ | with_reducible refine Below.after ?_ ‹_›)); rintro e w11 ⟨b11, c11, rfl, -, hi11, hb11⟩))
      have h1011 : Below w10.heap.size w10 w11 := by (repeat' first | with_reducible assumption | exact Below.refl _ _ | with_reducible refine Below.drew ?_ | with_reducible refine Below.drewN ?_ _ | with_reducible refine Below.alloc' ?_ _ | with_reducible refine Below.setCell ?_ (by first | exact Nat.le_refl _ | omega | (simp; done) | (simp; omega)) _ | with_reducible refine Below.after ?_ ‹_›)
      have hB11 : Below w1.heap.size w1 w11 := hB10.trans (h1011.mono hB10.size)
      have x11 := (HB.out w11 hB11).2.2.2
      have r4 : ((kL : Int) == (nR : Int) - (p3 : Int)) = true := by simp; omega
      try simp only [] at hi11
      try simp only []
      rw [Hm.out]
      clear hp11 hr11 hb11 i5 i6
      go_wp2_with fail
      refine (rSame_is (l := l) (m := l) (r := true) (by simp) b11 b m c11 m c _ Hm.out Hm.out (by omega) (by omega) hi11 (HL.out.kept (hb1.trans (hB11.mono hb1.size)))).mono ?_
      rintro e w12 ⟨rfl, hb12⟩
      go_wp2_with fail
      refine (wirAwake_any K _).mono ?_
      rintro e w13 ⟨rfl, hb13⟩
      go_wp2
      go_ret
      exact ⟨rfl, hb1.trans ((hB11.trans ((hb12.trans (hb13.mono hb12.size)).mono hB11.size)).mono hb1.size)⟩
end
end Go.Proofs.Ytcbaihaigamalaa
