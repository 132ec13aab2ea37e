/-
  Walks over the laws of package wire: Short.
-/
import Derived.Test.YtcbaihaigamalaaWirK
import Derived.Deep.RegionHeld3
import Derived.IntWalk
import Derived.Deep.DeepCutAuto
namespace Go.Proofs.Ytcbaihaigamalaa
set_option linter.unusedVariables false
set_option linter.unusedSimpArgs false
open Go.RowKit

/-- the struct Values in a box -/
def BoxAt (w : World) (B : Nat) (u : Nat) (x : Int) (s : ByteArray) (b : Option Addr) (m c : Nat) : Prop :=
  w.cell? ⟨B, 0, none⟩ = some (.int .u64 (u : Int)) ∧ w.cell? ⟨B, 1, none⟩ = some (.int .i64 x) ∧ w.cell? ⟨B, 2, none⟩ = some (.string s) ∧ w.cell? ⟨B, 3, none⟩ = some (.slice b m c)
theorem BoxAt.kept {w w' : World} {B u : Nat} {x : Int} {s : ByteArray} {b : Option Addr} {m c : Nat} (h : BoxAt w B u x s b m c) (hb : Below w.heap.size w w') : BoxAt w' B u x s b m c :=
  ⟨Go.Proofs.Ytcbaihaigamalaa.kept hb h.1, Go.Proofs.Ytcbaihaigamalaa.kept hb h.2.1, Go.Proofs.Ytcbaihaigamalaa.kept hb h.2.2.1, Go.Proofs.Ytcbaihaigamalaa.kept hb h.2.2.2⟩
/-- a place within a row of n bytes -/
theorem mod_place (c n : Nat) (hn : 0 < n) : ∃ j : Nat, j < n ∧ (c : Int) % (n : Int) = (j : Int) ∧ (c : Int).tmod (n : Int) = (j : Int) :=
  ⟨c % n, Nat.mod_lt _ hn, by simp, by rw [Int.tmod_eq_emod_of_nonneg (by omega)]; simp⟩

section
variable (K : WirCon)
include K
set_option maxRecDepth 100000 in
set_option maxHeartbeats 16000000 in
theorem wireShort_of (u : Nat) (x : Int) (s : ByteArray) (b : Option Addr) (l : List Int) (m c : Nat) (cut : Nat) (w : World) (hu : u < 18446744073709551616) (h1 : -9223372036854775808 ≤ x) (h2 : x ≤ 9223372036854775807) (hs : s.size ≤ maxLen)
    (hm : l.length = m) (hc : m ≤ c) (hcm : c ≤ maxLen) (hl : Ints w b l) (hr : ∀ y ∈ l, -9223372036854775808 ≤ y ∧ y ≤ 9223372036854775807) (hcut : cut < 65536) :
    Calls Try.prog 9 #[.agg #[.int .u64 (u : Int), .int .i64 x, .string s, .slice b m c], .int .u16 (cut : Int)] w fun e w' => e = .returned (.bool true) ∧ Below w.heap.size w w' := by
  cases hq : smallB 0 s.size m
  · have HQ := Lib.hid (fun W => small_is hq none 0 s b c W rfl (by decide) hs (by omega))
    unfold maxLen at hs hcm
    clear hq hm hl hr
    go_enter Try.func9, Try.ntmps9
    go_wp2_with fail
    refine (HQ.out _).mono ?_
    rintro e w1 ⟨rfl, rfl⟩
    go_wp2_with fail
    refine (wirAwake_any K _).mono ?_
    rintro e w1 ⟨rfl, hb1⟩
    go_wp2
    go_ret
    exact ⟨rfl, by (repeat' first | with_reducible assumption | exact Below.refl _ _ | with_reducible refine Below.drew ?_ | with_reducible refine Below.drewN ?_ _ | with_reducible refine Below.alloc' ?_ _ | with_reducible refine Below.setCell ?_ (by first | exact Nat.le_refl _ | omega | (simp; done) | (simp; omega)) _ | with_reducible refine Below.after ?_ ‹_›)⟩
  · have HQ := Lib.hid (fun W => small_is hq none 0 s b c W rfl (by decide) hs (by omega))
    have hq5 : s.size ≤ 5000 ∧ m ≤ 5000 := by
      unfold smallB at hq
      simp at hq
      omega
    obtain ⟨hs5, hm5⟩ := hq5
    have Hm := Lib.hid hm
    have HL := Lib.hid hl
    have Hr := Lib.hid hr
    unfold maxLen at hs hcm
    clear hq hm hl hr
    obtain ⟨A, hA⟩ : ∃ A, vL u = A := ⟨_, rfl⟩
    obtain ⟨C, hC⟩ : ∃ A, iL x = A := ⟨_, rfl⟩
    obtain ⟨D, hD⟩ : ∃ A, textL s.data.toList = A := ⟨_, rfl⟩
    obtain ⟨E, hE⟩ : ∃ A, listL l = A := ⟨_, rfl⟩
    obtain ⟨nA, hnA⟩ : ∃ n, A.length = n := ⟨_, rfl⟩
    obtain ⟨nC, hnC⟩ : ∃ n, C.length = n := ⟨_, rfl⟩
    obtain ⟨nD, hnD⟩ : ∃ n, D.length = n := ⟨_, rfl⟩
    obtain ⟨nE, hnE⟩ : ∃ n, E.length = n := ⟨_, rfl⟩
    have hsl : s.data.toList.length = s.size := rfl
    have pA : 1 ≤ nA ∧ nA ≤ 10 := by rw [← hnA, ← hA]; exact vL_le10 hu
    have pC : 1 ≤ nC ∧ nC ≤ 10 := by rw [← hnC, ← hC]; exact vL_le10 (zz_lt h1 h2)
    have pD : 1 ≤ nD ∧ nD ≤ 5010 := by
      have := vL_le10 (show s.data.toList.length < 18446744073709551616 by rw [hsl]; omega)
      rw [← hnD, ← hD]
      unfold textL
      rw [List.length_append]
      omega
    have pE : 1 ≤ nE ∧ nE ≤ 50010 := by
      have h3 := vL_le10 (show l.length < 18446744073709551616 by rw [Hm.out]; omega)
      have h4 := items_le10 l Hr.out
      have h5 := Hm.out
      rw [← hnE, ← hE]
      unfold listL
      rw [List.length_append]
      omega
    have K1 := Lib.hid (fun W => K.putUint_is (l := []) (R := A) (u := u) (by rw [← hA]; rfl) none 0 0 W rfl (by decide) (Nat.le_refl _) (reads_nil _ _) hu)
    have K2 := Lib.hid (fun W => show Calls Try.prog 19 #[.slice none 0 0, .int .i64 x] W (GivesBytes W C) by have := K.putInt none [] 0 0 x W rfl (by decide) (Nat.le_refl _) (reads_nil _ _) h1 h2; rw [List.nil_append, hC] at this; exact this)
    have K3 := Lib.hid (fun W => show Calls Try.prog 23 #[.slice none 0 0, .string s] W (GivesBytes W D) by have := K.putText none [] 0 0 s W rfl (by decide) (Nat.le_refl _) (reads_nil _ _) (by omega); rw [List.nil_append, hD] at this; exact this)
    have K4 := Lib.hid (fun W (h : Below w.heap.size w W) => show Calls Try.prog 27 #[.slice none 0 0, .slice b m c] W (GivesBytes W E) by have := K.putList none [] 0 0 b l m c W rfl Hm.out (by decide) (by omega) (Nat.le_refl _) hc (reads_nil _ _) (HL.out.kept h) Hr.out; rw [List.nil_append, hE] at this; exact this)
    obtain ⟨jA, jA1, jA2, -⟩ := mod_place cut nA (by omega)
    obtain ⟨jC, jC1, jC2, -⟩ := mod_place cut nC (by omega)
    obtain ⟨jD, jD1, -, jD2⟩ := mod_place cut nD (by omega)
    obtain ⟨jE, jE1, -, jE2⟩ := mod_place cut nE (by omega)
    have TA := Lib.hid (show takeU (A.take jA) = (0, 0, 4) by rw [← hA]; exact take_short hu (by rw [hA, hnA]; exact jA1))
    have TC := Lib.hid (show takeI (C.take jC) = (0, 0, 4) by rw [← hC]; exact takeI_short (zz_lt h1 h2) (by rw [hC, hnC]; exact jC1))
    have TD := Lib.hid (show takeT (D.take jD) (s.size : Int) = ((⟨#[]⟩ : ByteArray).data.toList, 0, 4) by rw [← hD]; exact takeT_short (by rw [hsl]; omega) (by rw [hsl]; exact Int.le_refl _) (by rw [hD, hnD]; exact jD1))
    have TE := Lib.hid (show takeLs (E.take jE) (m : Int) = ([], 0, 4) by rw [← hE]; exact takeLs_short (fun y hy => zz_lt (Hr.out y hy).1 (Hr.out y hy).2) (by rw [Hm.out]; omega) (by rw [Hm.out]; exact Int.le_refl _) (by rw [hE, hnE]; exact jE1))
    have HnA := Lib.hid hnA
    have HnC := Lib.hid hnC
    have HnD := Lib.hid hnD
    have HnE := Lib.hid hnE
    have z1 : ((nA : Int) == 0) = false := by simp; omega
    have z2 : ((nC : Int) == 0) = false := by simp; omega
    have z3 : ((nD : Int) == 0) = false := by simp; omega
    have z4 : ((nE : Int) == 0) = false := by simp; omega
    obtain ⟨pA1, pA2⟩ := pA
    obtain ⟨pC1, pC2⟩ := pC
    obtain ⟨pD1, pD2⟩ := pD
    obtain ⟨pE1, pE2⟩ := pE
    clear hA hC hD hE hnA hnC hnD hnE hsl
    have HJA := Lib.hid jA2
    have HJC := Lib.hid jC2
    have HJD := Lib.hid jD2
    have HJE := Lib.hid jE2
    clear jA2 jC2 jD2 jE2
    go_enter Try.func9, Try.ntmps9
    go_wp2_with fail
    refine (HQ.out _).mono ?_
    rintro e w1 ⟨rfl, hw1⟩
    have hbx : BoxAt w1 w.heap.size u x s b m c := by rw [← hw1]; exact ⟨by simp [go_sem], by simp [go_sem], by simp [go_sem], by simp [go_sem]⟩
    have hb1 : Below w.heap.size w w1 := by rw [← hw1]; (repeat' first | with_reducible assumption | exact Below.refl _ _ | with_reducible refine Below.drew ?_ | with_reducible refine Below.drewN ?_ _ | with_reducible refine Below.alloc' ?_ _ | with_reducible refine Below.setCell ?_ (by first | exact Nat.le_refl _ | omega | (simp; done) | (simp; omega)) _ | with_reducible refine Below.after ?_ ‹_›)
    clear hw1 HQ
    have HB := Lib.hid (fun W (h : Below w1.heap.size w1 W) => (hbx.kept h : BoxAt W w.heap.size u x s b m c))
    clear hbx
    go_upto_region 3 with fail
    go_region_held3 (fun W => W.cell? ⟨w.heap.size, 0, none⟩ = some (.int .u64 (u : Int)) ∧ W.cell? ⟨w.heap.size, 1, none⟩ = some (.int .i64 x) ∧ W.cell? ⟨w.heap.size, 2, none⟩ = some (.string s) ∧ W.cell? ⟨w.heap.size, 3, none⟩ = some (.slice b m c)) ((refine HB.out _ ?_; ((repeat' first | with_reducible assumption | exact Below.refl _ _ | with_reducible refine Below.drew ?_ | with_reducible refine Below.drewN ?_ _ | with_reducible refine Below.alloc' ?_ _ | with_reducible refine Below.setCell ?_ (by first | exact Nat.le_refl _ | omega | (simp; done) | (simp; omega)) _ | with_reducible refine Below.after ?_ ‹_›)); done)) (first
      | (go_at_call 15; (with_reducible refine (K1.out _).mono ?_); rintro e w2 ⟨b2, c2, rfl, hc2, hi2, hb2⟩)
      | (go_at_call 19; (with_reducible refine (K2.out _).mono ?_); rintro e w3 ⟨b3, c3, rfl, hc3, hi3, hb3⟩)
      | (go_at_call 23; (with_reducible refine (K3.out _).mono ?_); rintro e w4 ⟨b4, c4, rfl, hc4, hi4, hb4⟩)
      | (go_at_call 27; refine (K4.out _ (hb1.trans (Below.mono (?_ : Below w1.heap.size w1 _) hb1.size))).mono ?_; (· (repeat' first | with_reducible assumption | exact Below.refl _ _ | with_reducible refine Below.drew ?_ | with_reducible refine Below.drewN ?_ _ | with_reducible refine Below.alloc' ?_ _ | with_reducible refine Below.setCell ?_ (by first | exact Nat.le_refl _ | omega | (simp; done) | (simp; omega)) _ | with_reducible refine Below.after ?_ ‹_›)); rintro e w5 ⟨b5, c5, rfl, hc5, hi5, hb5⟩))
    have hB5 : Below w1.heap.size w1 w5 := by (repeat' first | with_reducible assumption | exact Below.refl _ _ | with_reducible refine Below.drew ?_ | with_reducible refine Below.drewN ?_ _ | with_reducible refine Below.alloc' ?_ _ | with_reducible refine Below.setCell ?_ (by first | exact Nat.le_refl _ | omega | (simp; done) | (simp; omega)) _ | with_reducible refine Below.after ?_ ‹_›)
    have hbx5 := HB.out w5 hB5
    have hi2' : Bytes w5 b2 A := hi2.kept (hb3.trans ((hb4.trans (hb5.mono hb4.size)).mono hb3.size))
    have hi3' : Bytes w5 b3 C := hi3.kept (hb4.trans (hb5.mono hb4.size))
    have hi4' : Bytes w5 b4 D := hi4.kept hb5
    rw [HnA.out] at hc2 ⊢
    rw [HnC.out] at hc3 ⊢
    rw [HnD.out] at hc4 ⊢
    rw [HnE.out] at hc5 ⊢
    obtain ⟨q2, hp2, hr2⟩ := part_upto und_bytes size_bytes hi2' (n := nA) (j := jA) (cap := c2) (J := (jA : Int)) rfl (by rw [bytV_length, HnA.out]; omega) (by omega)
    obtain ⟨q3, hp3, hr3⟩ := part_upto und_bytes size_bytes hi3' (n := nC) (j := jC) (cap := c3) (J := (jC : Int)) rfl (by rw [bytV_length, HnC.out]; omega) (by omega)
    obtain ⟨q4, hp4, hr4⟩ := part_upto und_bytes size_bytes hi4' (n := nD) (j := jD) (cap := c4) (J := (jD : Int)) rfl (by rw [bytV_length, HnD.out]; omega) (by omega)
    obtain ⟨q5, hp5, hr5⟩ := part_upto und_bytes size_bytes hi5 (n := nE) (j := jE) (cap := c5) (J := (jE : Int)) rfl (by rw [bytV_length, HnE.out]; omega) (by omega)
    rw [bytV_take] at hr2 hr3 hr4 hr5
    have LA := Lib.hid (show (A.take jA).length = jA by rw [List.length_take, HnA.out]; omega)
    have LC := Lib.hid (show (C.take jC).length = jC by rw [List.length_take, HnC.out]; omega)
    have LD := Lib.hid (show (D.take jD).length = jD by rw [List.length_take, HnD.out]; omega)
    have LE := Lib.hid (show (E.take jE).length = jE by rw [List.length_take, HnE.out]; omega)
    have HP4 := Lib.hid hp4
    have HP5 := Lib.hid hp5
    have jA2 := HJA.out
    clear hi2 hi3 hi4 hi2' hi3' hi4' hi5 hb2 hb3 hb4 hb5 hp4 hp5
    go_wp2_with fail
    refine (K.takeUint_is TA.out q2 jA c2 _ LA.out (by omega) (by omega) hr2).mono ?_
    rintro e w6 ⟨rfl, hb6⟩
    have jC2 := HJC.out
    clear jA2 hp2
    go_wp2_with fail
    refine (K.takeInt_is TC.out q3 jC c3 _ LC.out (by omega) (by omega) (hr3.kept hb6)).mono ?_
    rintro e w7 ⟨rfl, hb7⟩
    clear jC2 hp3
    go_upto_region 8 with fail
    have hB7 : Below w5.heap.size w5 w7 := hb6.trans (hb7.mono hb6.size)
    have HX := Lib.hid (fun W (h : Below w7.heap.size w7 W) => (hbx5.kept (hB7.trans (h.mono hB7.size)) : BoxAt W w.heap.size u x s b m c))
    have v1 : IntKind.i64.wrap (cut : Int) = (cut : Int) := IntWalk.i64_in _ (by omega)
    have v2 : IntKind.i64.wrap (jD : Int) = (jD : Int) := IntWalk.i64_in _ (by omega)
    have v3 : IntKind.i64.wrap (jE : Int) = (jE : Int) := IntWalk.i64_in _ (by omega)
    have jD2 := HJD.out
    have hp4 := HP4.out
    have d1 : ¬ (nD : Int) = 0 := by omega
    have d2 : ¬ (nE : Int) = 0 := by omega
    have d3 : ¬ nD = 0 := by omega
    have d4 : ¬ nE = 0 := by omega
    go_region_held3 (fun W => W.cell? ⟨w.heap.size, 2, none⟩ = some (.string s)) ((refine (HX.out _ ?_).2.2.1; ((repeat' first | with_reducible assumption | exact Below.refl _ _ | with_reducible refine Below.drew ?_ | with_reducible refine Below.drewN ?_ _ | with_reducible refine Below.alloc' ?_ _ | with_reducible refine Below.setCell ?_ (by first | exact Nat.le_refl _ | omega | (simp; done) | (simp; omega)) _ | with_reducible refine Below.after ?_ ‹_›)); done)) (first
      | (go_at_call 21; refine (K.takeText_is (s := ⟨#[]⟩) TD.out q4 jD c4 _ LD.out (by omega) (by omega) (Reads.kept ?_ hr4) (by omega) (by omega)).mono ?_; (· exact hB7.trans (Below.mono (by (repeat' first | with_reducible assumption | exact Below.refl _ _ | with_reducible refine Below.drew ?_ | with_reducible refine Below.drewN ?_ _ | with_reducible refine Below.alloc' ?_ _ | with_reducible refine Below.setCell ?_ (by first | exact Nat.le_refl _ | omega | (simp; done) | (simp; omega)) _ | with_reducible refine Below.after ?_ ‹_›)) hB7.size)); rintro e w8 ⟨rfl, hb8⟩))
    have hB78 : Below w7.heap.size w7 w8 := by (repeat' first | with_reducible assumption | exact Below.refl _ _ | with_reducible refine Below.drew ?_ | with_reducible refine Below.drewN ?_ _ | with_reducible refine Below.alloc' ?_ _ | with_reducible refine Below.setCell ?_ (by first | exact Nat.le_refl _ | omega | (simp; done) | (simp; omega)) _ | with_reducible refine Below.after ?_ ‹_›)
    have hB8 : Below w5.heap.size w5 w8 := hB7.trans (hB78.mono hB7.size)
    have jE2 := HJE.out
    have hp5 := HP5.out
    have HX8 := Lib.hid (fun W (h : Below w8.heap.size w8 W) => HX.out W (hB78.trans (h.mono hB78.size)))
    clear jD2 hp4 HX v2 d1 d3 hb8
    go_upto_region 9 with fail
    go_region_held3 (fun W => W.cell? ⟨w.heap.size, 3, none⟩ = some (.slice b m c)) ((refine (HX8.out _ ?_).2.2.2; ((repeat' first | with_reducible assumption | exact Below.refl _ _ | with_reducible refine Below.drew ?_ | with_reducible refine Below.drewN ?_ _ | with_reducible refine Below.alloc' ?_ _ | with_reducible refine Below.setCell ?_ (by first | exact Nat.le_refl _ | omega | (simp; done) | (simp; omega)) _ | with_reducible refine Below.after ?_ ‹_›)); done)) (first
      | (go_at_call 25; refine (K.takeList_is TE.out q5 jE c5 _ LE.out (by omega) (by omega) (Reads.kept ?_ hr5) (by omega) (by omega)).mono ?_; (· exact hB8.trans (Below.mono (by (repeat' first | with_reducible assumption | exact Below.refl _ _ | with_reducible refine Below.drew ?_ | with_reducible refine Below.drewN ?_ _ | with_reducible refine Below.alloc' ?_ _ | with_reducible refine Below.setCell ?_ (by first | exact Nat.le_refl _ | omega | (simp; done) | (simp; omega)) _ | with_reducible refine Below.after ?_ ‹_›)) hB8.size)); rintro e w9 ⟨b9, c9, rfl, -, -, hb9⟩))
    have hB9 : Below w8.heap.size w8 w9 := by (repeat' first | with_reducible assumption | exact Below.refl _ _ | with_reducible refine Below.drew ?_ | with_reducible refine Below.drewN ?_ _ | with_reducible refine Below.alloc' ?_ _ | with_reducible refine Below.setCell ?_ (by first | exact Nat.le_refl _ | omega | (simp; done) | (simp; omega)) _ | with_reducible refine Below.after ?_ ‹_›)
    clear hb9
    go_wp2_with fail
    refine (wirAwake_any K _).mono ?_
    rintro e wA ⟨rfl, hbA⟩
    go_wp2
    go_ret
    exact ⟨rfl, hb1.trans ((hB5.trans ((hB8.trans ((hB9.trans (hbA.mono hB9.size)).mono hB8.size)).mono hB5.size)).mono hb1.size)⟩
end
end Go.Proofs.Ytcbaihaigamalaa
