/-
  Walks over the laws of package wire: Uints, Ints, Texts, Lists (each ends in a region that draws its order and holds calls that make memory).
-/
import Derived.Test.YtcbaihaigamalaaWirK
import Derived.Deep.RegionHeld
namespace Go.Proofs.Ytcbaihaigamalaa
set_option linter.unusedVariables false
set_option linter.unusedSimpArgs false
open Go.RowKit

section
variable (K : WirCon)
include K
set_option maxRecDepth 100000 in
set_option maxHeartbeats 16000000 in
theorem wireUints_of (a : Option Addr) (l : List UInt8) (n cap : Nat) (u : Nat) (w : World) (hn : l.length = n) (hc : n ≤ cap) (hb : cap ≤ maxLen) (hl : Bytes w a l) (hu : u < 18446744073709551616) :
    Calls Try.prog 3 #[.slice a n cap, .int .u64 (u : Int)] w fun e w' => e = .returned (.bool true) ∧ Below w.heap.size w w' := by
  cases hq : smallB n 0 0
  · have HQ := Lib.hid (small_is hq a cap ⟨#[]⟩ none 0 w rfl (by omega) (by decide) (by decide))
    clear hq
    unfold maxLen at hb
    clear hn hl
    go_enter Try.func3, Try.ntmps3
    go_wp2_with fail
    refine HQ.out.mono ?_
    rintro e w1 ⟨rfl, rfl⟩
    go_wp2_with fail
    refine (wirAwake_any K _).mono ?_
    rintro e w1 ⟨rfl, hb1⟩
    go_wp2
    go_ret
    exact ⟨rfl, hb1⟩
  · have HQ := Lib.hid (small_is hq a cap ⟨#[]⟩ none 0 w rfl (by omega) (by decide) (by decide))
    have hq5 : n ≤ 5000 ∧ 0 ≤ 5000 ∧ 0 ≤ 5000 := by
      unfold smallB at hq
      simp at hq
      simp
      omega
    obtain ⟨hn5, hs5, hm5⟩ := hq5
    have Hn := Lib.hid hn
    have HL := Lib.hid hl
    obtain ⟨⟨v, k, e⟩, hr⟩ : ∃ r, takeU l = r := ⟨_, rfl⟩
    have HR := Lib.hid hr
    clear hr
    obtain ⟨R, hR⟩ : ∃ R, l ++ vL u = R := ⟨_, rfl⟩
    have HR2 := Lib.hid hR
    unfold maxLen at hb
    clear hn hl
    clear hq hR
    obtain ⟨S, hS⟩ : ∃ S, (⟨R.toArray⟩ : ByteArray) = S := ⟨_, rfl⟩
    have Hcv := Lib.hid (fun (W : World) (b : Option Addr) (c : Nat) (h : Bytes W b R) => show (convert 22 9 (.slice b R.length c)).run Try.prog W = .ok (.string S) W by rw [← hS]; exact run_string_bytes Try.underlying22 Try.underlying5 Try.underlying9 W b R R.length c rfl h)
    have hts : (S.toList == S.toList) = true := by simp
    clear hS
    go_enter Try.func3, Try.ntmps3
    go_wp2_with fail
    refine HQ.out.mono ?_
    rintro e w1 ⟨rfl, rfl⟩
    go_wp2_with fail
    refine (K.takeUint_is HR.out a n cap _ Hn.out (by omega) hc HL.out).mono ?_
    rintro e w1 ⟨rfl, hb1⟩
    go_wp2_with fail
    refine (rTakeUint_is HR.out a n cap _ Hn.out (by omega) (HL.out.kept hb1)).mono ?_
    rintro e w2 ⟨rfl, rfl⟩
    go_wp2_with fail
    have HL1 := Lib.hid (HL.out.kept hb1)
    have HA := Lib.hid (fun W => wirAwake_any K W)
    have HP := Lib.hid (K.putUint_is HR2.out a n cap w1.drew Hn.out (by omega) hc HL1.out.drew hu)
    have HQ2 := Lib.hid (fun W (h : Below w1.drew.heap.size w1.drew W) => rPutUint_gives HR2.out a n cap W Hn.out (by omega) (HL1.out.drew.kept h) hu)
    clear HQ
    go_region_held (fun _ => True) (trivial) (first
      | (go_at_call 15; (with_reducible refine HP.out.mono ?_); rintro e w3 ⟨b3, c3, rfl, -, hi3, hb3⟩; have hv3 := Hcv.out _ _ c3 hi3)
      | (go_at_call 16; (with_reducible refine (HQ2.out _ hb3).mono ?_); rintro e w4 ⟨b4, c4, rfl, -, hi4, hb4⟩; have hv4 := Hcv.out _ _ c4 hi4; have hv34 := Hcv.out _ _ c3 (hi3.kept hb4))
      | (go_at_call 12; (with_reducible refine (HA.out _).mono ?_); rintro e w5 ⟨rfl, hb5⟩))
    all_goals go_wp2
    all_goals go_ret
    all_goals exact ⟨rfl, by (repeat' first | with_reducible assumption | exact Below.refl _ _ | with_reducible refine Below.drew ?_ | with_reducible refine Below.drewN ?_ _ | with_reducible refine Below.alloc' ?_ _ | with_reducible refine Below.setCell ?_ (by first | exact Nat.le_refl _ | omega | (simp; done) | (simp; omega)) _ | with_reducible refine Below.after ?_ ‹_›)⟩
set_option maxRecDepth 100000 in
set_option maxHeartbeats 16000000 in
theorem wireInts_of (a : Option Addr) (l : List UInt8) (n cap : Nat) (x : Int) (w : World) (hn : l.length = n) (hc : n ≤ cap) (hb : cap ≤ maxLen) (hl : Bytes w a l) (h1 : -9223372036854775808 ≤ x) (h2 : x ≤ 9223372036854775807) :
    Calls Try.prog 4 #[.slice a n cap, .int .i64 x] w fun e w' => e = .returned (.bool true) ∧ Below w.heap.size w w' := by
  cases hq : smallB n 0 0
  · have HQ := Lib.hid (small_is hq a cap ⟨#[]⟩ none 0 w rfl (by omega) (by decide) (by decide))
    clear hq
    unfold maxLen at hb
    clear hn hl
    go_enter Try.func4, Try.ntmps4
    go_wp2_with fail
    refine HQ.out.mono ?_
    rintro e w1 ⟨rfl, rfl⟩
    go_wp2_with fail
    refine (wirAwake_any K _).mono ?_
    rintro e w1 ⟨rfl, hb1⟩
    go_wp2
    go_ret
    exact ⟨rfl, hb1⟩
  · have HQ := Lib.hid (small_is hq a cap ⟨#[]⟩ none 0 w rfl (by omega) (by decide) (by decide))
    have hq5 : n ≤ 5000 ∧ 0 ≤ 5000 ∧ 0 ≤ 5000 := by
      unfold smallB at hq
      simp at hq
      simp
      omega
    obtain ⟨hn5, hs5, hm5⟩ := hq5
    have Hn := Lib.hid hn
    have HL := Lib.hid hl
    obtain ⟨⟨v, k, e⟩, hr⟩ : ∃ r, takeI l = r := ⟨_, rfl⟩
    have HR := Lib.hid hr
    clear hr
    obtain ⟨R, hR⟩ : ∃ R, l ++ iL x = R := ⟨_, rfl⟩
    have HR2 := Lib.hid hR
    unfold maxLen at hb
    clear hn hl
    clear hq hR
    obtain ⟨S, hS⟩ : ∃ S, (⟨R.toArray⟩ : ByteArray) = S := ⟨_, rfl⟩
    have Hcv := Lib.hid (fun (W : World) (b : Option Addr) (c : Nat) (h : Bytes W b R) => show (convert 22 9 (.slice b R.length c)).run Try.prog W = .ok (.string S) W by rw [← hS]; exact run_string_bytes Try.underlying22 Try.underlying5 Try.underlying9 W b R R.length c rfl h)
    have hts : (S.toList == S.toList) = true := by simp
    clear hS
    go_enter Try.func4, Try.ntmps4
    go_wp2_with fail
    refine HQ.out.mono ?_
    rintro e w1 ⟨rfl, rfl⟩
    go_wp2_with fail
    refine (K.takeInt_is HR.out a n cap _ Hn.out (by omega) hc HL.out).mono ?_
    rintro e w1 ⟨rfl, hb1⟩
    go_wp2_with fail
    refine (rTakeInt_is HR.out a n cap _ Hn.out (by omega) (HL.out.kept hb1)).mono ?_
    rintro e w2 ⟨rfl, rfl⟩
    go_wp2_with fail
    have HL1 := Lib.hid (HL.out.kept hb1)
    have HA := Lib.hid (fun W => wirAwake_any K W)
    have HP := Lib.hid (by have := K.putInt a l n cap x w1.drew Hn.out (by omega) hc HL1.out.drew h1 h2; rw [HR2.out] at this; exact this)
    have HQ2 := Lib.hid (fun W (h : Below w1.drew.heap.size w1.drew W) => rPutInt_gives HR2.out a n cap W Hn.out (by omega) (HL1.out.drew.kept h) h1 h2)
    clear HQ
    go_region_held (fun _ => True) (trivial) (first
      | (go_at_call 19; (with_reducible refine HP.out.mono ?_); rintro e w3 ⟨b3, c3, rfl, -, hi3, hb3⟩; have hv3 := Hcv.out _ _ c3 hi3)
      | (go_at_call 20; (with_reducible refine (HQ2.out _ hb3).mono ?_); rintro e w4 ⟨b4, c4, rfl, -, hi4, hb4⟩; have hv4 := Hcv.out _ _ c4 hi4; have hv34 := Hcv.out _ _ c3 (hi3.kept hb4))
      | (go_at_call 12; (with_reducible refine (HA.out _).mono ?_); rintro e w5 ⟨rfl, hb5⟩))
    all_goals go_wp2
    all_goals go_ret
    all_goals exact ⟨rfl, by (repeat' first | with_reducible assumption | exact Below.refl _ _ | with_reducible refine Below.drew ?_ | with_reducible refine Below.drewN ?_ _ | with_reducible refine Below.alloc' ?_ _ | with_reducible refine Below.setCell ?_ (by first | exact Nat.le_refl _ | omega | (simp; done) | (simp; omega)) _ | with_reducible refine Below.after ?_ ‹_›)⟩
set_option maxRecDepth 100000 in
set_option maxHeartbeats 16000000 in
theorem wireTexts_of (a : Option Addr) (l : List UInt8) (n cap : Nat) (s : ByteArray) (most : Int) (w : World) (hn : l.length = n) (hc : n ≤ cap) (hb : cap ≤ maxLen) (hl : Bytes w a l) (hs : s.size ≤ maxLen) (h1 : -9223372036854775808 ≤ most) (h2 : most ≤ 9223372036854775807) :
    Calls Try.prog 5 #[.slice a n cap, .string s, .int .i64 most] w fun e w' => e = .returned (.bool true) ∧ Below w.heap.size w w' := by
  cases hq : smallB n s.size 0
  · have HQ := Lib.hid (small_is hq a cap s none 0 w rfl (by omega) hs (by decide))
    clear hq
    unfold maxLen at hb hs
    clear hn hl
    go_enter Try.func5, Try.ntmps5
    go_wp2_with fail
    refine HQ.out.mono ?_
    rintro e w1 ⟨rfl, rfl⟩
    go_wp2_with fail
    refine (wirAwake_any K _).mono ?_
    rintro e w1 ⟨rfl, hb1⟩
    go_wp2
    go_ret
    exact ⟨rfl, hb1⟩
  · have HQ := Lib.hid (small_is hq a cap s none 0 w rfl (by omega) hs (by decide))
    have hq5 : n ≤ 5000 ∧ s.size ≤ 5000 ∧ 0 ≤ 5000 := by
      unfold smallB at hq
      simp at hq
      simp
      omega
    obtain ⟨hn5, hs5, hm5⟩ := hq5
    have Hn := Lib.hid hn
    have HL := Lib.hid hl
    obtain ⟨⟨V, k, e⟩, hr⟩ : ∃ r, takeT l most = r := ⟨_, rfl⟩
    obtain ⟨v, hv⟩ : ∃ v, (⟨V.toArray⟩ : ByteArray) = v := ⟨_, rfl⟩
    have HR := Lib.hid (show takeT l most = (v.data.toList, k, e) by rw [hr, ← hv])
    have hts2 : (v.toList == v.toList) = true := by simp
    clear hr hv
    obtain ⟨R, hR⟩ : ∃ R, l ++ textL s.data.toList = R := ⟨_, rfl⟩
    have HR2 := Lib.hid hR
    unfold maxLen at hb hs
    clear hn hl
    clear hq hR
    obtain ⟨S, hS⟩ : ∃ S, (⟨R.toArray⟩ : ByteArray) = S := ⟨_, rfl⟩
    have Hcv := Lib.hid (fun (W : World) (b : Option Addr) (c : Nat) (h : Bytes W b R) => show (convert 22 9 (.slice b R.length c)).run Try.prog W = .ok (.string S) W by rw [← hS]; exact run_string_bytes Try.underlying22 Try.underlying5 Try.underlying9 W b R R.length c rfl h)
    have hts : (S.toList == S.toList) = true := by simp
    clear hS
    go_enter Try.func5, Try.ntmps5
    go_wp2_with fail
    refine HQ.out.mono ?_
    rintro e w1 ⟨rfl, rfl⟩
    go_wp2_with fail
    refine (K.takeText_is HR.out a n cap _ Hn.out (by omega) hc HL.out h1 h2).mono ?_
    rintro e w1 ⟨rfl, hb1⟩
    go_wp2_with fail
    refine (rTakeText_is HR.out a n cap _ Hn.out (by omega) hc (HL.out.kept hb1) h2).mono ?_
    rintro e w2 ⟨rfl, rfl⟩
    go_wp2_with fail
    have HL1 := Lib.hid (HL.out.kept hb1)
    have HA := Lib.hid (fun W => wirAwake_any K W)
    have HP := Lib.hid (by have := K.putText a l n cap s w1.drew Hn.out (by omega) hc HL1.out.drew (by omega); rw [HR2.out] at this; exact this)
    have HQ2 := Lib.hid (fun W (h : Below w1.drew.heap.size w1.drew W) => rPutText_gives HR2.out a n cap W Hn.out (by omega) (HL1.out.drew.kept h) (by omega))
    clear HQ
    go_region_held (fun _ => True) (trivial) (first
      | (go_at_call 23; (with_reducible refine HP.out.mono ?_); rintro e w3 ⟨b3, c3, rfl, -, hi3, hb3⟩; have hv3 := Hcv.out _ _ c3 hi3)
      | (go_at_call 24; (with_reducible refine (HQ2.out _ hb3).mono ?_); rintro e w4 ⟨b4, c4, rfl, -, hi4, hb4⟩; have hv4 := Hcv.out _ _ c4 hi4; have hv34 := Hcv.out _ _ c3 (hi3.kept hb4))
      | (go_at_call 12; (with_reducible refine (HA.out _).mono ?_); rintro e w5 ⟨rfl, hb5⟩))
    all_goals go_wp2
    all_goals go_ret
    all_goals exact ⟨rfl, by (repeat' first | with_reducible assumption | exact Below.refl _ _ | with_reducible refine Below.drew ?_ | with_reducible refine Below.drewN ?_ _ | with_reducible refine Below.alloc' ?_ _ | with_reducible refine Below.setCell ?_ (by first | exact Nat.le_refl _ | omega | (simp; done) | (simp; omega)) _ | with_reducible refine Below.after ?_ ‹_›)⟩
set_option maxRecDepth 100000 in
set_option maxHeartbeats 16000000 in
theorem wireLists_of (a : Option Addr) (l : List UInt8) (n cap : Nat) (b : Option Addr) (x : List Int) (m c : Nat) (most : Int) (w : World) (hn : l.length = n) (hc : n ≤ cap) (hb : cap ≤ maxLen) (hl : Bytes w a l) (hm : x.length = m) (hc2 : m ≤ c) (hb2 : c ≤ maxLen) (hx : Ints w b x) (hr0 : ∀ y ∈ x, -9223372036854775808 ≤ y ∧ y ≤ 9223372036854775807) (h1 : -9223372036854775808 ≤ most) (h2 : most ≤ 9223372036854775807) :
    Calls Try.prog 6 #[.slice a n cap, .slice b m c, .int .i64 most] w fun e w' => e = .returned (.bool true) ∧ Below w.heap.size w w' := by
  cases hq : smallB n 0 m
  · have HQ := Lib.hid (small_is hq a cap ⟨#[]⟩ b c w rfl (by omega) (by decide) (by omega))
    clear hq
    unfold maxLen at hb hb2
    clear hn hl hm hx hr0
    go_enter Try.func6, Try.ntmps6
    go_wp2_with fail
    refine HQ.out.mono ?_
    rintro e w1 ⟨rfl, rfl⟩
    go_wp2_with fail
    refine (wirAwake_any K _).mono ?_
    rintro e w1 ⟨rfl, hb1⟩
    go_wp2
    go_ret
    exact ⟨rfl, hb1⟩
  · have HQ := Lib.hid (small_is hq a cap ⟨#[]⟩ b c w rfl (by omega) (by decide) (by omega))
    have hq5 : n ≤ 5000 ∧ 0 ≤ 5000 ∧ m ≤ 5000 := by
      unfold smallB at hq
      simp at hq
      simp
      omega
    obtain ⟨hn5, hs5, hm5⟩ := hq5
    have Hn := Lib.hid hn
    have HL := Lib.hid hl
    have Hm := Lib.hid hm
    have HX := Lib.hid hx
    have Hr0 := Lib.hid hr0
    obtain ⟨⟨V, k, e⟩, hr⟩ : ∃ r, takeLs l most = r := ⟨_, rfl⟩
    have HR := Lib.hid hr
    obtain ⟨q, hqq⟩ : ∃ q, V.length = q := ⟨_, rfl⟩
    have Hqq := Lib.hid hqq
    have hqb : q ≤ 5000 := by
      have h := takeLs_count l most
      rw [hr, hn] at h
      simp only [hqq] at h
      omega
    clear hr hqq
    obtain ⟨R, hR⟩ : ∃ R, l ++ listL x = R := ⟨_, rfl⟩
    have HR2 := Lib.hid hR
    unfold maxLen at hb hb2
    clear hn hl hm hx hr0
    clear hq hR
    obtain ⟨S, hS⟩ : ∃ S, (⟨R.toArray⟩ : ByteArray) = S := ⟨_, rfl⟩
    have Hcv := Lib.hid (fun (W : World) (b : Option Addr) (c : Nat) (h : Bytes W b R) => show (convert 22 9 (.slice b R.length c)).run Try.prog W = .ok (.string S) W by rw [← hS]; exact run_string_bytes Try.underlying22 Try.underlying5 Try.underlying9 W b R R.length c rfl h)
    have hts : (S.toList == S.toList) = true := by simp
    clear hS
    go_enter Try.func6, Try.ntmps6
    go_wp2_with fail
    refine HQ.out.mono ?_
    rintro e w1 ⟨rfl, rfl⟩
    go_wp2_with fail
    refine (K.takeList_is HR.out a n cap _ Hn.out (by omega) hc HL.out h1 h2).mono ?_
    rintro e w1 ⟨bv, cv, rfl, -, hv1, hb1⟩
    simp only [] at hv1 ⊢
    rw [Hqq.out]
    go_wp2_with fail
    refine (rTakeList_is HR.out a n cap _ Hn.out (by omega) hc (HL.out.kept hb1) h2).mono ?_
    rintro e w2 ⟨bw, cw, rfl, -, hw1, hb2'⟩
    simp only [] at hw1 ⊢
    rw [Hqq.out]
    go_wp2_with fail
    have HL1 := Lib.hid ((HL.out.kept hb1).kept hb2')
    have HA := Lib.hid (fun W => wirAwake_any K W)
    have HP := Lib.hid (by have := K.putList a l n cap b x m c w2.drew Hn.out Hm.out (by omega) (by omega) hc hc2 HL1.out.drew ((HX.out.kept hb1).kept hb2').drew Hr0.out; rw [HR2.out] at this; exact this)
    have HQ2 := Lib.hid (fun W (h : Below w2.drew.heap.size w2.drew W) => rPutList_gives HR2.out a n cap b m c W Hn.out Hm.out (by omega) (by omega) (HL1.out.drew.kept h) (((HX.out.kept hb1).kept hb2').drew.kept h) Hr0.out)
    clear HQ
    go_region_held (fun _ => True) (trivial) (first
      | (go_at_call 27; (with_reducible refine HP.out.mono ?_); rintro e w3 ⟨b3, c3, rfl, -, hi3, hb3⟩; have hv3 := Hcv.out _ _ c3 hi3)
      | (go_at_call 28; (with_reducible refine (HQ2.out _ hb3).mono ?_); rintro e w4 ⟨b4, c4, rfl, -, hi4, hb4⟩; have hv4 := Hcv.out _ _ c4 hi4; have hv34 := Hcv.out _ _ c3 (hi3.kept hb4))
      | (go_at_call 29; (with_reducible refine (rSame_is (l := V) (m := V) (r := true) (by simp) bv bw q cv q cw _ Hqq.out Hqq.out (by omega) (by omega) ((hv1.kept hb2').drew.kept (hb3.trans (hb4.mono hb3.size))) (hw1.drew.kept (hb3.trans (hb4.mono hb3.size)))).mono ?_); rintro e w6 ⟨rfl, hb6⟩)
      | (go_at_call 12; (with_reducible refine (HA.out _).mono ?_); rintro e w5 ⟨rfl, hb5⟩))
    all_goals go_wp2
    all_goals go_ret
    all_goals exact ⟨rfl, by (repeat' first | with_reducible assumption | exact Below.refl _ _ | with_reducible refine Below.drew ?_ | with_reducible refine Below.drewN ?_ _ | with_reducible refine Below.alloc' ?_ _ | with_reducible refine Below.setCell ?_ (by first | exact Nat.le_refl _ | omega | (simp; done) | (simp; omega)) _ | with_reducible refine Below.after ?_ ‹_›)⟩
end
end Go.Proofs.Ytcbaihaigamalaa
