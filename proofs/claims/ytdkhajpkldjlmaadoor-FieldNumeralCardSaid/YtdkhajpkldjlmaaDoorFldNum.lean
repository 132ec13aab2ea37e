/-
  The law FieldNumeral: the decimal form of a number; its walk.
-/
import Derived.Test.YtdkhajpkldjlmaaDoorFldK
import Derived.Test.YtdkhajpkldjlmaaDoorFldT
import Derived.Lib.ItoaNum
import Derived.Lib.ItoaMem
import Derived.Shelf.Strconv.Itoa3
import Derived.Test.YtdkhajpkldjlmaaDoorShelf
namespace Go.Proofs.YtdkhajpkldjlmaaDoor
set_option linter.unusedVariables false
set_option linter.unusedSimpArgs false
open Go.RowKit Go.Shelf

theorem dec_more {u : Nat} (h : ¬ u < 10) : Lib.decDigits u = Lib.decDigits (u / 10) ++ [UInt8.ofNat (48 + u % 10)] := by
  rw [Lib.decDigits, dif_neg h]
theorem dec_one {u : Nat} (h : u < 10) : Lib.decDigits u = [UInt8.ofNat (48 + u)] := by
  rw [Lib.decDigits, dif_pos h]
theorem byte_nat {n : Nat} (h : n < 10) : (UInt8.ofNat (48 + n)).toNat = 48 + n := by
  rw [UInt8.toNat_ofNat']
  omega
theorem dec_facts : ∀ (k u : Nat), u < 10 ^ (k + 1) → (∀ c ∈ Lib.decDigits u, isD c = true) ∧ rdA (Lib.decDigits u) 0 = u ∧ (∃ c r, Lib.decDigits u = c :: r ∧ (u = 0 → Lib.decDigits u = [48]) ∧ (0 < u → c.toNat ≠ 48)) ∧ (Lib.decDigits u).length ≤ k + 1
  | 0, u, h => by
    have h10 : u < 10 := by simpa using h
    rw [dec_one h10]
    have hb := byte_nat h10
    refine ⟨fun c hc => ?_, ?_, ⟨_, _, rfl, fun h => by subst h; rfl, fun h => by rw [hb]; omega⟩, by simp⟩
    · rw [List.mem_singleton.1 hc]
      simp [isD, hb]
      omega
    · have hd : isD (UInt8.ofNat (48 + u)) = true := by simp [isD, hb]; omega
      simp only [rdA, hd, if_true, hb]
      omega
  | k + 1, u, h => by
    by_cases h10 : u < 10
    · have h0 := dec_facts 0 u (by simpa using h10)
      exact ⟨h0.1, h0.2.1, h0.2.2.1, by have := h0.2.2.2; omega⟩
    · rw [dec_more h10]
      have hb := byte_nat (show u % 10 < 10 by omega)
      obtain ⟨h1, h2, ⟨c, r, h3, _, h5⟩, h6⟩ := dec_facts k (u / 10) (by rw [Nat.div_lt_iff_lt_mul (by omega)]; rw [Nat.pow_succ] at h; exact h)
      have hd : isD (UInt8.ofNat (48 + u % 10)) = true := by simp [isD, hb]; omega
      refine ⟨fun x hx => ?_, ?_, ⟨c, r ++ [UInt8.ofNat (48 + u % 10)], by rw [h3]; rfl, fun h => by omega, fun _ => h5 (by omega)⟩, by rw [List.length_append]; simp; omega⟩
      · rcases List.mem_append.1 hx with hx | hx
        · exact h1 x hx
        · rw [List.mem_singleton.1 hx]; exact hd
      · rw [rdA_append, h2]
        simp only [rdA, hd, if_true, hb]
        omega
theorem isD_not45 {c : UInt8} (h : isD c = true) : c.toNat ≠ 45 := by
  simp [isD] at h
  omega
theorem num_itoa (n : Int) (h1 : -9223372036854775808 ≤ n) (h2 : n ≤ 9223372036854775807) :
    numL (Lib.itoa n) = (if n < -1000000000000 ∨ 1000000000000 < n then (0, 1) else (n, 0)) ∧ numL (48 :: Lib.itoa n) = (0, 3) ∧ (Lib.itoa n).length ≤ 21 := by
  by_cases hn : n < 0
  · obtain ⟨f1, f2, ⟨c, r, f3, _, f5⟩, f6⟩ := dec_facts 19 n.natAbs (by omega)
    have hi : Lib.itoa n = 45 :: Lib.decDigits n.natAbs := by unfold Lib.itoa; rw [if_pos hn]
    have hd : digsL (Lib.itoa n) = Lib.decDigits n.natAbs := by rw [hi]; rfl
    have hg : isNeg (Lib.itoa n) = true := by rw [hi]; rfl
    have hz : zeroL (Lib.decDigits n.natAbs) = false := by rw [f3]; simpa [zeroL] using f5 (by omega)
    have hbad : badL (Lib.itoa n) = false := by
      rw [bad_is hd (by rw [f3]; simp), hz, List.all_eq_true.2 f1]
      rfl
    refine ⟨?_, ?_, by rw [hi]; simp; omega⟩
    · by_cases hr : 1000000000000 < n.natAbs
      · rw [num_range hbad hd (by rw [f2]; exact hr), if_pos (by omega)]
      · rw [num_neg hbad hd (by rw [f2]; omega) hg, if_neg (by omega), f2]
        congr 1
        omega
    · refine num_bad ?_
      rw [bad_is (d := 48 :: Lib.itoa n) rfl (by simp), hi]
      simp [zeroL]
  · obtain ⟨u, rfl⟩ := Int.eq_ofNat_of_zero_le (show 0 ≤ n by omega)
    obtain ⟨f1, f2, ⟨c, r, f3, f4, f5⟩, f6⟩ := dec_facts 19 u (by omega)
    have hi : Lib.itoa (u : Int) = Lib.decDigits u := by unfold Lib.itoa; rw [if_neg hn]; rfl
    have hg : isNeg (Lib.itoa (u : Int)) = false := by
      rw [hi, f3]
      simpa [isNeg] using isD_not45 (f1 c (by rw [f3]; simp))
    have hd : digsL (Lib.itoa (u : Int)) = Lib.decDigits u := by unfold digsL; rw [hg, hi]; rfl
    have hbad : badL (Lib.itoa (u : Int)) = false := by
      rw [bad_is hd (by rw [f3]; simp), List.all_eq_true.2 f1]
      rcases Nat.eq_zero_or_pos u with h0 | h0
      · rw [hi, f4 h0]; rfl
      · have hz : zeroL (Lib.decDigits u) = false := by rw [f3]; simpa [zeroL] using f5 h0
        rw [hz]
        rfl
    refine ⟨?_, ?_, by rw [hi]; omega⟩
    · by_cases hr : 1000000000000 < u
      · rw [num_range hbad hd (by rw [f2]; exact hr), if_pos (by omega)]
      · rw [num_pos hbad hd (by rw [f2]; omega) hg, if_neg (by omega), f2]
    · refine num_bad ?_
      rw [bad_is (d := 48 :: Lib.itoa (u : Int)) rfl (by simp), hi, f3]
      simp [zeroL]
theorem below_grow (w : World) (k : Nat) (os : Array Obj) : Below w.heap.size w (Sort.grow (w.drewN k) os) := by
  refine ⟨rfl, rfl, rfl, ?_, ?_⟩
  · show w.heap.size ≤ (w.heap ++ os).size
    simp
  · intro i hi
    show (w.heap ++ os)[i]? = w.heap[i]?
    rw [Array.getElem?_append_left hi]

theorem i64_of_wf {a : Int} (h : (Lit.int .i64 a).wf = true) : -9223372036854775808 ≤ a ∧ a ≤ 9223372036854775807 := by
  simp [Lit.wf, IntKind.min, IntKind.max, IntKind.signed, IntKind.bits] at h
  omega

section
variable (K : FldCon)
include K
set_option maxRecDepth 100000 in
set_option maxHeartbeats 4000000 in
theorem fieldNumeral_of (n : Int) (w : World) (hT : Tabs w) (hn : (Lit.int .i64 n).wf = true) :
    Calls Tryd.prog 3 #[.int .i64 n] w fun e w' => e = .returned (.bool true) ∧ Below w.heap.size w w' := by
  obtain ⟨b1, b2⟩ := i64_of_wf hn
  obtain ⟨N1, N2, N3⟩ := num_itoa n b1 b2
  have HN2 := Lib.hid N2
  have HT := Lib.hid (Any.strconv_Itoa Tryd.laysItoa n b1 b2 w hT.pow)
  obtain ⟨v, hv⟩ : ∃ v, (⟨(Lib.itoa n).toArray⟩ : ByteArray) = v := ⟨_, rfl⟩
  have hvd : v.data.toList = Lib.itoa n := by rw [← hv]
  have hvs : v.size ≤ 21 := by rw [show v.size = v.data.toList.length from rfl, hvd]; exact N3
  have HZ := Lib.hid (show numL ((⟨#[48]⟩ : ByteArray) ++ v).data.toList = (0, 3) by rw [data_add, hvd]; exact N2)
  have zs : ((⟨#[48]⟩ : ByteArray) ++ v).size ≤ 22 := by rw [size_add]; omega
  rw [← hvd] at N1
  rw [hv] at HT
  clear hv hvd N2 N3 hn
  by_cases hr : n < -1000000000000 ∨ 1000000000000 < n
  · rw [if_pos hr] at N1
    have HN1 := Lib.hid N1
    clear N1
    rcases hr with hr | hr
    all_goals
      go_enter Tryd.func3, Tryd.ntmps3
      go_wp2_with fail
      refine HT.out.mono ?_
      rintro e w1 ⟨rfl, k, os, rfl⟩
      have hb1 := below_grow w k os
      obtain ⟨w1, hw1⟩ : ∃ w1, Sort.grow (w.drewN k) os = w1 := ⟨_, rfl⟩
      rw [hw1] at hb1 ⊢
      clear hw1
      go_wp2_with fail
      refine (K.number_is HN1.out _ (by omega)).mono ?_
      rintro e w2 ⟨rfl, hb2⟩
      go_wp2_with fail
      refine (K.number_is HZ.out _ (by omega)).mono ?_
      rintro e w3 ⟨rfl, hb3⟩
      go_wp2_with fail
      refine (fldAwake_any K _).mono ?_
      rintro e w4 ⟨rfl, hb4⟩
      go_wp2
      go_ret
      exact ⟨rfl, by (repeat' first | with_reducible assumption | exact Below.refl _ _ | with_reducible refine Below.drew ?_ | with_reducible refine Below.drewN ?_ _ | with_reducible refine Below.alloc' ?_ _ | with_reducible refine Below.setCell ?_ (by first | exact Nat.le_refl _ | omega | (simp; done) | (simp; omega)) _ | with_reducible refine Below.after ?_ ‹_›)⟩
  · rw [if_neg hr] at N1
    have HN1 := Lib.hid N1
    have r1 : -1000000000000 ≤ n := by omega
    have r2 : n ≤ 1000000000000 := by omega
    clear N1 hr
    go_enter Tryd.func3, Tryd.ntmps3
    go_wp2_with fail
    refine HT.out.mono ?_
    rintro e w1 ⟨rfl, k, os, rfl⟩
    have hb1 := below_grow w k os
    obtain ⟨w1, hw1⟩ : ∃ w1, Sort.grow (w.drewN k) os = w1 := ⟨_, rfl⟩
    rw [hw1] at hb1 ⊢
    clear hw1
    go_wp2_with fail
    refine (K.number_is HN1.out _ (by omega)).mono ?_
    rintro e w2 ⟨rfl, hb2⟩
    go_wp2_with fail
    refine (K.number_is HZ.out _ (by omega)).mono ?_
    rintro e w3 ⟨rfl, hb3⟩
    go_wp2_with fail
    refine (fldAwake_any K _).mono ?_
    rintro e w4 ⟨rfl, hb4⟩
    go_wp2
    go_ret
    exact ⟨rfl, by (repeat' first | with_reducible assumption | exact Below.refl _ _ | with_reducible refine Below.drew ?_ | with_reducible refine Below.drewN ?_ _ | with_reducible refine Below.alloc' ?_ _ | with_reducible refine Below.setCell ?_ (by first | exact Nat.le_refl _ | omega | (simp; done) | (simp; omega)) _ | with_reducible refine Below.after ?_ ‹_›)⟩
theorem fieldNumeral_walk_of (a0 : Int) (W : World) (hT : Tabs W) (w0 : (Lit.int .i64 a0).wf = true) :
    Calls Tryd.prog 3 #[.int .i64 a0] W fun e W' => e = .returned (.bool true) ∧ Below W.heap.size W W' :=
  fieldNumeral_of K a0 W hT w0
end
end Go.Proofs.YtdkhajpkldjlmaaDoor
