/-
  Walks over the laws of package wire: Lengths.
-/
import Derived.Test.YtcbaihaigamalaaWirK
namespace Go.Proofs.Ytcbaihaigamalaa
set_option linter.unusedVariables false
set_option linter.unusedSimpArgs false
open Go.RowKit

def restL (x : Nat) : Nat := if x = 0 then 0 else (vL x).length
theorem rest_start (u : Nat) : 1 + restL (u / 128) = (vL u).length := by
  unfold restL
  by_cases h : u < 128
  · rw [vL_one h, if_pos (by omega)]
    rfl
  · rw [if_neg (by omega), vL_more h, List.length_cons]
    omega
theorem rest_step {x : Nat} (h : 0 < x) : 1 + restL (x / 128) = restL x := by
  rw [rest_start]
  unfold restL
  rw [if_neg (by omega)]

section
variable (K : WirCon)
include K
set_option maxRecDepth 100000 in
set_option maxHeartbeats 4000000 in
theorem wireLengths_of (u v : Nat) (w : World) (hu : u < 18446744073709551616) (hv : v < 18446744073709551616) :
    Calls Try.prog 10 #[.int .u64 (u : Int), .int .u64 (v : Int)] w fun e w' => e = .returned (.bool true) ∧ Below w.heap.size w w' := by
  have main : ∀ (p q : Nat), p ≤ q → q < 18446744073709551616 → Hid ((vL p).length ≤ (vL q).length) ∧ Hid (1 + restL (p / 128) = (vL p).length) ∧ (vL p).length ≤ 10 ∧ (vL q).length ≤ 10 := fun p q h hq =>
    ⟨vL_mono (q + 1) p q h (by omega), rest_start p, (vL_le10 (show p < 18446744073709551616 by omega)).2, (vL_le10 hq).2⟩
  by_cases h : v < u
  · obtain ⟨HM, HS, l1, l2⟩ := main v u (by omega) hu
    obtain ⟨A, hA⟩ : ∃ A, vL v = A := ⟨_, rfl⟩
    obtain ⟨C, hC⟩ : ∃ A, vL u = A := ⟨_, rfl⟩
    rw [hA] at HM HS l1
    rw [hC] at HM l2
    have H1 := Lib.hid (fun W => K.putUint_is (l := []) (R := A) (u := v) (by rw [← hA]; rfl) none 0 0 W rfl (by decide) (Nat.le_refl _) (reads_nil _ _) hv)
    have H2 := Lib.hid (fun W => K.putUint_is (l := []) (R := C) (u := u) (by rw [← hC]; rfl) none 0 0 W rfl (by decide) (Nat.le_refl _) (reads_nil _ _) hu)
    have HA := Lib.hid hA
    clear main hA hC
    go_enter Try.func10, Try.ntmps10
    go_wp2_with fail
    refine (H1.out _).mono ?_
    rintro e w1 ⟨b1, c1, rfl, -, -, hb1⟩
    go_wp2_with fail
    refine (H2.out _).mono ?_
    rintro e w2 ⟨b2, c2, rfl, -, -, hb2⟩
    obtain ⟨n1, hn1⟩ : ∃ n, A.length = n := ⟨_, rfl⟩
    obtain ⟨n2, hn2⟩ : ∃ n, C.length = n := ⟨_, rfl⟩
    rw [hn1] at HM HS l1 ⊢
    rw [hn2] at HM l2 ⊢
    clear hn1 hn2
    go_wp2
    go_loop [7, 8] (fun t x => ∃ k y : Nat, t = .int .i64 k ∧ x = .int .u64 (y : Int) ∧ y < 18446744073709551616 ∧ k ≤ 10 ∧ Hid (k + restL y = n1)) (fun _ x => (intOf x).toNat)
    case atStart => exact ⟨1, v / 128, rfl, by simp, by omega, by omega, HS.out⟩
    case round =>
      obtain ⟨k, y, rfl, rfl, hy, hk, Hk⟩ := hrel
      by_cases h0 : 0 < y
      · have E := Lib.hid (show (k + 1) + restL (y / 128) = n1 by rw [← Hk.out, ← rest_step h0]; omega)
        have hk2 : k + 1 ≤ 10 := by have := E.out; omega
        go_wp2
        go_round
        case rel => exact ⟨k + 1, y / 128, by go_num, by go_num, by omega, hk2, E⟩
        case measure => simp [intOf]; omega
      · have E := Lib.hid (show k = n1 by have := Hk.out; unfold restL at this; rw [if_pos (by omega)] at this; omega)
        have e1 : ((n1 : Int) == (k : Int)) = true := by simp; have := E.out; omega
        have e2 : (n1 : Int) ≤ (n2 : Int) := by have := HM.out; omega
        go_wp2_with fail
        refine (wirAwake_any K _).mono ?_
        rintro e w3 ⟨rfl, hb3⟩
        go_wp2
        go_ret
        exact ⟨rfl, by (repeat' first | with_reducible assumption | exact Below.refl _ _ | with_reducible refine Below.drew ?_ | with_reducible refine Below.drewN ?_ _ | with_reducible refine Below.alloc' ?_ _ | with_reducible refine Below.setCell ?_ (by first | exact Nat.le_refl _ | omega | (simp; done) | (simp; omega)) _ | with_reducible refine Below.after ?_ ‹_›)⟩
  · obtain ⟨HM, HS, l1, l2⟩ := main u v (by omega) hv
    obtain ⟨A, hA⟩ : ∃ A, vL u = A := ⟨_, rfl⟩
    obtain ⟨C, hC⟩ : ∃ A, vL v = A := ⟨_, rfl⟩
    rw [hA] at HM HS l1
    rw [hC] at HM l2
    have H1 := Lib.hid (fun W => K.putUint_is (l := []) (R := A) (u := u) (by rw [← hA]; rfl) none 0 0 W rfl (by decide) (Nat.le_refl _) (reads_nil _ _) hu)
    have H2 := Lib.hid (fun W => K.putUint_is (l := []) (R := C) (u := v) (by rw [← hC]; rfl) none 0 0 W rfl (by decide) (Nat.le_refl _) (reads_nil _ _) hv)
    clear main hA hC
    go_enter Try.func10, Try.ntmps10
    go_wp2_with fail
    refine (H1.out _).mono ?_
    rintro e w1 ⟨b1, c1, rfl, -, -, hb1⟩
    go_wp2_with fail
    refine (H2.out _).mono ?_
    rintro e w2 ⟨b2, c2, rfl, -, -, hb2⟩
    obtain ⟨n1, hn1⟩ : ∃ n, A.length = n := ⟨_, rfl⟩
    obtain ⟨n2, hn2⟩ : ∃ n, C.length = n := ⟨_, rfl⟩
    rw [hn1] at HM HS l1 ⊢
    rw [hn2] at HM l2 ⊢
    clear hn1 hn2
    go_wp2
    go_loop [7, 8] (fun t x => ∃ k y : Nat, t = .int .i64 k ∧ x = .int .u64 (y : Int) ∧ y < 18446744073709551616 ∧ k ≤ 10 ∧ Hid (k + restL y = n1)) (fun _ x => (intOf x).toNat)
    case atStart => exact ⟨1, u / 128, rfl, by simp, by omega, by omega, HS.out⟩
    case round =>
      obtain ⟨k, y, rfl, rfl, hy, hk, Hk⟩ := hrel
      by_cases h0 : 0 < y
      · have E := Lib.hid (show (k + 1) + restL (y / 128) = n1 by rw [← Hk.out, ← rest_step h0]; omega)
        have hk2 : k + 1 ≤ 10 := by have := E.out; omega
        go_wp2
        go_round
        case rel => exact ⟨k + 1, y / 128, by go_num, by go_num, by omega, hk2, E⟩
        case measure => simp [intOf]; omega
      · have E := Lib.hid (show k = n1 by have := Hk.out; unfold restL at this; rw [if_pos (by omega)] at this; omega)
        have e1 : ((n1 : Int) == (k : Int)) = true := by simp; have := E.out; omega
        have e2 : (n1 : Int) ≤ (n2 : Int) := by have := HM.out; omega
        go_wp2_with fail
        refine (wirAwake_any K _).mono ?_
        rintro e w3 ⟨rfl, hb3⟩
        go_wp2
        go_ret
        exact ⟨rfl, by (repeat' first | with_reducible assumption | exact Below.refl _ _ | with_reducible refine Below.drew ?_ | with_reducible refine Below.drewN ?_ _ | with_reducible refine Below.alloc' ?_ _ | with_reducible refine Below.setCell ?_ (by first | exact Nat.le_refl _ | omega | (simp; done) | (simp; omega)) _ | with_reducible refine Below.after ?_ ‹_›)⟩
end
end Go.Proofs.Ytcbaihaigamalaa
