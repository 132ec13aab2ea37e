/-
  The walk of NumRounds.
-/
import Derived.Test.YtejokpbmdhmhfaaNumLaws
import Derived.Test.YtejokpbmdhmhfaaNumRd
import Derived.Deep.RegionWith
namespace Go.Proofs.Ytejokpbmdhmhfaa
open Go.RowKit

def smB (n : Int) : Bool := decide (-1073741824 ≤ n ∧ n ≤ 1073741824)
theorem smB_true {n : Int} : smB n = true ↔ (-1073741824 ≤ n ∧ n ≤ 1073741824) := by simp [smB]
theorem smB_false {n : Int} : smB n = false ↔ (n < -1073741824 ∨ 1073741824 < n) := by simp [smB]; omega

set_option maxHeartbeats 400000 in
theorem small_is (n : Int) (w : World) (r : Bool) (h : smB n = r) :
    Calls Try.prog 23 #[.int .i64 n] w fun e w' => e = .returned (.bool r) ∧ w = w' := by
  cases r
  · rcases smB_false.1 h with h1 | h1
    · clear h
      go_enter Try.func23, Try.ntmps23
      go_wp2
      go_ret
      exact ⟨rfl, rfl⟩
    · have h2 : -1073741824 ≤ n := by omega
      have h3 : ¬ n ≤ 1073741824 := by omega
      clear h
      go_enter Try.func23, Try.ntmps23
      go_wp2
      go_ret
      exact ⟨rfl, rfl⟩
  · have h1 := smB_true.1 h
    clear h
    go_enter Try.func23, Try.ntmps23
    go_wp2
    go_ret
    exact ⟨rfl, rfl⟩

set_option maxHeartbeats 400000 in
theorem labs_is (n : Int) (k : Nat) (w : World) (hk : n.natAbs = k) (hb : -9223372036854775807 ≤ n ∧ n ≤ 9223372036854775807) :
    Calls Try.prog 25 #[.int .i64 n] w fun e w' => e = .returned (.int .i64 (k : Int)) ∧ w = w' := by
  by_cases h : n < 0
  · have e : (k : Int) = -n := by omega
    rw [e]
    clear e hk
    go_enter Try.func25, Try.ntmps25
    go_wp2
    go_ret
    exact ⟨rfl, rfl⟩
  · have e : (k : Int) = n := by omega
    rw [e]
    clear e hk
    go_enter Try.func25, Try.ntmps25
    go_wp2
    go_ret
    exact ⟨rfl, rfl⟩

set_option maxRecDepth 100000 in
set_option maxHeartbeats 1000000 in
theorem rounds_early1 (a b c m : Int) (w : World) (h1 : smB a = false) :
    Calls Try.prog 7 #[.agg #[.int .i64 a, .int .i64 b, .int .i64 c, .int .i64 m]] w fun e w' => e = .returned (.bool true) ∧ Below w.heap.size w w' := by
  have H1 := Lib.hid h1
  clear h1
  go_enter Try.func7, Try.ntmps7
  go_wp2_with (first
    | (go_at_call_of 23 (Value.int .i64 a); refine (small_is a _ _ H1.out).mono ?_; rintro e w' ⟨rfl, rfl⟩)
    | (go_at_call 16; refine (awake_any _).mono ?_; rintro e w3 ⟨rfl, hb3⟩))
  go_ret
  have c0 : Below w.heap.size w (w.alloc (.cells #[.int .i64 a, .int .i64 b, .int .i64 c, .int .i64 m] 31)) := (Below.refl _ _).alloc (Nat.le_refl _) _
  exact ⟨rfl, c0.trans (hb3.mono c0.size)⟩

set_option maxRecDepth 100000 in
set_option maxHeartbeats 1000000 in
theorem rounds_early2 (a b c m : Int) (w : World) (h1 : smB a = true) (h2 : smB b = false) :
    Calls Try.prog 7 #[.agg #[.int .i64 a, .int .i64 b, .int .i64 c, .int .i64 m]] w fun e w' => e = .returned (.bool true) ∧ Below w.heap.size w w' := by
  have H1 := Lib.hid h1
  have H2 := Lib.hid h2
  clear h1 h2
  go_enter Try.func7, Try.ntmps7
  go_wp2_with (first
    | (go_at_call_of 23 (Value.int .i64 a); refine (small_is a _ _ H1.out).mono ?_; rintro e w' ⟨rfl, rfl⟩)
    | (go_at_call_of 23 (Value.int .i64 b); refine (small_is b _ _ H2.out).mono ?_; rintro e w' ⟨rfl, rfl⟩)
    | (go_at_call 16; refine (awake_any _).mono ?_; rintro e w3 ⟨rfl, hb3⟩))
  go_ret
  have c0 : Below w.heap.size w (w.alloc (.cells #[.int .i64 a, .int .i64 b, .int .i64 c, .int .i64 m] 31)) := (Below.refl _ _).alloc (Nat.le_refl _) _
  exact ⟨rfl, c0.trans (hb3.mono c0.size)⟩

set_option maxRecDepth 100000 in
set_option maxHeartbeats 1000000 in
theorem rounds_early3 (a b c m : Int) (w : World) (h1 : smB a = true) (h2 : smB b = true) (h3 : inRB c = false) :
    Calls Try.prog 7 #[.agg #[.int .i64 a, .int .i64 b, .int .i64 c, .int .i64 m]] w fun e w' => e = .returned (.bool true) ∧ Below w.heap.size w w' := by
  have H1 := Lib.hid h1
  have H2 := Lib.hid h2
  have H3 := Lib.hid h3
  clear h1 h2 h3
  go_enter Try.func7, Try.ntmps7
  go_wp2_with (first
    | (go_at_call_of 23 (Value.int .i64 a); refine (small_is a _ _ H1.out).mono ?_; rintro e w' ⟨rfl, rfl⟩)
    | (go_at_call_of 23 (Value.int .i64 b); refine (small_is b _ _ H2.out).mono ?_; rintro e w' ⟨rfl, rfl⟩)
    | (go_at_call 24; refine (rIn_no c _ H3.out).mono ?_; rintro e w' ⟨rfl, rfl⟩)
    | (go_at_call 16; refine (awake_any _).mono ?_; rintro e w3 ⟨rfl, hb3⟩))
  go_ret
  have c0 : Below w.heap.size w (w.alloc (.cells #[.int .i64 a, .int .i64 b, .int .i64 c, .int .i64 m] 31)) := (Below.refl _ _).alloc (Nat.le_refl _) _
  exact ⟨rfl, c0.trans (hb3.mono c0.size)⟩

set_option maxRecDepth 100000 in
set_option maxHeartbeats 1000000 in
theorem rounds_early4 (a b c m : Int) (w : World) (h1 : smB a = true) (h2 : smB b = true) (h3 : inRB c = true) (h4 : c = 0) :
    Calls Try.prog 7 #[.agg #[.int .i64 a, .int .i64 b, .int .i64 c, .int .i64 m]] w fun e w' => e = .returned (.bool true) ∧ Below w.heap.size w w' := by
  have H1 := Lib.hid h1
  have H2 := Lib.hid h2
  have H3 := Lib.hid h3
  have h4' : (c == 0) = true := by simp [h4]
  clear h1 h2 h3 h4
  go_enter Try.func7, Try.ntmps7
  go_wp2_with (first
    | (go_at_call_of 23 (Value.int .i64 a); refine (small_is a _ _ H1.out).mono ?_; rintro e w' ⟨rfl, rfl⟩)
    | (go_at_call_of 23 (Value.int .i64 b); refine (small_is b _ _ H2.out).mono ?_; rintro e w' ⟨rfl, rfl⟩)
    | (go_at_call 24; refine (rIn_yes c _ H3.out).mono ?_; rintro e w' ⟨rfl, rfl⟩)
    | (go_at_call 16; refine (awake_any _).mono ?_; rintro e w3 ⟨rfl, hb3⟩))
  go_ret
  have c0 : Below w.heap.size w (w.alloc (.cells #[.int .i64 a, .int .i64 b, .int .i64 c, .int .i64 m] 31)) := (Below.refl _ _).alloc (Nat.le_refl _) _
  exact ⟨rfl, c0.trans (hb3.mono c0.size)⟩

set_option maxRecDepth 100000 in
set_option maxHeartbeats 1000000 in
theorem rounds_early5 (a b c m : Int) (w : World) (h1 : smB a = true) (h2 : smB b = true) (h3 : inRB c = true) (h4 : 0 < c.natAbs) (h5 : m < 0) :
    Calls Try.prog 7 #[.agg #[.int .i64 a, .int .i64 b, .int .i64 c, .int .i64 m]] w fun e w' => e = .returned (.bool true) ∧ Below w.heap.size w w' := by
  have H1 := Lib.hid h1
  have H2 := Lib.hid h2
  have H3 := Lib.hid h3
  clear h1 h2 h3
  go_enter Try.func7, Try.ntmps7
  go_wp2_with (first
    | (go_at_call_of 23 (Value.int .i64 a); refine (small_is a _ _ H1.out).mono ?_; rintro e w' ⟨rfl, rfl⟩)
    | (go_at_call_of 23 (Value.int .i64 b); refine (small_is b _ _ H2.out).mono ?_; rintro e w' ⟨rfl, rfl⟩)
    | (go_at_call 24; refine (rIn_yes c _ H3.out).mono ?_; rintro e w' ⟨rfl, rfl⟩)
    | (go_at_call 16; refine (awake_any _).mono ?_; rintro e w3 ⟨rfl, hb3⟩))
  go_ret
  have c0 : Below w.heap.size w (w.alloc (.cells #[.int .i64 a, .int .i64 b, .int .i64 c, .int .i64 m] 31)) := (Below.refl _ _).alloc (Nat.le_refl _) _
  exact ⟨rfl, c0.trans (hb3.mono c0.size)⟩

set_option maxRecDepth 100000 in
set_option maxHeartbeats 1000000 in
theorem rounds_early6 (a b c m : Int) (w : World) (h1 : smB a = true) (h2 : smB b = true) (h3 : inRB c = true) (h4 : 0 < c.natAbs) (h5 : ¬ m < 0) (h6 : 3 < m) :
    Calls Try.prog 7 #[.agg #[.int .i64 a, .int .i64 b, .int .i64 c, .int .i64 m]] w fun e w' => e = .returned (.bool true) ∧ Below w.heap.size w w' := by
  have H1 := Lib.hid h1
  have H2 := Lib.hid h2
  have H3 := Lib.hid h3
  clear h1 h2 h3
  go_enter Try.func7, Try.ntmps7
  go_wp2_with (first
    | (go_at_call_of 23 (Value.int .i64 a); refine (small_is a _ _ H1.out).mono ?_; rintro e w' ⟨rfl, rfl⟩)
    | (go_at_call_of 23 (Value.int .i64 b); refine (small_is b _ _ H2.out).mono ?_; rintro e w' ⟨rfl, rfl⟩)
    | (go_at_call 24; refine (rIn_yes c _ H3.out).mono ?_; rintro e w' ⟨rfl, rfl⟩)
    | (go_at_call 16; refine (awake_any _).mono ?_; rintro e w3 ⟨rfl, hb3⟩))
  go_ret
  have c0 : Below w.heap.size w (w.alloc (.cells #[.int .i64 a, .int .i64 b, .int .i64 c, .int .i64 m] 31)) := (Below.refl _ _).alloc (Nat.le_refl _) _
  exact ⟨rfl, c0.trans (hb3.mono c0.size)⟩

set_option maxRecDepth 100000 in
set_option maxHeartbeats 2000000 in
theorem rounds_over_p (a b m : Int) (w : World) (C : Nat) (hC : 0 < C) (hC2 : C ≤ 1125899906842624) (T : Int) (A : Nat) (hT : a * b = T) (hTb : -1152921504606846976 ≤ T ∧ T ≤ 1152921504606846976) (hA : T.natAbs = A) (h1 : smB a = true) (h2 : smB b = true) (h3 : inRB (C : Int) = true) (hm0 : ¬ m < 0) (hm3 : ¬ 3 < m) (he : scaleS a b (C : Int) m = (0, 2)) (hQ : 1125899906842624 ≤ (A : Int) / C) (hQ1 : (A : Int) / C ≤ 1152921504606846976) :
    Calls Try.prog 7 #[.agg #[.int .i64 a, .int .i64 b, .int .i64 (C : Int), .int .i64 m]] w fun e w' => e = .returned (.bool true) ∧ Below w.heap.size w w' := by
  have H1 := Lib.hid h1
  have H2 := Lib.hid h2
  have H3 := Lib.hid h3
  have HE := Lib.hid he
  have HA := Lib.hid hA
  have hz1 : ((C : Int) == 0) = false := by simp only [beq_eq_false_iff_ne]; omega
  have hz2 : (-(C : Int) == 0) = false := by simp only [beq_eq_false_iff_ne]; omega
  clear h1 h2 h3 he hA
  go_enter Try.func7, Try.ntmps7
  go_wp2_with (first
    | (go_at_call_of 23 (Value.int .i64 a); refine (small_is a _ _ H1.out).mono ?_; rintro e w' ⟨rfl, rfl⟩)
    | (go_at_call_of 23 (Value.int .i64 b); refine (small_is b _ _ H2.out).mono ?_; rintro e w' ⟨rfl, rfl⟩)
    | (go_at_call_of 24 (Value.int .i64 (C : Int)); refine (rIn_yes (C : Int) _ H3.out).mono ?_; rintro e w' ⟨rfl, rfl⟩))
  go_region
  go_wp2_with fail
  refine (scale_is HE.out _).mono ?_
  rintro e w1 ⟨rfl, hb1⟩
  have c0 : Below w.heap.size w (w.alloc (.cells #[.int .i64 a, .int .i64 b, .int .i64 (C : Int), .int .i64 m] 31)).drew := ((Below.refl _ _).alloc (Nat.le_refl _) _).drew
  have hcl : ∀ k, w1.cell? ⟨w.heap.size, k, none⟩ = (w.alloc (.cells #[.int .i64 a, .int .i64 b, .int .i64 (C : Int), .int .i64 m] 31)).cell? ⟨w.heap.size, k, none⟩ := fun k => hb1.cell (p := ⟨w.heap.size, k, none⟩) (by simp)
  have d3 := hcl 3
  simp [go_sem] at d3
  have c1 := c0.trans (hb1.mono c0.size)
  clear hcl hb1 c0
  go_wp2_with fail
  refine (labs_is T A _ HA.out (by omega)).mono ?_
  rintro e w' ⟨rfl, rfl⟩
  go_wp2_with fail
  refine (awake_any _).mono ?_
  rintro e w3 ⟨rfl, hb3⟩
  go_wp2
  go_ret
  exact ⟨rfl, c1.trans (hb3.mono c1.size)⟩

set_option maxRecDepth 100000 in
set_option maxHeartbeats 2000000 in
theorem rounds_m0_p (a b m : Int) (w : World) (C : Nat) (hC : 0 < C) (hC2 : C ≤ 1125899906842624) (T : Int) (A : Nat) (hT : a * b = T) (hTb : -1152921504606846976 ≤ T ∧ T ≤ 1152921504606846976) (hA : T.natAbs = A) (h1 : smB a = true) (h2 : smB b = true) (h3 : inRB (C : Int) = true) (hm0 : ¬ m < 0) (hm3 : ¬ 3 < m) (q X : Int) (K : Nat) (he : scaleS a b (C : Int) m = (q, 0)) (hq : inRB q = true) (hK : q.natAbs = K) (hQ0 : 0 ≤ (A : Int) / C) (hQ1 : (A : Int) / C ≤ 1152921504606846976) (hQ : ¬ (A : Int) / C + 1 < K) (hX : q * (C : Int) = X) (hXb : -4611686018427387904 ≤ X ∧ X ≤ 4611686018427387904) (hm : m = 0) (hd0 : 0 ≤ T - X) (hd1 : T - X < (C : Int)) :
    Calls Try.prog 7 #[.agg #[.int .i64 a, .int .i64 b, .int .i64 (C : Int), .int .i64 m]] w fun e w' => e = .returned (.bool true) ∧ Below w.heap.size w w' := by
  have H1 := Lib.hid h1
  have H2 := Lib.hid h2
  have H3 := Lib.hid h3
  have HE := Lib.hid he
  have HA := Lib.hid hA
  have hz1 : ((C : Int) == 0) = false := by simp only [beq_eq_false_iff_ne]; omega
  have hz2 : (-(C : Int) == 0) = false := by simp only [beq_eq_false_iff_ne]; omega
  clear h1 h2 h3 he hA
  have bq := inRB_true.1 hq
  have HI := Lib.hid hq
  have HK := Lib.hid hK
  clear hq hK
  have M0 : (m == 0) = true := by simp [hm]
  clear hm
  go_enter Try.func7, Try.ntmps7
  go_wp2_with (first
    | (go_at_call_of 23 (Value.int .i64 a); refine (small_is a _ _ H1.out).mono ?_; rintro e w' ⟨rfl, rfl⟩)
    | (go_at_call_of 23 (Value.int .i64 b); refine (small_is b _ _ H2.out).mono ?_; rintro e w' ⟨rfl, rfl⟩)
    | (go_at_call_of 24 (Value.int .i64 (C : Int)); refine (rIn_yes (C : Int) _ H3.out).mono ?_; rintro e w' ⟨rfl, rfl⟩))
  go_region
  go_wp2_with fail
  refine (scale_is HE.out _).mono ?_
  rintro e w1 ⟨rfl, hb1⟩
  have c0 : Below w.heap.size w (w.alloc (.cells #[.int .i64 a, .int .i64 b, .int .i64 (C : Int), .int .i64 m] 31)).drew := ((Below.refl _ _).alloc (Nat.le_refl _) _).drew
  have hcl : ∀ k, w1.cell? ⟨w.heap.size, k, none⟩ = (w.alloc (.cells #[.int .i64 a, .int .i64 b, .int .i64 (C : Int), .int .i64 m] 31)).cell? ⟨w.heap.size, k, none⟩ := fun k => hb1.cell (p := ⟨w.heap.size, k, none⟩) (by simp)
  have d3 := hcl 3
  simp [go_sem] at d3
  have c1 := c0.trans (hb1.mono c0.size)
  clear hcl hb1 c0
  go_wp2_with fail
  refine (rIn_yes q _ HI.out).mono ?_
  rintro e w' ⟨rfl, rfl⟩
  go_wp2_with fail
  refine (labs_is q K _ HK.out (by omega)).mono ?_
  rintro e w' ⟨rfl, rfl⟩
  go_wp2_with fail
  refine (labs_is T A _ HA.out (by omega)).mono ?_
  rintro e w' ⟨rfl, rfl⟩
  go_wp2_with fail
  refine (awake_any _).mono ?_
  rintro e w3 ⟨rfl, hb3⟩
  go_wp2
  go_ret
  exact ⟨rfl, c1.trans (hb3.mono c1.size)⟩

set_option maxRecDepth 100000 in
set_option maxHeartbeats 2000000 in
theorem rounds_m1_p (a b m : Int) (w : World) (C : Nat) (hC : 0 < C) (hC2 : C ≤ 1125899906842624) (T : Int) (A : Nat) (hT : a * b = T) (hTb : -1152921504606846976 ≤ T ∧ T ≤ 1152921504606846976) (hA : T.natAbs = A) (h1 : smB a = true) (h2 : smB b = true) (h3 : inRB (C : Int) = true) (hm0 : ¬ m < 0) (hm3 : ¬ 3 < m) (q X : Int) (K : Nat) (he : scaleS a b (C : Int) m = (q, 0)) (hq : inRB q = true) (hK : q.natAbs = K) (hQ0 : 0 ≤ (A : Int) / C) (hQ1 : (A : Int) / C ≤ 1152921504606846976) (hQ : ¬ (A : Int) / C + 1 < K) (hX : q * (C : Int) = X) (hXb : -4611686018427387904 ≤ X ∧ X ≤ 4611686018427387904) (hm : m = 1) (hd0 : T - X ≤ 0) (hd1 : -(C : Int) < T - X) :
    Calls Try.prog 7 #[.agg #[.int .i64 a, .int .i64 b, .int .i64 (C : Int), .int .i64 m]] w fun e w' => e = .returned (.bool true) ∧ Below w.heap.size w w' := by
  have H1 := Lib.hid h1
  have H2 := Lib.hid h2
  have H3 := Lib.hid h3
  have HE := Lib.hid he
  have HA := Lib.hid hA
  have hz1 : ((C : Int) == 0) = false := by simp only [beq_eq_false_iff_ne]; omega
  have hz2 : (-(C : Int) == 0) = false := by simp only [beq_eq_false_iff_ne]; omega
  clear h1 h2 h3 he hA
  have bq := inRB_true.1 hq
  have HI := Lib.hid hq
  have HK := Lib.hid hK
  clear hq hK
  have M0 : (m == 0) = false := by simp [hm]
  have M1 : (m == 1) = true := by simp [hm]
  clear hm
  go_enter Try.func7, Try.ntmps7
  go_wp2_with (first
    | (go_at_call_of 23 (Value.int .i64 a); refine (small_is a _ _ H1.out).mono ?_; rintro e w' ⟨rfl, rfl⟩)
    | (go_at_call_of 23 (Value.int .i64 b); refine (small_is b _ _ H2.out).mono ?_; rintro e w' ⟨rfl, rfl⟩)
    | (go_at_call_of 24 (Value.int .i64 (C : Int)); refine (rIn_yes (C : Int) _ H3.out).mono ?_; rintro e w' ⟨rfl, rfl⟩))
  go_region
  go_wp2_with fail
  refine (scale_is HE.out _).mono ?_
  rintro e w1 ⟨rfl, hb1⟩
  have c0 : Below w.heap.size w (w.alloc (.cells #[.int .i64 a, .int .i64 b, .int .i64 (C : Int), .int .i64 m] 31)).drew := ((Below.refl _ _).alloc (Nat.le_refl _) _).drew
  have hcl : ∀ k, w1.cell? ⟨w.heap.size, k, none⟩ = (w.alloc (.cells #[.int .i64 a, .int .i64 b, .int .i64 (C : Int), .int .i64 m] 31)).cell? ⟨w.heap.size, k, none⟩ := fun k => hb1.cell (p := ⟨w.heap.size, k, none⟩) (by simp)
  have d3 := hcl 3
  simp [go_sem] at d3
  have c1 := c0.trans (hb1.mono c0.size)
  clear hcl hb1 c0
  go_wp2_with fail
  refine (rIn_yes q _ HI.out).mono ?_
  rintro e w' ⟨rfl, rfl⟩
  go_wp2_with fail
  refine (labs_is q K _ HK.out (by omega)).mono ?_
  rintro e w' ⟨rfl, rfl⟩
  go_wp2_with fail
  refine (labs_is T A _ HA.out (by omega)).mono ?_
  rintro e w' ⟨rfl, rfl⟩
  go_wp2_with fail
  refine (awake_any _).mono ?_
  rintro e w3 ⟨rfl, hb3⟩
  go_wp2
  go_ret
  exact ⟨rfl, c1.trans (hb3.mono c1.size)⟩

set_option maxRecDepth 100000 in
set_option maxHeartbeats 2000000 in
theorem rounds_m2a_p (a b m : Int) (w : World) (C : Nat) (hC : 0 < C) (hC2 : C ≤ 1125899906842624) (T : Int) (A : Nat) (hT : a * b = T) (hTb : -1152921504606846976 ≤ T ∧ T ≤ 1152921504606846976) (hA : T.natAbs = A) (h1 : smB a = true) (h2 : smB b = true) (h3 : inRB (C : Int) = true) (hm0 : ¬ m < 0) (hm3 : ¬ 3 < m) (q X : Int) (K : Nat) (he : scaleS a b (C : Int) m = (q, 0)) (hq : inRB q = true) (hK : q.natAbs = K) (hQ0 : 0 ≤ (A : Int) / C) (hQ1 : (A : Int) / C ≤ 1152921504606846976) (hQ : ¬ (A : Int) / C + 1 < K) (hX : q * (C : Int) = X) (hXb : -4611686018427387904 ≤ X ∧ X ≤ 4611686018427387904) (L : Nat) (hL : (T - X).natAbs = L) (hLb : L ≤ 1125899906842624) (hm : m = 2) (hd : 2 * (L : Int) < C) :
    Calls Try.prog 7 #[.agg #[.int .i64 a, .int .i64 b, .int .i64 (C : Int), .int .i64 m]] w fun e w' => e = .returned (.bool true) ∧ Below w.heap.size w w' := by
  have H1 := Lib.hid h1
  have H2 := Lib.hid h2
  have H3 := Lib.hid h3
  have HE := Lib.hid he
  have HA := Lib.hid hA
  have hz1 : ((C : Int) == 0) = false := by simp only [beq_eq_false_iff_ne]; omega
  have hz2 : (-(C : Int) == 0) = false := by simp only [beq_eq_false_iff_ne]; omega
  clear h1 h2 h3 he hA
  have bq := inRB_true.1 hq
  have HI := Lib.hid hq
  have HK := Lib.hid hK
  clear hq hK
  have M0 : (m == 0) = false := by simp [hm]
  have M1 : (m == 1) = false := by simp [hm]
  have M2 : (m == 2) = true := by simp [hm]
  have HL := Lib.hid hL
  clear hm hL
  go_enter Try.func7, Try.ntmps7
  go_wp2_with (first
    | (go_at_call_of 23 (Value.int .i64 a); refine (small_is a _ _ H1.out).mono ?_; rintro e w' ⟨rfl, rfl⟩)
    | (go_at_call_of 23 (Value.int .i64 b); refine (small_is b _ _ H2.out).mono ?_; rintro e w' ⟨rfl, rfl⟩)
    | (go_at_call_of 24 (Value.int .i64 (C : Int)); refine (rIn_yes (C : Int) _ H3.out).mono ?_; rintro e w' ⟨rfl, rfl⟩))
  go_region
  go_wp2_with fail
  refine (scale_is HE.out _).mono ?_
  rintro e w1 ⟨rfl, hb1⟩
  have c0 : Below w.heap.size w (w.alloc (.cells #[.int .i64 a, .int .i64 b, .int .i64 (C : Int), .int .i64 m] 31)).drew := ((Below.refl _ _).alloc (Nat.le_refl _) _).drew
  have hcl : ∀ k, w1.cell? ⟨w.heap.size, k, none⟩ = (w.alloc (.cells #[.int .i64 a, .int .i64 b, .int .i64 (C : Int), .int .i64 m] 31)).cell? ⟨w.heap.size, k, none⟩ := fun k => hb1.cell (p := ⟨w.heap.size, k, none⟩) (by simp)
  have d3 := hcl 3
  simp [go_sem] at d3
  have c1 := c0.trans (hb1.mono c0.size)
  clear hcl hb1 c0
  go_wp2_with fail
  refine (rIn_yes q _ HI.out).mono ?_
  rintro e w' ⟨rfl, rfl⟩
  go_wp2_with fail
  refine (labs_is q K _ HK.out (by omega)).mono ?_
  rintro e w' ⟨rfl, rfl⟩
  go_wp2_with fail
  refine (labs_is T A _ HA.out (by omega)).mono ?_
  rintro e w' ⟨rfl, rfl⟩
  go_wp2_with fail
  refine (labs_is (T - X) L _ HL.out (by omega)).mono ?_
  rintro e w' ⟨rfl, rfl⟩
  go_wp2_with fail
  refine (awake_any _).mono ?_
  rintro e w3 ⟨rfl, hb3⟩
  go_wp2
  go_ret
  exact ⟨rfl, c1.trans (hb3.mono c1.size)⟩

set_option maxRecDepth 100000 in
set_option maxHeartbeats 2000000 in
theorem rounds_m2b_p (a b m : Int) (w : World) (C : Nat) (hC : 0 < C) (hC2 : C ≤ 1125899906842624) (T : Int) (A : Nat) (hT : a * b = T) (hTb : -1152921504606846976 ≤ T ∧ T ≤ 1152921504606846976) (hA : T.natAbs = A) (h1 : smB a = true) (h2 : smB b = true) (h3 : inRB (C : Int) = true) (hm0 : ¬ m < 0) (hm3 : ¬ 3 < m) (q X : Int) (K : Nat) (he : scaleS a b (C : Int) m = (q, 0)) (hq : inRB q = true) (hK : q.natAbs = K) (hQ0 : 0 ≤ (A : Int) / C) (hQ1 : (A : Int) / C ≤ 1152921504606846976) (hQ : ¬ (A : Int) / C + 1 < K) (hX : q * (C : Int) = X) (hXb : -4611686018427387904 ≤ X ∧ X ≤ 4611686018427387904) (L : Nat) (hL : (T - X).natAbs = L) (hLb : L ≤ 1125899906842624) (Y : Int) (hY : (K : Int) * C = Y) (hYb : Y ≤ 4611686018427387904) (hm : m = 2) (hd : 2 * (L : Int) = C) (hAY : (A : Int) < Y) :
    Calls Try.prog 7 #[.agg #[.int .i64 a, .int .i64 b, .int .i64 (C : Int), .int .i64 m]] w fun e w' => e = .returned (.bool true) ∧ Below w.heap.size w w' := by
  have H1 := Lib.hid h1
  have H2 := Lib.hid h2
  have H3 := Lib.hid h3
  have HE := Lib.hid he
  have HA := Lib.hid hA
  have hz1 : ((C : Int) == 0) = false := by simp only [beq_eq_false_iff_ne]; omega
  have hz2 : (-(C : Int) == 0) = false := by simp only [beq_eq_false_iff_ne]; omega
  clear h1 h2 h3 he hA
  have bq := inRB_true.1 hq
  have HI := Lib.hid hq
  have HK := Lib.hid hK
  clear hq hK
  have M0 : (m == 0) = false := by simp [hm]
  have M1 : (m == 1) = false := by simp [hm]
  have M2 : (m == 2) = true := by simp [hm]
  have HL := Lib.hid hL
  clear hm hL
  have hnl : ¬ 2 * (L : Int) < C := by omega
  have heq : (2 * (L : Int) == (C : Int)) = true := by simp [hd]
  clear hd
  go_enter Try.func7, Try.ntmps7
  go_wp2_with (first
    | (go_at_call_of 23 (Value.int .i64 a); refine (small_is a _ _ H1.out).mono ?_; rintro e w' ⟨rfl, rfl⟩)
    | (go_at_call_of 23 (Value.int .i64 b); refine (small_is b _ _ H2.out).mono ?_; rintro e w' ⟨rfl, rfl⟩)
    | (go_at_call_of 24 (Value.int .i64 (C : Int)); refine (rIn_yes (C : Int) _ H3.out).mono ?_; rintro e w' ⟨rfl, rfl⟩))
  go_region
  go_wp2_with fail
  refine (scale_is HE.out _).mono ?_
  rintro e w1 ⟨rfl, hb1⟩
  have c0 : Below w.heap.size w (w.alloc (.cells #[.int .i64 a, .int .i64 b, .int .i64 (C : Int), .int .i64 m] 31)).drew := ((Below.refl _ _).alloc (Nat.le_refl _) _).drew
  have hcl : ∀ k, w1.cell? ⟨w.heap.size, k, none⟩ = (w.alloc (.cells #[.int .i64 a, .int .i64 b, .int .i64 (C : Int), .int .i64 m] 31)).cell? ⟨w.heap.size, k, none⟩ := fun k => hb1.cell (p := ⟨w.heap.size, k, none⟩) (by simp)
  have d3 := hcl 3
  simp [go_sem] at d3
  have c1 := c0.trans (hb1.mono c0.size)
  clear hcl hb1 c0
  go_wp2_with fail
  refine (rIn_yes q _ HI.out).mono ?_
  rintro e w' ⟨rfl, rfl⟩
  go_wp2_with fail
  refine (labs_is q K _ HK.out (by omega)).mono ?_
  rintro e w' ⟨rfl, rfl⟩
  go_wp2_with fail
  refine (labs_is T A _ HA.out (by omega)).mono ?_
  rintro e w' ⟨rfl, rfl⟩
  go_wp2_with fail
  refine (labs_is (T - X) L _ HL.out (by omega)).mono ?_
  rintro e w' ⟨rfl, rfl⟩
  go_wp2_with fail
  refine (labs_is (T - X) L _ HL.out (by omega)).mono ?_
  rintro e w' ⟨rfl, rfl⟩
  go_wp2_with fail
  refine (labs_is q K _ HK.out (by omega)).mono ?_
  rintro e w' ⟨rfl, rfl⟩
  go_wp2_with fail
  refine (labs_is T A _ HA.out (by omega)).mono ?_
  rintro e w' ⟨rfl, rfl⟩
  go_wp2_with fail
  refine (awake_any _).mono ?_
  rintro e w3 ⟨rfl, hb3⟩
  go_wp2
  go_ret
  exact ⟨rfl, c1.trans (hb3.mono c1.size)⟩

set_option maxRecDepth 100000 in
set_option maxHeartbeats 2000000 in
theorem rounds_m3a_p (a b m : Int) (w : World) (C : Nat) (hC : 0 < C) (hC2 : C ≤ 1125899906842624) (T : Int) (A : Nat) (hT : a * b = T) (hTb : -1152921504606846976 ≤ T ∧ T ≤ 1152921504606846976) (hA : T.natAbs = A) (h1 : smB a = true) (h2 : smB b = true) (h3 : inRB (C : Int) = true) (hm0 : ¬ m < 0) (hm3 : ¬ 3 < m) (q X : Int) (K : Nat) (he : scaleS a b (C : Int) m = (q, 0)) (hq : inRB q = true) (hK : q.natAbs = K) (hQ0 : 0 ≤ (A : Int) / C) (hQ1 : (A : Int) / C ≤ 1152921504606846976) (hQ : ¬ (A : Int) / C + 1 < K) (hX : q * (C : Int) = X) (hXb : -4611686018427387904 ≤ X ∧ X ≤ 4611686018427387904) (L : Nat) (hL : (T - X).natAbs = L) (hLb : L ≤ 1125899906842624) (hm : m = 3) (hd : 2 * (L : Int) < C) :
    Calls Try.prog 7 #[.agg #[.int .i64 a, .int .i64 b, .int .i64 (C : Int), .int .i64 m]] w fun e w' => e = .returned (.bool true) ∧ Below w.heap.size w w' := by
  have H1 := Lib.hid h1
  have H2 := Lib.hid h2
  have H3 := Lib.hid h3
  have HE := Lib.hid he
  have HA := Lib.hid hA
  have hz1 : ((C : Int) == 0) = false := by simp only [beq_eq_false_iff_ne]; omega
  have hz2 : (-(C : Int) == 0) = false := by simp only [beq_eq_false_iff_ne]; omega
  clear h1 h2 h3 he hA
  have bq := inRB_true.1 hq
  have HI := Lib.hid hq
  have HK := Lib.hid hK
  clear hq hK
  have M0 : (m == 0) = false := by simp [hm]
  have M1 : (m == 1) = false := by simp [hm]
  have M2 : (m == 2) = false := by simp [hm]
  have HL := Lib.hid hL
  clear hm hL
  go_enter Try.func7, Try.ntmps7
  go_wp2_with (first
    | (go_at_call_of 23 (Value.int .i64 a); refine (small_is a _ _ H1.out).mono ?_; rintro e w' ⟨rfl, rfl⟩)
    | (go_at_call_of 23 (Value.int .i64 b); refine (small_is b _ _ H2.out).mono ?_; rintro e w' ⟨rfl, rfl⟩)
    | (go_at_call_of 24 (Value.int .i64 (C : Int)); refine (rIn_yes (C : Int) _ H3.out).mono ?_; rintro e w' ⟨rfl, rfl⟩))
  go_region
  go_wp2_with fail
  refine (scale_is HE.out _).mono ?_
  rintro e w1 ⟨rfl, hb1⟩
  have c0 : Below w.heap.size w (w.alloc (.cells #[.int .i64 a, .int .i64 b, .int .i64 (C : Int), .int .i64 m] 31)).drew := ((Below.refl _ _).alloc (Nat.le_refl _) _).drew
  have hcl : ∀ k, w1.cell? ⟨w.heap.size, k, none⟩ = (w.alloc (.cells #[.int .i64 a, .int .i64 b, .int .i64 (C : Int), .int .i64 m] 31)).cell? ⟨w.heap.size, k, none⟩ := fun k => hb1.cell (p := ⟨w.heap.size, k, none⟩) (by simp)
  have d3 := hcl 3
  simp [go_sem] at d3
  have c1 := c0.trans (hb1.mono c0.size)
  clear hcl hb1 c0
  go_wp2_with fail
  refine (rIn_yes q _ HI.out).mono ?_
  rintro e w' ⟨rfl, rfl⟩
  go_wp2_with fail
  refine (labs_is q K _ HK.out (by omega)).mono ?_
  rintro e w' ⟨rfl, rfl⟩
  go_wp2_with fail
  refine (labs_is T A _ HA.out (by omega)).mono ?_
  rintro e w' ⟨rfl, rfl⟩
  go_wp2_with fail
  refine (labs_is (T - X) L _ HL.out (by omega)).mono ?_
  rintro e w' ⟨rfl, rfl⟩
  go_wp2_with fail
  refine (awake_any _).mono ?_
  rintro e w3 ⟨rfl, hb3⟩
  go_wp2
  go_ret
  exact ⟨rfl, c1.trans (hb3.mono c1.size)⟩

set_option maxRecDepth 100000 in
set_option maxHeartbeats 2000000 in
theorem rounds_m3b_p (a b m : Int) (w : World) (C : Nat) (hC : 0 < C) (hC2 : C ≤ 1125899906842624) (T : Int) (A : Nat) (hT : a * b = T) (hTb : -1152921504606846976 ≤ T ∧ T ≤ 1152921504606846976) (hA : T.natAbs = A) (h1 : smB a = true) (h2 : smB b = true) (h3 : inRB (C : Int) = true) (hm0 : ¬ m < 0) (hm3 : ¬ 3 < m) (q X : Int) (K : Nat) (he : scaleS a b (C : Int) m = (q, 0)) (hq : inRB q = true) (hK : q.natAbs = K) (hQ0 : 0 ≤ (A : Int) / C) (hQ1 : (A : Int) / C ≤ 1152921504606846976) (hQ : ¬ (A : Int) / C + 1 < K) (hX : q * (C : Int) = X) (hXb : -4611686018427387904 ≤ X ∧ X ≤ 4611686018427387904) (L : Nat) (hL : (T - X).natAbs = L) (hLb : L ≤ 1125899906842624) (hm : m = 3) (hd : 2 * (L : Int) = C) (hev : q.tmod 2 = 0) :
    Calls Try.prog 7 #[.agg #[.int .i64 a, .int .i64 b, .int .i64 (C : Int), .int .i64 m]] w fun e w' => e = .returned (.bool true) ∧ Below w.heap.size w w' := by
  have H1 := Lib.hid h1
  have H2 := Lib.hid h2
  have H3 := Lib.hid h3
  have HE := Lib.hid he
  have HA := Lib.hid hA
  have hz1 : ((C : Int) == 0) = false := by simp only [beq_eq_false_iff_ne]; omega
  have hz2 : (-(C : Int) == 0) = false := by simp only [beq_eq_false_iff_ne]; omega
  clear h1 h2 h3 he hA
  have bq := inRB_true.1 hq
  have HI := Lib.hid hq
  have HK := Lib.hid hK
  clear hq hK
  have M0 : (m == 0) = false := by simp [hm]
  have M1 : (m == 1) = false := by simp [hm]
  have M2 : (m == 2) = false := by simp [hm]
  have HL := Lib.hid hL
  clear hm hL
  have hnl : ¬ 2 * (L : Int) < C := by omega
  have heq : (2 * (L : Int) == (C : Int)) = true := by simp [hd]
  have hev' : (q.tmod 2 == 0) = true := by simp [hev]
  clear hd
  go_enter Try.func7, Try.ntmps7
  go_wp2_with (first
    | (go_at_call_of 23 (Value.int .i64 a); refine (small_is a _ _ H1.out).mono ?_; rintro e w' ⟨rfl, rfl⟩)
    | (go_at_call_of 23 (Value.int .i64 b); refine (small_is b _ _ H2.out).mono ?_; rintro e w' ⟨rfl, rfl⟩)
    | (go_at_call_of 24 (Value.int .i64 (C : Int)); refine (rIn_yes (C : Int) _ H3.out).mono ?_; rintro e w' ⟨rfl, rfl⟩))
  go_region
  go_wp2_with fail
  refine (scale_is HE.out _).mono ?_
  rintro e w1 ⟨rfl, hb1⟩
  have c0 : Below w.heap.size w (w.alloc (.cells #[.int .i64 a, .int .i64 b, .int .i64 (C : Int), .int .i64 m] 31)).drew := ((Below.refl _ _).alloc (Nat.le_refl _) _).drew
  have hcl : ∀ k, w1.cell? ⟨w.heap.size, k, none⟩ = (w.alloc (.cells #[.int .i64 a, .int .i64 b, .int .i64 (C : Int), .int .i64 m] 31)).cell? ⟨w.heap.size, k, none⟩ := fun k => hb1.cell (p := ⟨w.heap.size, k, none⟩) (by simp)
  have d3 := hcl 3
  simp [go_sem] at d3
  have c1 := c0.trans (hb1.mono c0.size)
  clear hcl hb1 c0
  go_wp2_with fail
  refine (rIn_yes q _ HI.out).mono ?_
  rintro e w' ⟨rfl, rfl⟩
  go_wp2_with fail
  refine (labs_is q K _ HK.out (by omega)).mono ?_
  rintro e w' ⟨rfl, rfl⟩
  go_wp2_with fail
  refine (labs_is T A _ HA.out (by omega)).mono ?_
  rintro e w' ⟨rfl, rfl⟩
  go_wp2_with fail
  refine (labs_is (T - X) L _ HL.out (by omega)).mono ?_
  rintro e w' ⟨rfl, rfl⟩
  go_wp2_with fail
  refine (labs_is (T - X) L _ HL.out (by omega)).mono ?_
  rintro e w' ⟨rfl, rfl⟩
  go_wp2_with fail
  refine (awake_any _).mono ?_
  rintro e w3 ⟨rfl, hb3⟩
  go_wp2
  go_ret
  exact ⟨rfl, c1.trans (hb3.mono c1.size)⟩

set_option maxRecDepth 100000 in
set_option maxHeartbeats 2000000 in
theorem rounds_over_n (a b m : Int) (w : World) (C : Nat) (hC : 0 < C) (hC2 : C ≤ 1125899906842624) (T : Int) (A : Nat) (hT : a * b = T) (hTb : -1152921504606846976 ≤ T ∧ T ≤ 1152921504606846976) (hA : (-T).natAbs = A) (h1 : smB a = true) (h2 : smB b = true) (h3 : inRB (-(C : Int)) = true) (hm0 : ¬ m < 0) (hm3 : ¬ 3 < m) (he : scaleS a b (-(C : Int)) m = (0, 2)) (hQ : 1125899906842624 ≤ (A : Int) / C) (hQ1 : (A : Int) / C ≤ 1152921504606846976) :
    Calls Try.prog 7 #[.agg #[.int .i64 a, .int .i64 b, .int .i64 (-(C : Int)), .int .i64 m]] w fun e w' => e = .returned (.bool true) ∧ Below w.heap.size w w' := by
  have H1 := Lib.hid h1
  have H2 := Lib.hid h2
  have H3 := Lib.hid h3
  have HE := Lib.hid he
  have HA := Lib.hid hA
  have hz1 : ((C : Int) == 0) = false := by simp only [beq_eq_false_iff_ne]; omega
  have hz2 : (-(C : Int) == 0) = false := by simp only [beq_eq_false_iff_ne]; omega
  clear h1 h2 h3 he hA
  go_enter Try.func7, Try.ntmps7
  go_wp2_with (first
    | (go_at_call_of 23 (Value.int .i64 a); refine (small_is a _ _ H1.out).mono ?_; rintro e w' ⟨rfl, rfl⟩)
    | (go_at_call_of 23 (Value.int .i64 b); refine (small_is b _ _ H2.out).mono ?_; rintro e w' ⟨rfl, rfl⟩)
    | (go_at_call_of 24 (Value.int .i64 (-(C : Int))); refine (rIn_yes (-(C : Int)) _ H3.out).mono ?_; rintro e w' ⟨rfl, rfl⟩))
  go_region
  go_wp2_with fail
  refine (scale_is HE.out _).mono ?_
  rintro e w1 ⟨rfl, hb1⟩
  have c0 : Below w.heap.size w (w.alloc (.cells #[.int .i64 a, .int .i64 b, .int .i64 (-(C : Int)), .int .i64 m] 31)).drew := ((Below.refl _ _).alloc (Nat.le_refl _) _).drew
  have hcl : ∀ k, w1.cell? ⟨w.heap.size, k, none⟩ = (w.alloc (.cells #[.int .i64 a, .int .i64 b, .int .i64 (-(C : Int)), .int .i64 m] 31)).cell? ⟨w.heap.size, k, none⟩ := fun k => hb1.cell (p := ⟨w.heap.size, k, none⟩) (by simp)
  have d3 := hcl 3
  simp [go_sem] at d3
  have c1 := c0.trans (hb1.mono c0.size)
  clear hcl hb1 c0
  go_wp2_with fail
  refine (labs_is (-T) A _ HA.out (by omega)).mono ?_
  rintro e w' ⟨rfl, rfl⟩
  go_wp2_with fail
  refine (awake_any _).mono ?_
  rintro e w3 ⟨rfl, hb3⟩
  go_wp2
  go_ret
  exact ⟨rfl, c1.trans (hb3.mono c1.size)⟩

set_option maxRecDepth 100000 in
set_option maxHeartbeats 2000000 in
theorem rounds_m0_n (a b m : Int) (w : World) (C : Nat) (hC : 0 < C) (hC2 : C ≤ 1125899906842624) (T : Int) (A : Nat) (hT : a * b = T) (hTb : -1152921504606846976 ≤ T ∧ T ≤ 1152921504606846976) (hA : (-T).natAbs = A) (h1 : smB a = true) (h2 : smB b = true) (h3 : inRB (-(C : Int)) = true) (hm0 : ¬ m < 0) (hm3 : ¬ 3 < m) (q X : Int) (K : Nat) (he : scaleS a b (-(C : Int)) m = (q, 0)) (hq : inRB q = true) (hK : q.natAbs = K) (hQ0 : 0 ≤ (A : Int) / C) (hQ1 : (A : Int) / C ≤ 1152921504606846976) (hQ : ¬ (A : Int) / C + 1 < K) (hX : q * (C : Int) = X) (hXb : -4611686018427387904 ≤ X ∧ X ≤ 4611686018427387904) (hm : m = 0) (hd0 : 0 ≤ -T - X) (hd1 : -T - X < (C : Int)) :
    Calls Try.prog 7 #[.agg #[.int .i64 a, .int .i64 b, .int .i64 (-(C : Int)), .int .i64 m]] w fun e w' => e = .returned (.bool true) ∧ Below w.heap.size w w' := by
  have H1 := Lib.hid h1
  have H2 := Lib.hid h2
  have H3 := Lib.hid h3
  have HE := Lib.hid he
  have HA := Lib.hid hA
  have hz1 : ((C : Int) == 0) = false := by simp only [beq_eq_false_iff_ne]; omega
  have hz2 : (-(C : Int) == 0) = false := by simp only [beq_eq_false_iff_ne]; omega
  clear h1 h2 h3 he hA
  have bq := inRB_true.1 hq
  have HI := Lib.hid hq
  have HK := Lib.hid hK
  clear hq hK
  have M0 : (m == 0) = true := by simp [hm]
  clear hm
  go_enter Try.func7, Try.ntmps7
  go_wp2_with (first
    | (go_at_call_of 23 (Value.int .i64 a); refine (small_is a _ _ H1.out).mono ?_; rintro e w' ⟨rfl, rfl⟩)
    | (go_at_call_of 23 (Value.int .i64 b); refine (small_is b _ _ H2.out).mono ?_; rintro e w' ⟨rfl, rfl⟩)
    | (go_at_call_of 24 (Value.int .i64 (-(C : Int))); refine (rIn_yes (-(C : Int)) _ H3.out).mono ?_; rintro e w' ⟨rfl, rfl⟩))
  go_region
  go_wp2_with fail
  refine (scale_is HE.out _).mono ?_
  rintro e w1 ⟨rfl, hb1⟩
  have c0 : Below w.heap.size w (w.alloc (.cells #[.int .i64 a, .int .i64 b, .int .i64 (-(C : Int)), .int .i64 m] 31)).drew := ((Below.refl _ _).alloc (Nat.le_refl _) _).drew
  have hcl : ∀ k, w1.cell? ⟨w.heap.size, k, none⟩ = (w.alloc (.cells #[.int .i64 a, .int .i64 b, .int .i64 (-(C : Int)), .int .i64 m] 31)).cell? ⟨w.heap.size, k, none⟩ := fun k => hb1.cell (p := ⟨w.heap.size, k, none⟩) (by simp)
  have d3 := hcl 3
  simp [go_sem] at d3
  have c1 := c0.trans (hb1.mono c0.size)
  clear hcl hb1 c0
  go_wp2_with fail
  refine (rIn_yes q _ HI.out).mono ?_
  rintro e w' ⟨rfl, rfl⟩
  go_wp2_with fail
  refine (labs_is q K _ HK.out (by omega)).mono ?_
  rintro e w' ⟨rfl, rfl⟩
  go_wp2_with fail
  refine (labs_is (-T) A _ HA.out (by omega)).mono ?_
  rintro e w' ⟨rfl, rfl⟩
  go_wp2_with fail
  refine (awake_any _).mono ?_
  rintro e w3 ⟨rfl, hb3⟩
  go_wp2
  go_ret
  exact ⟨rfl, c1.trans (hb3.mono c1.size)⟩

set_option maxRecDepth 100000 in
set_option maxHeartbeats 2000000 in
theorem rounds_m1_n (a b m : Int) (w : World) (C : Nat) (hC : 0 < C) (hC2 : C ≤ 1125899906842624) (T : Int) (A : Nat) (hT : a * b = T) (hTb : -1152921504606846976 ≤ T ∧ T ≤ 1152921504606846976) (hA : (-T).natAbs = A) (h1 : smB a = true) (h2 : smB b = true) (h3 : inRB (-(C : Int)) = true) (hm0 : ¬ m < 0) (hm3 : ¬ 3 < m) (q X : Int) (K : Nat) (he : scaleS a b (-(C : Int)) m = (q, 0)) (hq : inRB q = true) (hK : q.natAbs = K) (hQ0 : 0 ≤ (A : Int) / C) (hQ1 : (A : Int) / C ≤ 1152921504606846976) (hQ : ¬ (A : Int) / C + 1 < K) (hX : q * (C : Int) = X) (hXb : -4611686018427387904 ≤ X ∧ X ≤ 4611686018427387904) (hm : m = 1) (hd0 : -T - X ≤ 0) (hd1 : -(C : Int) < -T - X) :
    Calls Try.prog 7 #[.agg #[.int .i64 a, .int .i64 b, .int .i64 (-(C : Int)), .int .i64 m]] w fun e w' => e = .returned (.bool true) ∧ Below w.heap.size w w' := by
  have H1 := Lib.hid h1
  have H2 := Lib.hid h2
  have H3 := Lib.hid h3
  have HE := Lib.hid he
  have HA := Lib.hid hA
  have hz1 : ((C : Int) == 0) = false := by simp only [beq_eq_false_iff_ne]; omega
  have hz2 : (-(C : Int) == 0) = false := by simp only [beq_eq_false_iff_ne]; omega
  clear h1 h2 h3 he hA
  have bq := inRB_true.1 hq
  have HI := Lib.hid hq
  have HK := Lib.hid hK
  clear hq hK
  have M0 : (m == 0) = false := by simp [hm]
  have M1 : (m == 1) = true := by simp [hm]
  clear hm
  go_enter Try.func7, Try.ntmps7
  go_wp2_with (first
    | (go_at_call_of 23 (Value.int .i64 a); refine (small_is a _ _ H1.out).mono ?_; rintro e w' ⟨rfl, rfl⟩)
    | (go_at_call_of 23 (Value.int .i64 b); refine (small_is b _ _ H2.out).mono ?_; rintro e w' ⟨rfl, rfl⟩)
    | (go_at_call_of 24 (Value.int .i64 (-(C : Int))); refine (rIn_yes (-(C : Int)) _ H3.out).mono ?_; rintro e w' ⟨rfl, rfl⟩))
  go_region
  go_wp2_with fail
  refine (scale_is HE.out _).mono ?_
  rintro e w1 ⟨rfl, hb1⟩
  have c0 : Below w.heap.size w (w.alloc (.cells #[.int .i64 a, .int .i64 b, .int .i64 (-(C : Int)), .int .i64 m] 31)).drew := ((Below.refl _ _).alloc (Nat.le_refl _) _).drew
  have hcl : ∀ k, w1.cell? ⟨w.heap.size, k, none⟩ = (w.alloc (.cells #[.int .i64 a, .int .i64 b, .int .i64 (-(C : Int)), .int .i64 m] 31)).cell? ⟨w.heap.size, k, none⟩ := fun k => hb1.cell (p := ⟨w.heap.size, k, none⟩) (by simp)
  have d3 := hcl 3
  simp [go_sem] at d3
  have c1 := c0.trans (hb1.mono c0.size)
  clear hcl hb1 c0
  go_wp2_with fail
  refine (rIn_yes q _ HI.out).mono ?_
  rintro e w' ⟨rfl, rfl⟩
  go_wp2_with fail
  refine (labs_is q K _ HK.out (by omega)).mono ?_
  rintro e w' ⟨rfl, rfl⟩
  go_wp2_with fail
  refine (labs_is (-T) A _ HA.out (by omega)).mono ?_
  rintro e w' ⟨rfl, rfl⟩
  go_wp2_with fail
  refine (awake_any _).mono ?_
  rintro e w3 ⟨rfl, hb3⟩
  go_wp2
  go_ret
  exact ⟨rfl, c1.trans (hb3.mono c1.size)⟩

set_option maxRecDepth 100000 in
set_option maxHeartbeats 2000000 in
theorem rounds_m2a_n (a b m : Int) (w : World) (C : Nat) (hC : 0 < C) (hC2 : C ≤ 1125899906842624) (T : Int) (A : Nat) (hT : a * b = T) (hTb : -1152921504606846976 ≤ T ∧ T ≤ 1152921504606846976) (hA : (-T).natAbs = A) (h1 : smB a = true) (h2 : smB b = true) (h3 : inRB (-(C : Int)) = true) (hm0 : ¬ m < 0) (hm3 : ¬ 3 < m) (q X : Int) (K : Nat) (he : scaleS a b (-(C : Int)) m = (q, 0)) (hq : inRB q = true) (hK : q.natAbs = K) (hQ0 : 0 ≤ (A : Int) / C) (hQ1 : (A : Int) / C ≤ 1152921504606846976) (hQ : ¬ (A : Int) / C + 1 < K) (hX : q * (C : Int) = X) (hXb : -4611686018427387904 ≤ X ∧ X ≤ 4611686018427387904) (L : Nat) (hL : (-T - X).natAbs = L) (hLb : L ≤ 1125899906842624) (hm : m = 2) (hd : 2 * (L : Int) < C) :
    Calls Try.prog 7 #[.agg #[.int .i64 a, .int .i64 b, .int .i64 (-(C : Int)), .int .i64 m]] w fun e w' => e = .returned (.bool true) ∧ Below w.heap.size w w' := by
  have H1 := Lib.hid h1
  have H2 := Lib.hid h2
  have H3 := Lib.hid h3
  have HE := Lib.hid he
  have HA := Lib.hid hA
  have hz1 : ((C : Int) == 0) = false := by simp only [beq_eq_false_iff_ne]; omega
  have hz2 : (-(C : Int) == 0) = false := by simp only [beq_eq_false_iff_ne]; omega
  clear h1 h2 h3 he hA
  have bq := inRB_true.1 hq
  have HI := Lib.hid hq
  have HK := Lib.hid hK
  clear hq hK
  have M0 : (m == 0) = false := by simp [hm]
  have M1 : (m == 1) = false := by simp [hm]
  have M2 : (m == 2) = true := by simp [hm]
  have HL := Lib.hid hL
  clear hm hL
  go_enter Try.func7, Try.ntmps7
  go_wp2_with (first
    | (go_at_call_of 23 (Value.int .i64 a); refine (small_is a _ _ H1.out).mono ?_; rintro e w' ⟨rfl, rfl⟩)
    | (go_at_call_of 23 (Value.int .i64 b); refine (small_is b _ _ H2.out).mono ?_; rintro e w' ⟨rfl, rfl⟩)
    | (go_at_call_of 24 (Value.int .i64 (-(C : Int))); refine (rIn_yes (-(C : Int)) _ H3.out).mono ?_; rintro e w' ⟨rfl, rfl⟩))
  go_region
  go_wp2_with fail
  refine (scale_is HE.out _).mono ?_
  rintro e w1 ⟨rfl, hb1⟩
  have c0 : Below w.heap.size w (w.alloc (.cells #[.int .i64 a, .int .i64 b, .int .i64 (-(C : Int)), .int .i64 m] 31)).drew := ((Below.refl _ _).alloc (Nat.le_refl _) _).drew
  have hcl : ∀ k, w1.cell? ⟨w.heap.size, k, none⟩ = (w.alloc (.cells #[.int .i64 a, .int .i64 b, .int .i64 (-(C : Int)), .int .i64 m] 31)).cell? ⟨w.heap.size, k, none⟩ := fun k => hb1.cell (p := ⟨w.heap.size, k, none⟩) (by simp)
  have d3 := hcl 3
  simp [go_sem] at d3
  have c1 := c0.trans (hb1.mono c0.size)
  clear hcl hb1 c0
  go_wp2_with fail
  refine (rIn_yes q _ HI.out).mono ?_
  rintro e w' ⟨rfl, rfl⟩
  go_wp2_with fail
  refine (labs_is q K _ HK.out (by omega)).mono ?_
  rintro e w' ⟨rfl, rfl⟩
  go_wp2_with fail
  refine (labs_is (-T) A _ HA.out (by omega)).mono ?_
  rintro e w' ⟨rfl, rfl⟩
  go_wp2_with fail
  refine (labs_is (-T - X) L _ HL.out (by omega)).mono ?_
  rintro e w' ⟨rfl, rfl⟩
  go_wp2_with fail
  refine (awake_any _).mono ?_
  rintro e w3 ⟨rfl, hb3⟩
  go_wp2
  go_ret
  exact ⟨rfl, c1.trans (hb3.mono c1.size)⟩

set_option maxRecDepth 100000 in
set_option maxHeartbeats 2000000 in
theorem rounds_m2b_n (a b m : Int) (w : World) (C : Nat) (hC : 0 < C) (hC2 : C ≤ 1125899906842624) (T : Int) (A : Nat) (hT : a * b = T) (hTb : -1152921504606846976 ≤ T ∧ T ≤ 1152921504606846976) (hA : (-T).natAbs = A) (h1 : smB a = true) (h2 : smB b = true) (h3 : inRB (-(C : Int)) = true) (hm0 : ¬ m < 0) (hm3 : ¬ 3 < m) (q X : Int) (K : Nat) (he : scaleS a b (-(C : Int)) m = (q, 0)) (hq : inRB q = true) (hK : q.natAbs = K) (hQ0 : 0 ≤ (A : Int) / C) (hQ1 : (A : Int) / C ≤ 1152921504606846976) (hQ : ¬ (A : Int) / C + 1 < K) (hX : q * (C : Int) = X) (hXb : -4611686018427387904 ≤ X ∧ X ≤ 4611686018427387904) (L : Nat) (hL : (-T - X).natAbs = L) (hLb : L ≤ 1125899906842624) (Y : Int) (hY : (K : Int) * C = Y) (hYb : Y ≤ 4611686018427387904) (hm : m = 2) (hd : 2 * (L : Int) = C) (hAY : (A : Int) < Y) :
    Calls Try.prog 7 #[.agg #[.int .i64 a, .int .i64 b, .int .i64 (-(C : Int)), .int .i64 m]] w fun e w' => e = .returned (.bool true) ∧ Below w.heap.size w w' := by
  have H1 := Lib.hid h1
  have H2 := Lib.hid h2
  have H3 := Lib.hid h3
  have HE := Lib.hid he
  have HA := Lib.hid hA
  have hz1 : ((C : Int) == 0) = false := by simp only [beq_eq_false_iff_ne]; omega
  have hz2 : (-(C : Int) == 0) = false := by simp only [beq_eq_false_iff_ne]; omega
  clear h1 h2 h3 he hA
  have bq := inRB_true.1 hq
  have HI := Lib.hid hq
  have HK := Lib.hid hK
  clear hq hK
  have M0 : (m == 0) = false := by simp [hm]
  have M1 : (m == 1) = false := by simp [hm]
  have M2 : (m == 2) = true := by simp [hm]
  have HL := Lib.hid hL
  clear hm hL
  have hnl : ¬ 2 * (L : Int) < C := by omega
  have heq : (2 * (L : Int) == (C : Int)) = true := by simp [hd]
  clear hd
  go_enter Try.func7, Try.ntmps7
  go_wp2_with (first
    | (go_at_call_of 23 (Value.int .i64 a); refine (small_is a _ _ H1.out).mono ?_; rintro e w' ⟨rfl, rfl⟩)
    | (go_at_call_of 23 (Value.int .i64 b); refine (small_is b _ _ H2.out).mono ?_; rintro e w' ⟨rfl, rfl⟩)
    | (go_at_call_of 24 (Value.int .i64 (-(C : Int))); refine (rIn_yes (-(C : Int)) _ H3.out).mono ?_; rintro e w' ⟨rfl, rfl⟩))
  go_region
  go_wp2_with fail
  refine (scale_is HE.out _).mono ?_
  rintro e w1 ⟨rfl, hb1⟩
  have c0 : Below w.heap.size w (w.alloc (.cells #[.int .i64 a, .int .i64 b, .int .i64 (-(C : Int)), .int .i64 m] 31)).drew := ((Below.refl _ _).alloc (Nat.le_refl _) _).drew
  have hcl : ∀ k, w1.cell? ⟨w.heap.size, k, none⟩ = (w.alloc (.cells #[.int .i64 a, .int .i64 b, .int .i64 (-(C : Int)), .int .i64 m] 31)).cell? ⟨w.heap.size, k, none⟩ := fun k => hb1.cell (p := ⟨w.heap.size, k, none⟩) (by simp)
  have d3 := hcl 3
  simp [go_sem] at d3
  have c1 := c0.trans (hb1.mono c0.size)
  clear hcl hb1 c0
  go_wp2_with fail
  refine (rIn_yes q _ HI.out).mono ?_
  rintro e w' ⟨rfl, rfl⟩
  go_wp2_with fail
  refine (labs_is q K _ HK.out (by omega)).mono ?_
  rintro e w' ⟨rfl, rfl⟩
  go_wp2_with fail
  refine (labs_is (-T) A _ HA.out (by omega)).mono ?_
  rintro e w' ⟨rfl, rfl⟩
  go_wp2_with fail
  refine (labs_is (-T - X) L _ HL.out (by omega)).mono ?_
  rintro e w' ⟨rfl, rfl⟩
  go_wp2_with fail
  refine (labs_is (-T - X) L _ HL.out (by omega)).mono ?_
  rintro e w' ⟨rfl, rfl⟩
  go_wp2_with fail
  refine (labs_is q K _ HK.out (by omega)).mono ?_
  rintro e w' ⟨rfl, rfl⟩
  go_wp2_with fail
  refine (labs_is (-T) A _ HA.out (by omega)).mono ?_
  rintro e w' ⟨rfl, rfl⟩
  go_wp2_with fail
  refine (awake_any _).mono ?_
  rintro e w3 ⟨rfl, hb3⟩
  go_wp2
  go_ret
  exact ⟨rfl, c1.trans (hb3.mono c1.size)⟩

set_option maxRecDepth 100000 in
set_option maxHeartbeats 2000000 in
theorem rounds_m3a_n (a b m : Int) (w : World) (C : Nat) (hC : 0 < C) (hC2 : C ≤ 1125899906842624) (T : Int) (A : Nat) (hT : a * b = T) (hTb : -1152921504606846976 ≤ T ∧ T ≤ 1152921504606846976) (hA : (-T).natAbs = A) (h1 : smB a = true) (h2 : smB b = true) (h3 : inRB (-(C : Int)) = true) (hm0 : ¬ m < 0) (hm3 : ¬ 3 < m) (q X : Int) (K : Nat) (he : scaleS a b (-(C : Int)) m = (q, 0)) (hq : inRB q = true) (hK : q.natAbs = K) (hQ0 : 0 ≤ (A : Int) / C) (hQ1 : (A : Int) / C ≤ 1152921504606846976) (hQ : ¬ (A : Int) / C + 1 < K) (hX : q * (C : Int) = X) (hXb : -4611686018427387904 ≤ X ∧ X ≤ 4611686018427387904) (L : Nat) (hL : (-T - X).natAbs = L) (hLb : L ≤ 1125899906842624) (hm : m = 3) (hd : 2 * (L : Int) < C) :
    Calls Try.prog 7 #[.agg #[.int .i64 a, .int .i64 b, .int .i64 (-(C : Int)), .int .i64 m]] w fun e w' => e = .returned (.bool true) ∧ Below w.heap.size w w' := by
  have H1 := Lib.hid h1
  have H2 := Lib.hid h2
  have H3 := Lib.hid h3
  have HE := Lib.hid he
  have HA := Lib.hid hA
  have hz1 : ((C : Int) == 0) = false := by simp only [beq_eq_false_iff_ne]; omega
  have hz2 : (-(C : Int) == 0) = false := by simp only [beq_eq_false_iff_ne]; omega
  clear h1 h2 h3 he hA
  have bq := inRB_true.1 hq
  have HI := Lib.hid hq
  have HK := Lib.hid hK
  clear hq hK
  have M0 : (m == 0) = false := by simp [hm]
  have M1 : (m == 1) = false := by simp [hm]
  have M2 : (m == 2) = false := by simp [hm]
  have HL := Lib.hid hL
  clear hm hL
  go_enter Try.func7, Try.ntmps7
  go_wp2_with (first
    | (go_at_call_of 23 (Value.int .i64 a); refine (small_is a _ _ H1.out).mono ?_; rintro e w' ⟨rfl, rfl⟩)
    | (go_at_call_of 23 (Value.int .i64 b); refine (small_is b _ _ H2.out).mono ?_; rintro e w' ⟨rfl, rfl⟩)
    | (go_at_call_of 24 (Value.int .i64 (-(C : Int))); refine (rIn_yes (-(C : Int)) _ H3.out).mono ?_; rintro e w' ⟨rfl, rfl⟩))
  go_region
  go_wp2_with fail
  refine (scale_is HE.out _).mono ?_
  rintro e w1 ⟨rfl, hb1⟩
  have c0 : Below w.heap.size w (w.alloc (.cells #[.int .i64 a, .int .i64 b, .int .i64 (-(C : Int)), .int .i64 m] 31)).drew := ((Below.refl _ _).alloc (Nat.le_refl _) _).drew
  have hcl : ∀ k, w1.cell? ⟨w.heap.size, k, none⟩ = (w.alloc (.cells #[.int .i64 a, .int .i64 b, .int .i64 (-(C : Int)), .int .i64 m] 31)).cell? ⟨w.heap.size, k, none⟩ := fun k => hb1.cell (p := ⟨w.heap.size, k, none⟩) (by simp)
  have d3 := hcl 3
  simp [go_sem] at d3
  have c1 := c0.trans (hb1.mono c0.size)
  clear hcl hb1 c0
  go_wp2_with fail
  refine (rIn_yes q _ HI.out).mono ?_
  rintro e w' ⟨rfl, rfl⟩
  go_wp2_with fail
  refine (labs_is q K _ HK.out (by omega)).mono ?_
  rintro e w' ⟨rfl, rfl⟩
  go_wp2_with fail
  refine (labs_is (-T) A _ HA.out (by omega)).mono ?_
  rintro e w' ⟨rfl, rfl⟩
  go_wp2_with fail
  refine (labs_is (-T - X) L _ HL.out (by omega)).mono ?_
  rintro e w' ⟨rfl, rfl⟩
  go_wp2_with fail
  refine (awake_any _).mono ?_
  rintro e w3 ⟨rfl, hb3⟩
  go_wp2
  go_ret
  exact ⟨rfl, c1.trans (hb3.mono c1.size)⟩

set_option maxRecDepth 100000 in
set_option maxHeartbeats 2000000 in
theorem rounds_m3b_n (a b m : Int) (w : World) (C : Nat) (hC : 0 < C) (hC2 : C ≤ 1125899906842624) (T : Int) (A : Nat) (hT : a * b = T) (hTb : -1152921504606846976 ≤ T ∧ T ≤ 1152921504606846976) (hA : (-T).natAbs = A) (h1 : smB a = true) (h2 : smB b = true) (h3 : inRB (-(C : Int)) = true) (hm0 : ¬ m < 0) (hm3 : ¬ 3 < m) (q X : Int) (K : Nat) (he : scaleS a b (-(C : Int)) m = (q, 0)) (hq : inRB q = true) (hK : q.natAbs = K) (hQ0 : 0 ≤ (A : Int) / C) (hQ1 : (A : Int) / C ≤ 1152921504606846976) (hQ : ¬ (A : Int) / C + 1 < K) (hX : q * (C : Int) = X) (hXb : -4611686018427387904 ≤ X ∧ X ≤ 4611686018427387904) (L : Nat) (hL : (-T - X).natAbs = L) (hLb : L ≤ 1125899906842624) (hm : m = 3) (hd : 2 * (L : Int) = C) (hev : q.tmod 2 = 0) :
    Calls Try.prog 7 #[.agg #[.int .i64 a, .int .i64 b, .int .i64 (-(C : Int)), .int .i64 m]] w fun e w' => e = .returned (.bool true) ∧ Below w.heap.size w w' := by
  have H1 := Lib.hid h1
  have H2 := Lib.hid h2
  have H3 := Lib.hid h3
  have HE := Lib.hid he
  have HA := Lib.hid hA
  have hz1 : ((C : Int) == 0) = false := by simp only [beq_eq_false_iff_ne]; omega
  have hz2 : (-(C : Int) == 0) = false := by simp only [beq_eq_false_iff_ne]; omega
  clear h1 h2 h3 he hA
  have bq := inRB_true.1 hq
  have HI := Lib.hid hq
  have HK := Lib.hid hK
  clear hq hK
  have M0 : (m == 0) = false := by simp [hm]
  have M1 : (m == 1) = false := by simp [hm]
  have M2 : (m == 2) = false := by simp [hm]
  have HL := Lib.hid hL
  clear hm hL
  have hnl : ¬ 2 * (L : Int) < C := by omega
  have heq : (2 * (L : Int) == (C : Int)) = true := by simp [hd]
  have hev' : (q.tmod 2 == 0) = true := by simp [hev]
  clear hd
  go_enter Try.func7, Try.ntmps7
  go_wp2_with (first
    | (go_at_call_of 23 (Value.int .i64 a); refine (small_is a _ _ H1.out).mono ?_; rintro e w' ⟨rfl, rfl⟩)
    | (go_at_call_of 23 (Value.int .i64 b); refine (small_is b _ _ H2.out).mono ?_; rintro e w' ⟨rfl, rfl⟩)
    | (go_at_call_of 24 (Value.int .i64 (-(C : Int))); refine (rIn_yes (-(C : Int)) _ H3.out).mono ?_; rintro e w' ⟨rfl, rfl⟩))
  go_region
  go_wp2_with fail
  refine (scale_is HE.out _).mono ?_
  rintro e w1 ⟨rfl, hb1⟩
  have c0 : Below w.heap.size w (w.alloc (.cells #[.int .i64 a, .int .i64 b, .int .i64 (-(C : Int)), .int .i64 m] 31)).drew := ((Below.refl _ _).alloc (Nat.le_refl _) _).drew
  have hcl : ∀ k, w1.cell? ⟨w.heap.size, k, none⟩ = (w.alloc (.cells #[.int .i64 a, .int .i64 b, .int .i64 (-(C : Int)), .int .i64 m] 31)).cell? ⟨w.heap.size, k, none⟩ := fun k => hb1.cell (p := ⟨w.heap.size, k, none⟩) (by simp)
  have d3 := hcl 3
  simp [go_sem] at d3
  have c1 := c0.trans (hb1.mono c0.size)
  clear hcl hb1 c0
  go_wp2_with fail
  refine (rIn_yes q _ HI.out).mono ?_
  rintro e w' ⟨rfl, rfl⟩
  go_wp2_with fail
  refine (labs_is q K _ HK.out (by omega)).mono ?_
  rintro e w' ⟨rfl, rfl⟩
  go_wp2_with fail
  refine (labs_is (-T) A _ HA.out (by omega)).mono ?_
  rintro e w' ⟨rfl, rfl⟩
  go_wp2_with fail
  refine (labs_is (-T - X) L _ HL.out (by omega)).mono ?_
  rintro e w' ⟨rfl, rfl⟩
  go_wp2_with fail
  refine (labs_is (-T - X) L _ HL.out (by omega)).mono ?_
  rintro e w' ⟨rfl, rfl⟩
  go_wp2_with fail
  refine (awake_any _).mono ?_
  rintro e w3 ⟨rfl, hb3⟩
  go_wp2
  go_ret
  exact ⟨rfl, c1.trans (hb3.mono c1.size)⟩

end Go.Proofs.Ytejokpbmdhmhfaa
