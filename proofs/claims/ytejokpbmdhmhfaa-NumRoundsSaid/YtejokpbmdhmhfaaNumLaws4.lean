/-
  The walk of NumRounds, put together.
-/
import Derived.Test.YtejokpbmdhmhfaaNumLaws4a
namespace Go.Proofs.Ytejokpbmdhmhfaa
open Go.RowKit

theorem rounds_all_p (a b m : Int) (w : World) (C : Nat) (hC : 0 < C) (hC2 : C ≤ 1125899906842624) (h1 : smB a = true) (h2 : smB b = true) (h3 : inRB (C : Int) = true) (hm0 : ¬ m < 0) (hm3 : ¬ 3 < m) :
    Calls Try.prog 7 #[.agg #[.int .i64 a, .int .i64 b, .int .i64 (C : Int), .int .i64 m]] w fun e w' => e = .returned (.bool true) ∧ Below w.heap.size w w' := by
  have ba := smB_true.1 h1
  have bb := smB_true.1 h2
  have hr := rounds (a := a) (b := b) (c := (C : Int)) (m := m) ba bb h3 (by omega) (by omega)
  have hp : prodS a b (C : Int) = (a * b) := by unfold prodS; rw [if_neg (by omega)]
  have hab : (a * b).natAbs ≤ 1152921504606846976 := by
    rw [Int.natAbs_mul]
    exact Nat.le_trans (Nat.mul_le_mul (show a.natAbs ≤ 1073741824 by omega) (show b.natAbs ≤ 1073741824 by omega)) (by decide)
  have hcn : ((C : Int)).natAbs = C := by omega
  rw [hp, hcn] at hr
  obtain ⟨A, hA⟩ : ∃ A, ((a * b)).natAbs = A := ⟨_, rfl⟩
  have hA60 : A ≤ 1152921504606846976 := by omega
  have hTb : -1152921504606846976 ≤ a * b ∧ a * b ≤ 1152921504606846976 := by omega
  have hdiv : ((A / C : Nat) : Int) = (A : Int) / C := by simp
  have hdle : A / C ≤ A := Nat.div_le_self _ _
  have hdc : A / C * C ≤ A := Nat.div_mul_le_self _ _
  rw [hA] at hr
  rcases hr with ⟨he, hq⟩ | ⟨q, he, hq, hK, hR⟩
  · exact rounds_over_p a b m w C hC hC2 (a * b) A rfl hTb hA h1 h2 h3 hm0 hm3 he (by omega) (by omega)
  · have hX : (q * (C : Int)).natAbs ≤ 2305843009213693952 := by
      have e : (q * (C : Int)).natAbs = q.natAbs * C := by rw [Int.natAbs_mul]; simp
      have e2 : q.natAbs * C ≤ (A / C + 1) * C := Nat.mul_le_mul_right _ hK
      rw [Nat.add_mul] at e2
      omega
    have hY : ((q.natAbs : Nat) : Int) * C ≤ 2305843009213693952 := by
      have e : (((q * (C : Int)).natAbs : Nat) : Int) = ((q.natAbs : Nat) : Int) * C := by rw [Int.natAbs_mul]; simp
      omega
    have c0 : 0 ≤ (A : Int) / C := Int.ediv_nonneg (by omega) (by omega)
    have c1 : (A : Int) / C ≤ 1152921504606846976 := by omega
    have c2 : ¬ (A : Int) / C + 1 < (q.natAbs : Nat) := by omega
    have cX : -4611686018427387904 ≤ q * (C : Int) ∧ q * (C : Int) ≤ 4611686018427387904 := by omega
    by_cases m0 : m = 0
    · have := hR.down m0
      exact rounds_m0_p a b m w C hC hC2 (a * b) A rfl hTb hA h1 h2 h3 hm0 hm3 q _ _ he hq rfl c0 c1 c2 rfl cX m0 this.1 this.2
    by_cases m1 : m = 1
    · have := hR.up m1
      exact rounds_m1_p a b m w C hC hC2 (a * b) A rfl hTb hA h1 h2 h3 hm0 hm3 q _ _ he hq rfl c0 c1 c2 rfl cX m1 this.1 this.2
    by_cases m2 : m = 2
    · rcases hR.away m2 with h | ⟨h, h'⟩
      · exact rounds_m2a_p a b m w C hC hC2 (a * b) A rfl hTb hA h1 h2 h3 hm0 hm3 q _ _ he hq rfl c0 c1 c2 rfl cX _ rfl (by omega) m2 h
      · exact rounds_m2b_p a b m w C hC hC2 (a * b) A rfl hTb hA h1 h2 h3 hm0 hm3 q _ _ he hq rfl c0 c1 c2 rfl cX _ rfl (by omega) _ rfl (by omega) m2 h (by rw [hA] at h'; exact h')
    have m3 : m = 3 := by omega
    rcases hR.even m3 with h | ⟨h, h'⟩
    · exact rounds_m3a_p a b m w C hC hC2 (a * b) A rfl hTb hA h1 h2 h3 hm0 hm3 q _ _ he hq rfl c0 c1 c2 rfl cX _ rfl (by omega) m3 h
    · exact rounds_m3b_p a b m w C hC hC2 (a * b) A rfl hTb hA h1 h2 h3 hm0 hm3 q _ _ he hq rfl c0 c1 c2 rfl cX _ rfl (by omega) m3 h h'

theorem rounds_all_n (a b m : Int) (w : World) (C : Nat) (hC : 0 < C) (hC2 : C ≤ 1125899906842624) (h1 : smB a = true) (h2 : smB b = true) (h3 : inRB (-(C : Int)) = true) (hm0 : ¬ m < 0) (hm3 : ¬ 3 < m) :
    Calls Try.prog 7 #[.agg #[.int .i64 a, .int .i64 b, .int .i64 (-(C : Int)), .int .i64 m]] w fun e w' => e = .returned (.bool true) ∧ Below w.heap.size w w' := by
  have ba := smB_true.1 h1
  have bb := smB_true.1 h2
  have hr := rounds (a := a) (b := b) (c := (-(C : Int))) (m := m) ba bb h3 (by omega) (by omega)
  have hp : prodS a b (-(C : Int)) = (-(a * b)) := by unfold prodS; rw [if_pos (by omega)]
  have hab : (a * b).natAbs ≤ 1152921504606846976 := by
    rw [Int.natAbs_mul]
    exact Nat.le_trans (Nat.mul_le_mul (show a.natAbs ≤ 1073741824 by omega) (show b.natAbs ≤ 1073741824 by omega)) (by decide)
  have hcn : ((-(C : Int))).natAbs = C := by omega
  rw [hp, hcn] at hr
  obtain ⟨A, hA⟩ : ∃ A, ((-(a * b))).natAbs = A := ⟨_, rfl⟩
  have hA60 : A ≤ 1152921504606846976 := by omega
  have hTb : -1152921504606846976 ≤ a * b ∧ a * b ≤ 1152921504606846976 := by omega
  have hdiv : ((A / C : Nat) : Int) = (A : Int) / C := by simp
  have hdle : A / C ≤ A := Nat.div_le_self _ _
  have hdc : A / C * C ≤ A := Nat.div_mul_le_self _ _
  rw [hA] at hr
  rcases hr with ⟨he, hq⟩ | ⟨q, he, hq, hK, hR⟩
  · exact rounds_over_n a b m w C hC hC2 (a * b) A rfl hTb hA h1 h2 h3 hm0 hm3 he (by omega) (by omega)
  · have hX : (q * (C : Int)).natAbs ≤ 2305843009213693952 := by
      have e : (q * (C : Int)).natAbs = q.natAbs * C := by rw [Int.natAbs_mul]; simp
      have e2 : q.natAbs * C ≤ (A / C + 1) * C := Nat.mul_le_mul_right _ hK
      rw [Nat.add_mul] at e2
      omega
    have hY : ((q.natAbs : Nat) : Int) * C ≤ 2305843009213693952 := by
      have e : (((q * (C : Int)).natAbs : Nat) : Int) = ((q.natAbs : Nat) : Int) * C := by rw [Int.natAbs_mul]; simp
      omega
    have c0 : 0 ≤ (A : Int) / C := Int.ediv_nonneg (by omega) (by omega)
    have c1 : (A : Int) / C ≤ 1152921504606846976 := by omega
    have c2 : ¬ (A : Int) / C + 1 < (q.natAbs : Nat) := by omega
    have cX : -4611686018427387904 ≤ q * (C : Int) ∧ q * (C : Int) ≤ 4611686018427387904 := by omega
    by_cases m0 : m = 0
    · have := hR.down m0
      exact rounds_m0_n a b m w C hC hC2 (a * b) A rfl hTb hA h1 h2 h3 hm0 hm3 q _ _ he hq rfl c0 c1 c2 rfl cX m0 this.1 this.2
    by_cases m1 : m = 1
    · have := hR.up m1
      exact rounds_m1_n a b m w C hC hC2 (a * b) A rfl hTb hA h1 h2 h3 hm0 hm3 q _ _ he hq rfl c0 c1 c2 rfl cX m1 this.1 this.2
    by_cases m2 : m = 2
    · rcases hR.away m2 with h | ⟨h, h'⟩
      · exact rounds_m2a_n a b m w C hC hC2 (a * b) A rfl hTb hA h1 h2 h3 hm0 hm3 q _ _ he hq rfl c0 c1 c2 rfl cX _ rfl (by omega) m2 h
      · exact rounds_m2b_n a b m w C hC hC2 (a * b) A rfl hTb hA h1 h2 h3 hm0 hm3 q _ _ he hq rfl c0 c1 c2 rfl cX _ rfl (by omega) _ rfl (by omega) m2 h (by rw [hA] at h'; exact h')
    have m3 : m = 3 := by omega
    rcases hR.even m3 with h | ⟨h, h'⟩
    · exact rounds_m3a_n a b m w C hC hC2 (a * b) A rfl hTb hA h1 h2 h3 hm0 hm3 q _ _ he hq rfl c0 c1 c2 rfl cX _ rfl (by omega) m3 h
    · exact rounds_m3b_n a b m w C hC hC2 (a * b) A rfl hTb hA h1 h2 h3 hm0 hm3 q _ _ he hq rfl c0 c1 c2 rfl cX _ rfl (by omega) m3 h h'

theorem numRounds_walk (a b c m : Int) (w : World) (_h0 : (Lit.int .i64 a).wf = true) (_h1 : (Lit.int .i64 b).wf = true) (_h2 : (Lit.int .i64 c).wf = true) (_h3 : (Lit.int .i64 m).wf = true) :
    Calls Try.prog 7 #[.agg #[.int .i64 a, .int .i64 b, .int .i64 c, .int .i64 m]] w fun e w' => e = .returned (.bool true) ∧ Below w.heap.size w w' := by
  cases h1 : smB a
  · exact rounds_early1 a b c m w h1
  cases h2 : smB b
  · exact rounds_early2 a b c m w h1 h2
  cases h3 : inRB c
  · exact rounds_early3 a b c m w h1 h2 h3
  by_cases h4 : c = 0
  · exact rounds_early4 a b c m w h1 h2 h3 h4
  by_cases h5 : m < 0
  · exact rounds_early5 a b c m w h1 h2 h3 (by omega) h5
  by_cases h6 : 3 < m
  · exact rounds_early6 a b c m w h1 h2 h3 (by omega) h5 h6
  have bc := inRB_true.1 h3
  by_cases hc : c < 0
  · obtain ⟨C, rfl⟩ : ∃ C : Nat, c = -(C : Int) := ⟨c.natAbs, by omega⟩
    exact rounds_all_n a b m w C (by omega) (by omega) h1 h2 h3 h5 h6
  · obtain ⟨C, rfl⟩ : ∃ C : Nat, c = (C : Int) := ⟨c.natAbs, by omega⟩
    exact rounds_all_p a b m w C (by omega) (by omega) h1 h2 h3 h5 h6
end Go.Proofs.Ytejokpbmdhmhfaa
