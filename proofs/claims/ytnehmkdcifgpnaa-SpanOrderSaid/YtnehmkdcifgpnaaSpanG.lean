/-
  Walks over package span and its reference: rounding down.
-/
import Derived.Test.YtnehmkdcifgpnaaSpanB
import Derived.IntWalk
namespace Go.Proofs.Ytnehmkdcifgpnaa
open Go.RowKit

/-- x * n / d rounded down -/
def downV (x n d : Int) : Int := x * n / d

/-- the quotient and the remainder, as Go has them, and the product of the whole -/
theorem down_facts (x n d : Int) (hx : -70368744177664 ≤ x ∧ x ≤ 70368744177664) (hd : 1 ≤ d ∧ d ≤ 1073741824) (hn : 0 ≤ n ∧ n ≤ d) :
    ∃ q0 r0 q r p z s : Int, x.tdiv d = q0 ∧ x.tmod d = r0 ∧ ((r0 < 0 ∧ q = q0 - 1 ∧ r = r0 + d) ∨ (0 ≤ r0 ∧ q = q0 ∧ r = r0)) ∧ 0 ≤ r ∧ r < d ∧ q * n = p ∧ r * n = s ∧ 0 ≤ s ∧ s ≤ 1152921504606846976 ∧ s / d = z ∧ s.tdiv d = z ∧ 0 ≤ z ∧ z ≤ 1073741824 ∧
      -70370817919488 ≤ p ∧ p ≤ 70370817919488 ∧ -70368744177664 ≤ q0 ∧ q0 ≤ 70368744177664 ∧ -1073741824 < r0 ∧ r0 < 1073741824 ∧ p + z = downV x n d ∧ -70368744177664 ≤ downV x n d ∧ downV x n d ≤ 70368744177664 := by
  have key := Int.mul_tdiv_add_tmod x d
  have hr1 : (x.tmod d).natAbs < d.natAbs := by rw [Int.natAbs_tmod]; exact Nat.mod_lt _ (by omega)
  have hqa : ((x.tdiv d).natAbs : Int) ≤ x.natAbs := by
    rw [Int.natAbs_tdiv]
    exact Int.ofNat_le.2 (Nat.div_le_self _ _)
  revert key hr1 hqa
  generalize x.tdiv d = q0
  generalize x.tmod d = r0
  intro key hr1 hqa
  obtain ⟨q, r, hqr, h0, h1, hx'⟩ : ∃ q r : Int, ((r0 < 0 ∧ q = q0 - 1 ∧ r = r0 + d) ∨ (0 ≤ r0 ∧ q = q0 ∧ r = r0)) ∧ 0 ≤ r ∧ r < d ∧ d * q + r = x := by
    by_cases h : r0 < 0
    · exact ⟨q0 - 1, r0 + d, Or.inl ⟨h, rfl, rfl⟩, by omega, by omega, by rw [← key, Int.mul_sub]; omega⟩
    · exact ⟨q0, r0, Or.inr ⟨by omega, rfl, rfl⟩, by omega, by omega, key⟩
  have hdown : downV x n d = q * n + r * n / d := by
    unfold downV
    rw [← hx', Int.add_mul, Int.mul_assoc, Int.add_comm, Int.add_mul_ediv_left _ _ (by omega), Int.add_comm]
  have hs0 : 0 ≤ r * n := Int.mul_nonneg h0 hn.1
  have hs1 : r * n ≤ 1073741824 * 1073741824 := Int.mul_le_mul (by omega) (by omega) hn.1 (by omega)
  have hz0 : 0 ≤ r * n / d := Int.ediv_nonneg hs0 (by omega)
  have hz1 : r * n / d ≤ n := by
    apply Int.ediv_le_of_le_mul (by omega)
    rw [Int.mul_comm n d]
    exact Int.mul_le_mul_of_nonneg_right (by omega) hn.1
  -- bounds of the quotient
  have hq1 : d * q ≤ 70368744177664 := by omega
  have hq2 : -70370817919488 + 1000000000 ≤ d * q := by omega
  have hqn : -70370817919488 ≤ q * n ∧ q * n ≤ 70370817919488 := by
    rcases Int.le_total 0 q with h | h
    · have a1 : 0 ≤ q * n := Int.mul_nonneg h hn.1
      have a2 : q * n ≤ d * q := by rw [Int.mul_comm d q]; exact Int.mul_le_mul_of_nonneg_left hn.2 h
      omega
    · have a1 : q * n ≤ 0 := Int.mul_nonpos_of_nonpos_of_nonneg h hn.1
      have a2 : d * q ≤ q * n := by rw [Int.mul_comm d q]; exact Int.mul_le_mul_of_nonpos_left h hn.2
      omega
  have hq0 : -70368744177664 ≤ q0 ∧ q0 ≤ 70368744177664 := by
    omega
  have hlo : -70368744177664 ≤ downV x n d := by
    unfold downV
    apply Int.le_ediv_of_mul_le (by omega)
    rcases Int.le_total 0 x with h | h
    · have a1 : 0 ≤ x * n := Int.mul_nonneg h hn.1
      omega
    · have a2 : x * d ≤ x * n := Int.mul_le_mul_of_nonpos_left h hn.2
      have a3 : -70368744177664 * d ≤ x * d := Int.mul_le_mul_of_nonneg_right hx.1 (by omega)
      omega
  have hhi : downV x n d ≤ 70368744177664 := by
    unfold downV
    apply Int.ediv_le_of_le_mul (by omega)
    rcases Int.le_total 0 x with h | h
    · have a2 : x * n ≤ x * d := Int.mul_le_mul_of_nonneg_left hn.2 h
      have a3 : x * d ≤ 70368744177664 * d := Int.mul_le_mul_of_nonneg_right hx.2 (by omega)
      omega
    · have a1 : x * n ≤ 0 := Int.mul_nonpos_of_nonpos_of_nonneg h hn.1
      omega
  exact ⟨q0, r0, q, r, q * n, r * n / d, r * n, rfl, rfl, hqr, h0, h1, rfl, rfl, hs0, by omega, rfl, by rw [Int.tdiv_eq_ediv_of_nonneg hs0], hz0, by omega, hqn.1, hqn.2, hq0.1, hq0.2, by omega, by omega, hdown.symm, hlo, hhi⟩

set_option maxHeartbeats 1000000 in
theorem partDown_any (x n d : Int) (w : World) (hx : -70368744177664 ≤ x ∧ x ≤ 70368744177664) (hd : 1 ≤ d ∧ d ≤ 1073741824) (hn : 0 ≤ n ∧ n ≤ d) :
    Calls Try.prog 42 #[.int .i64 x, .int .i64 n, .int .i64 d] w fun e w' => e = .returned (.int .i64 (downV x n d)) ∧ ∃ k, w' = w.drewN k := by
  obtain ⟨q0, r0, q, r, p, z, s, hq0, hr0, hqr, h0, h1, hp, hs, hs0, hs1, hz, hz', hz0, hz1, hp0, hp1, hq1, hq2, hr1, hr2, hpz, hlo, hhi⟩ := down_facts x n d hx hd hn
  have Hpz := Lib.hid hpz
  clear hpz
  rcases hqr with ⟨hneg, rfl, rfl⟩ | ⟨hpos, rfl, rfl⟩
  · go_enter Try.func42, Try.ntmps42
    go_wp2
    go_quiet (fail)
    go_wp2
    go_ret
    rw [← Hpz.out]
    exact ⟨rfl, nq, rfl⟩
  · go_enter Try.func42, Try.ntmps42
    go_wp2
    go_quiet (fail)
    go_wp2
    go_ret
    rw [← Hpz.out]
    exact ⟨rfl, nq, rfl⟩

set_option maxHeartbeats 1000000 in
theorem rDown_any (x n d : Int) (w : World) (hx : -70368744177664 ≤ x ∧ x ≤ 70368744177664) (hd : 1 ≤ d ∧ d ≤ 1073741824) (hn : 0 ≤ n ∧ n ≤ d) :
    Calls Try.prog 32 #[.int .i64 x, .int .i64 n, .int .i64 d] w fun e w' => e = .returned (.int .i64 (downV x n d)) ∧ w = w' := by
  obtain ⟨q0, r0, q, r, p, z, s, hq0, hr0, hqr, h0, h1, hp, hs, hs0, hs1, hz, hz', hz0, hz1, hp0, hp1, hq1, hq2, hr1, hr2, hpz, hlo, hhi⟩ := down_facts x n d hx hd hn
  have Hpz := Lib.hid hpz
  clear hpz
  rcases hqr with ⟨hneg, rfl, rfl⟩ | ⟨hpos, rfl, rfl⟩
  · go_enter Try.func32, Try.ntmps32
    go_wp2
    go_ret
    rw [← Hpz.out]
    exact ⟨rfl, rfl⟩
  · go_enter Try.func32, Try.ntmps32
    go_wp2
    go_ret
    rw [← Hpz.out]
    exact ⟨rfl, rfl⟩

/-- x * n / d rounded up -/
def upV (x n d : Int) : Int := -(downV (-x) n d)
theorem down_bd (x n d : Int) (hx : -70368744177664 ≤ x ∧ x ≤ 70368744177664) (hd : 1 ≤ d ∧ d ≤ 1073741824) (hn : 0 ≤ n ∧ n ≤ d) : -70368744177664 ≤ downV x n d ∧ downV x n d ≤ 70368744177664 := by
  obtain ⟨q0, r0, q, r, p, z, s, _, _, _, _, _, _, _, _, _, _, _, _, _, _, _, _, _, _, _, _, hlo, hhi⟩ := down_facts x n d hx hd hn
  exact ⟨hlo, hhi⟩

set_option maxHeartbeats 1000000 in
theorem rUp_any (x n d : Int) (w : World) (hx : -70368744177664 ≤ x ∧ x ≤ 70368744177664) (hd : 1 ≤ d ∧ d ≤ 1073741824) (hn : 0 ≤ n ∧ n ≤ d) :
    Calls Try.prog 33 #[.int .i64 x, .int .i64 n, .int .i64 d] w fun e w' => e = .returned (.int .i64 (upV x n d)) ∧ w = w' := by
  have hb := down_bd (-x) n d (by omega) hd hn
  unfold upV
  go_enter Try.func33, Try.ntmps33
  go_wp2_with fail
  refine (rDown_any (-x) n d _ (by omega) hd hn).mono ?_
  rintro e w' ⟨rfl, rfl⟩
  go_wp2
  go_ret
  exact ⟨rfl, rfl⟩

def partB (n d : Int) : Bool := decide (1 ≤ d) && decide (d ≤ 1073741824) && decide (0 ≤ n) && decide (n ≤ d)
/-- what Part returns -/
def partV (a b n d : Int) : Int × Int × Int := if vB a b && partB n d then (downV a n d, upV b n d, 0) else (0, 0, 1)

set_option maxHeartbeats 1000000 in
theorem part_any (a b n d : Int) (w : World) :
    Calls Try.prog 30 #[.agg #[.int .i64 a, .int .i64 b], .int .i64 n, .int .i64 d] w fun e w' => e = .returned (res (partV a b n d)) ∧ Below w.heap.size w w' := by
  cases h : vB a b
  · have e : partV a b n d = (0, 0, 1) := by simp [partV, h]
    rw [e]
    have H := Lib.hid h
    clear e h
    go_enter Try.func30, Try.ntmps30
    go_wp2_with fail
    refine (valid_no _ _ _ H.out).mono ?_
    rintro e w1 ⟨rfl, hb1⟩
    have q1 := kept hb1 (p := ⟨w.heap.size + 1, 0, none⟩) (v := .int .i64 0) (by first | ((repeat' first | with_reducible assumption | with_reducible refine cellA ?_ | with_reducible refine cellD ?_); done) | (simp [go_sem]; done) | (simp [go_sem, *]; done))
    have y1 := World.block_lt_of_cell? _ _ q1
    simp only [] at y1
    have z1 := keptF hb1 (p := ⟨w.heap.size + 1, 0, none⟩) (v := .int .i64 0) (by first | ((repeat' first | with_reducible assumption | with_reducible refine cellA ?_ | with_reducible refine cellD ?_); done) | (simp [go_sem]; done) | (simp [go_sem, *]; done)) (by first | ((repeat' first | with_reducible assumption | with_reducible refine frozA (v := .int .i64 0) (by first | ((repeat' first | with_reducible assumption | with_reducible refine cellA ?_ | with_reducible refine cellD ?_); done) | (simp [go_sem]; done) | (simp [go_sem, *]; done)) ?_ | with_reducible refine frozD ?_); done) | (simp [go_sem]; done) | (simp [go_sem, *]; done))
    have q2 := kept hb1 (p := ⟨w.heap.size + 1, 1, none⟩) (v := .int .i64 0) (by first | ((repeat' first | with_reducible assumption | with_reducible refine cellA ?_ | with_reducible refine cellD ?_); done) | (simp [go_sem]; done) | (simp [go_sem, *]; done))
    have z2 := keptF hb1 (p := ⟨w.heap.size + 1, 1, none⟩) (v := .int .i64 0) (by first | ((repeat' first | with_reducible assumption | with_reducible refine cellA ?_ | with_reducible refine cellD ?_); done) | (simp [go_sem]; done) | (simp [go_sem, *]; done)) (by first | ((repeat' first | with_reducible assumption | with_reducible refine frozA (v := .int .i64 0) (by first | ((repeat' first | with_reducible assumption | with_reducible refine cellA ?_ | with_reducible refine cellD ?_); done) | (simp [go_sem]; done) | (simp [go_sem, *]; done)) ?_ | with_reducible refine frozD ?_); done) | (simp [go_sem]; done) | (simp [go_sem, *]; done))
    have s1 := hb1.size
    go_wp2
    ((try simp only [Exit.inBlock, Exit.then]); refine bodyPost_ret (by simp [results, Try.results30, go_sem, *]; try rfl) rfl ?_)
    exact ⟨rfl, by (repeat' first | exact Below.refl _ _ | with_reducible refine Below.drew ?_ | with_reducible refine Below.drewN ?_ _ | with_reducible refine Below.alloc' ?_ _ | with_reducible refine Below.setCell ?_ (by first | exact Nat.le_refl _ | (simp; done) | (simp; omega)) _ | with_reducible refine Below.after ?_ ‹_›)⟩
  · have H := Lib.hid h
    cases hp : partB n d
    · have e : partV a b n d = (0, 0, 1) := by simp [partV, hp]
      rw [e]
      have hc : d < 1 ∨ (1 ≤ d ∧ 1073741824 < d) ∨ ((1 ≤ d ∧ d ≤ 1073741824) ∧ n < 0) ∨ ((1 ≤ d ∧ d ≤ 1073741824) ∧ 0 ≤ n ∧ d < n) := by
        simp [partB] at hp
        omega
      clear e h hp
      rcases hc with hc | ⟨hc0, hc⟩ | ⟨⟨hc0, hc1⟩, hc⟩ | ⟨⟨hc0, hc1⟩, hc2, hc⟩
      all_goals
        go_enter Try.func30, Try.ntmps30
        go_wp2_with fail
        refine (valid_yes _ _ _ H.out).mono ?_
        rintro e w1 ⟨rfl, hb1⟩
        have q3 := kept hb1 (p := ⟨w.heap.size + 1, 0, none⟩) (v := .int .i64 0) (by first | ((repeat' first | with_reducible assumption | with_reducible refine cellA ?_ | with_reducible refine cellD ?_); done) | (simp [go_sem]; done) | (simp [go_sem, *]; done))
        have y3 := World.block_lt_of_cell? _ _ q3
        simp only [] at y3
        have z3 := keptF hb1 (p := ⟨w.heap.size + 1, 0, none⟩) (v := .int .i64 0) (by first | ((repeat' first | with_reducible assumption | with_reducible refine cellA ?_ | with_reducible refine cellD ?_); done) | (simp [go_sem]; done) | (simp [go_sem, *]; done)) (by first | ((repeat' first | with_reducible assumption | with_reducible refine frozA (v := .int .i64 0) (by first | ((repeat' first | with_reducible assumption | with_reducible refine cellA ?_ | with_reducible refine cellD ?_); done) | (simp [go_sem]; done) | (simp [go_sem, *]; done)) ?_ | with_reducible refine frozD ?_); done) | (simp [go_sem]; done) | (simp [go_sem, *]; done))
        have q4 := kept hb1 (p := ⟨w.heap.size + 1, 1, none⟩) (v := .int .i64 0) (by first | ((repeat' first | with_reducible assumption | with_reducible refine cellA ?_ | with_reducible refine cellD ?_); done) | (simp [go_sem]; done) | (simp [go_sem, *]; done))
        have z4 := keptF hb1 (p := ⟨w.heap.size + 1, 1, none⟩) (v := .int .i64 0) (by first | ((repeat' first | with_reducible assumption | with_reducible refine cellA ?_ | with_reducible refine cellD ?_); done) | (simp [go_sem]; done) | (simp [go_sem, *]; done)) (by first | ((repeat' first | with_reducible assumption | with_reducible refine frozA (v := .int .i64 0) (by first | ((repeat' first | with_reducible assumption | with_reducible refine cellA ?_ | with_reducible refine cellD ?_); done) | (simp [go_sem]; done) | (simp [go_sem, *]; done)) ?_ | with_reducible refine frozD ?_); done) | (simp [go_sem]; done) | (simp [go_sem, *]; done))
        have s1 := hb1.size
        go_wp2
        ((try simp only [Exit.inBlock, Exit.then]); refine bodyPost_ret (by simp [results, Try.results30, go_sem, *]; try rfl) rfl ?_)
        exact ⟨rfl, by (repeat' first | exact Below.refl _ _ | with_reducible refine Below.drew ?_ | with_reducible refine Below.drewN ?_ _ | with_reducible refine Below.alloc' ?_ _ | with_reducible refine Below.setCell ?_ (by first | exact Nat.le_refl _ | (simp; done) | (simp; omega)) _ | with_reducible refine Below.after ?_ ‹_›)⟩
    · have e : partV a b n d = (downV a n d, upV b n d, 0) := by simp [partV, h, hp]
      rw [e]
      have hab := vB_true.1 h
      have hc : (1 ≤ d ∧ d ≤ 1073741824) ∧ 0 ≤ n ∧ n ≤ d := by
        simp [partB] at hp
        omega
      obtain ⟨⟨hd0, hd1⟩, hn0, hn1⟩ := hc
      have Bb := down_bd (-b) n d (by omega) ⟨hd0, hd1⟩ ⟨hn0, hn1⟩
      have La : -70368744177664 ≤ a ∧ a ≤ 70368744177664 := by omega
      have Lb : -70368744177664 ≤ -b ∧ -b ≤ 70368744177664 := by omega
      have Lb' : -70368744177664 ≤ b ∧ b ≤ 70368744177664 := by omega
      clear e h hp hab
      go_enter Try.func30, Try.ntmps30
      go_wp2_with fail
      refine (valid_yes _ _ _ H.out).mono ?_
      rintro e w1 ⟨rfl, hb1⟩
      have q5 := kept hb1 (p := ⟨w.heap.size, 0, none⟩) (v := .int .i64 a) (by first | ((repeat' first | with_reducible assumption | with_reducible refine cellA ?_ | with_reducible refine cellD ?_); done) | (simp [go_sem]; done) | (simp [go_sem, *]; done))
      have y5 := World.block_lt_of_cell? _ _ q5
      simp only [] at y5
      have q6 := kept hb1 (p := ⟨w.heap.size, 1, none⟩) (v := .int .i64 b) (by first | ((repeat' first | with_reducible assumption | with_reducible refine cellA ?_ | with_reducible refine cellD ?_); done) | (simp [go_sem]; done) | (simp [go_sem, *]; done))
      have q7 := kept hb1 (p := ⟨w.heap.size + 1, 0, none⟩) (v := .int .i64 0) (by first | ((repeat' first | with_reducible assumption | with_reducible refine cellA ?_ | with_reducible refine cellD ?_); done) | (simp [go_sem]; done) | (simp [go_sem, *]; done))
      have y7 := World.block_lt_of_cell? _ _ q7
      simp only [] at y7
      have z7 := keptF hb1 (p := ⟨w.heap.size + 1, 0, none⟩) (v := .int .i64 0) (by first | ((repeat' first | with_reducible assumption | with_reducible refine cellA ?_ | with_reducible refine cellD ?_); done) | (simp [go_sem]; done) | (simp [go_sem, *]; done)) (by first | ((repeat' first | with_reducible assumption | with_reducible refine frozA (v := .int .i64 0) (by first | ((repeat' first | with_reducible assumption | with_reducible refine cellA ?_ | with_reducible refine cellD ?_); done) | (simp [go_sem]; done) | (simp [go_sem, *]; done)) ?_ | with_reducible refine frozD ?_); done) | (simp [go_sem]; done) | (simp [go_sem, *]; done))
      have q8 := kept hb1 (p := ⟨w.heap.size + 1, 1, none⟩) (v := .int .i64 0) (by first | ((repeat' first | with_reducible assumption | with_reducible refine cellA ?_ | with_reducible refine cellD ?_); done) | (simp [go_sem]; done) | (simp [go_sem, *]; done))
      have z8 := keptF hb1 (p := ⟨w.heap.size + 1, 1, none⟩) (v := .int .i64 0) (by first | ((repeat' first | with_reducible assumption | with_reducible refine cellA ?_ | with_reducible refine cellD ?_); done) | (simp [go_sem]; done) | (simp [go_sem, *]; done)) (by first | ((repeat' first | with_reducible assumption | with_reducible refine frozA (v := .int .i64 0) (by first | ((repeat' first | with_reducible assumption | with_reducible refine cellA ?_ | with_reducible refine cellD ?_); done) | (simp [go_sem]; done) | (simp [go_sem, *]; done)) ?_ | with_reducible refine frozD ?_); done) | (simp [go_sem]; done) | (simp [go_sem, *]; done))
      have s1 := hb1.size
      go_wp2_with fail
      have hw1 : IntKind.i64.wrap (-b) = -b := IntWalk.i64_in _ (by omega)
      have hw2 : IntKind.i64.wrap (-(downV (-b) n d)) = -(downV (-b) n d) := IntWalk.i64_in _ (by omega)
      go_region_held3 (fun w' => w'.cell? ⟨w.heap.size, 0, none⟩ = some (.int .i64 a) ∧ w'.cell? ⟨w.heap.size, 1, none⟩ = some (.int .i64 b))
        (first | go_keep | (go_split_ands; exact ⟨‹_›, ‹_›⟩))
        (first | (go_at_call_of 42 (Value.int IntKind.i64 (-b)); refine (partDown_any _ _ _ _ Lb ⟨hd0, hd1⟩ ⟨hn0, hn1⟩).mono ?_; rintro e w1 ⟨rfl, k2, rfl⟩) | (go_at_call_of 42 (Value.int IntKind.i64 a); refine (partDown_any _ _ _ _ La ⟨hd0, hd1⟩ ⟨hn0, hn1⟩).mono ?_; rintro e w1 ⟨rfl, k1, rfl⟩))
      go_wp2
      ((try simp only [Exit.inBlock, Exit.then]); refine bodyPost_ret (by simp [results, Try.results30, go_sem, *]; try rfl) rfl ?_)
      exact ⟨rfl, by (repeat' first | exact Below.refl _ _ | with_reducible refine Below.drew ?_ | with_reducible refine Below.drewN ?_ _ | with_reducible refine Below.alloc' ?_ _ | with_reducible refine Below.setCell ?_ (by first | exact Nat.le_refl _ | (simp; done) | (simp; omega)) _ | with_reducible refine Below.after ?_ ‹_›)⟩

set_option maxHeartbeats 1000000 in
theorem rPart_any (a b n d : Int) (w : World) :
    Calls Try.prog 31 #[.agg #[.int .i64 a, .int .i64 b], .int .i64 n, .int .i64 d] w fun e w' => e = .returned (res (partV a b n d)) ∧ Below w.heap.size w w' := by
  cases h : vB a b
  · have e : partV a b n d = (0, 0, 1) := by simp [partV, h]
    rw [e]
    have H := Lib.hid h
    clear e h
    go_enter Try.func31, Try.ntmps31
    go_wp2_with fail
    refine (rValid_no _ _ _ H.out).mono ?_
    rintro e w1 ⟨rfl, hb1⟩
    have q9 := kept hb1 (p := ⟨w.heap.size + 1, 0, none⟩) (v := .int .i64 0) (by first | ((repeat' first | with_reducible assumption | with_reducible refine cellA ?_ | with_reducible refine cellD ?_); done) | (simp [go_sem]; done) | (simp [go_sem, *]; done))
    have y9 := World.block_lt_of_cell? _ _ q9
    simp only [] at y9
    have z9 := keptF hb1 (p := ⟨w.heap.size + 1, 0, none⟩) (v := .int .i64 0) (by first | ((repeat' first | with_reducible assumption | with_reducible refine cellA ?_ | with_reducible refine cellD ?_); done) | (simp [go_sem]; done) | (simp [go_sem, *]; done)) (by first | ((repeat' first | with_reducible assumption | with_reducible refine frozA (v := .int .i64 0) (by first | ((repeat' first | with_reducible assumption | with_reducible refine cellA ?_ | with_reducible refine cellD ?_); done) | (simp [go_sem]; done) | (simp [go_sem, *]; done)) ?_ | with_reducible refine frozD ?_); done) | (simp [go_sem]; done) | (simp [go_sem, *]; done))
    have q10 := kept hb1 (p := ⟨w.heap.size + 1, 1, none⟩) (v := .int .i64 0) (by first | ((repeat' first | with_reducible assumption | with_reducible refine cellA ?_ | with_reducible refine cellD ?_); done) | (simp [go_sem]; done) | (simp [go_sem, *]; done))
    have z10 := keptF hb1 (p := ⟨w.heap.size + 1, 1, none⟩) (v := .int .i64 0) (by first | ((repeat' first | with_reducible assumption | with_reducible refine cellA ?_ | with_reducible refine cellD ?_); done) | (simp [go_sem]; done) | (simp [go_sem, *]; done)) (by first | ((repeat' first | with_reducible assumption | with_reducible refine frozA (v := .int .i64 0) (by first | ((repeat' first | with_reducible assumption | with_reducible refine cellA ?_ | with_reducible refine cellD ?_); done) | (simp [go_sem]; done) | (simp [go_sem, *]; done)) ?_ | with_reducible refine frozD ?_); done) | (simp [go_sem]; done) | (simp [go_sem, *]; done))
    have s1 := hb1.size
    go_wp2
    ((try simp only [Exit.inBlock, Exit.then]); refine bodyPost_ret (by simp [results, Try.results31, go_sem, *]; try rfl) rfl ?_)
    exact ⟨rfl, by (repeat' first | exact Below.refl _ _ | with_reducible refine Below.drew ?_ | with_reducible refine Below.drewN ?_ _ | with_reducible refine Below.alloc' ?_ _ | with_reducible refine Below.setCell ?_ (by first | exact Nat.le_refl _ | (simp; done) | (simp; omega)) _ | with_reducible refine Below.after ?_ ‹_›)⟩
  · have H := Lib.hid h
    cases hp : partB n d
    · have e : partV a b n d = (0, 0, 1) := by simp [partV, hp]
      rw [e]
      have hc : d < 1 ∨ (1 ≤ d ∧ 1073741824 < d) ∨ ((1 ≤ d ∧ d ≤ 1073741824) ∧ n < 0) ∨ ((1 ≤ d ∧ d ≤ 1073741824) ∧ 0 ≤ n ∧ d < n) := by
        simp [partB] at hp
        omega
      clear e h hp
      rcases hc with hc | ⟨hc0, hc⟩ | ⟨⟨hc0, hc1⟩, hc⟩ | ⟨⟨hc0, hc1⟩, hc2, hc⟩
      all_goals
        go_enter Try.func31, Try.ntmps31
        go_wp2_with fail
        refine (rValid_yes _ _ _ H.out).mono ?_
        rintro e w1 ⟨rfl, hb1⟩
        have q11 := kept hb1 (p := ⟨w.heap.size + 1, 0, none⟩) (v := .int .i64 0) (by first | ((repeat' first | with_reducible assumption | with_reducible refine cellA ?_ | with_reducible refine cellD ?_); done) | (simp [go_sem]; done) | (simp [go_sem, *]; done))
        have y11 := World.block_lt_of_cell? _ _ q11
        simp only [] at y11
        have z11 := keptF hb1 (p := ⟨w.heap.size + 1, 0, none⟩) (v := .int .i64 0) (by first | ((repeat' first | with_reducible assumption | with_reducible refine cellA ?_ | with_reducible refine cellD ?_); done) | (simp [go_sem]; done) | (simp [go_sem, *]; done)) (by first | ((repeat' first | with_reducible assumption | with_reducible refine frozA (v := .int .i64 0) (by first | ((repeat' first | with_reducible assumption | with_reducible refine cellA ?_ | with_reducible refine cellD ?_); done) | (simp [go_sem]; done) | (simp [go_sem, *]; done)) ?_ | with_reducible refine frozD ?_); done) | (simp [go_sem]; done) | (simp [go_sem, *]; done))
        have q12 := kept hb1 (p := ⟨w.heap.size + 1, 1, none⟩) (v := .int .i64 0) (by first | ((repeat' first | with_reducible assumption | with_reducible refine cellA ?_ | with_reducible refine cellD ?_); done) | (simp [go_sem]; done) | (simp [go_sem, *]; done))
        have z12 := keptF hb1 (p := ⟨w.heap.size + 1, 1, none⟩) (v := .int .i64 0) (by first | ((repeat' first | with_reducible assumption | with_reducible refine cellA ?_ | with_reducible refine cellD ?_); done) | (simp [go_sem]; done) | (simp [go_sem, *]; done)) (by first | ((repeat' first | with_reducible assumption | with_reducible refine frozA (v := .int .i64 0) (by first | ((repeat' first | with_reducible assumption | with_reducible refine cellA ?_ | with_reducible refine cellD ?_); done) | (simp [go_sem]; done) | (simp [go_sem, *]; done)) ?_ | with_reducible refine frozD ?_); done) | (simp [go_sem]; done) | (simp [go_sem, *]; done))
        have s1 := hb1.size
        go_wp2
        ((try simp only [Exit.inBlock, Exit.then]); refine bodyPost_ret (by simp [results, Try.results31, go_sem, *]; try rfl) rfl ?_)
        exact ⟨rfl, by (repeat' first | exact Below.refl _ _ | with_reducible refine Below.drew ?_ | with_reducible refine Below.drewN ?_ _ | with_reducible refine Below.alloc' ?_ _ | with_reducible refine Below.setCell ?_ (by first | exact Nat.le_refl _ | (simp; done) | (simp; omega)) _ | with_reducible refine Below.after ?_ ‹_›)⟩
    · have e : partV a b n d = (downV a n d, upV b n d, 0) := by simp [partV, h, hp]
      rw [e]
      have hab := vB_true.1 h
      have hc : (1 ≤ d ∧ d ≤ 1073741824) ∧ 0 ≤ n ∧ n ≤ d := by
        simp [partB] at hp
        omega
      obtain ⟨⟨hd0, hd1⟩, hn0, hn1⟩ := hc
      have Bb := down_bd (-b) n d (by omega) ⟨hd0, hd1⟩ ⟨hn0, hn1⟩
      have La : -70368744177664 ≤ a ∧ a ≤ 70368744177664 := by omega
      have Lb : -70368744177664 ≤ -b ∧ -b ≤ 70368744177664 := by omega
      have Lb' : -70368744177664 ≤ b ∧ b ≤ 70368744177664 := by omega
      clear e h hp hab
      go_enter Try.func31, Try.ntmps31
      go_wp2_with fail
      refine (rValid_yes _ _ _ H.out).mono ?_
      rintro e w1 ⟨rfl, hb1⟩
      have q13 := kept hb1 (p := ⟨w.heap.size, 0, none⟩) (v := .int .i64 a) (by first | ((repeat' first | with_reducible assumption | with_reducible refine cellA ?_ | with_reducible refine cellD ?_); done) | (simp [go_sem]; done) | (simp [go_sem, *]; done))
      have y13 := World.block_lt_of_cell? _ _ q13
      simp only [] at y13
      have q14 := kept hb1 (p := ⟨w.heap.size, 1, none⟩) (v := .int .i64 b) (by first | ((repeat' first | with_reducible assumption | with_reducible refine cellA ?_ | with_reducible refine cellD ?_); done) | (simp [go_sem]; done) | (simp [go_sem, *]; done))
      have q15 := kept hb1 (p := ⟨w.heap.size + 1, 0, none⟩) (v := .int .i64 0) (by first | ((repeat' first | with_reducible assumption | with_reducible refine cellA ?_ | with_reducible refine cellD ?_); done) | (simp [go_sem]; done) | (simp [go_sem, *]; done))
      have y15 := World.block_lt_of_cell? _ _ q15
      simp only [] at y15
      have z15 := keptF hb1 (p := ⟨w.heap.size + 1, 0, none⟩) (v := .int .i64 0) (by first | ((repeat' first | with_reducible assumption | with_reducible refine cellA ?_ | with_reducible refine cellD ?_); done) | (simp [go_sem]; done) | (simp [go_sem, *]; done)) (by first | ((repeat' first | with_reducible assumption | with_reducible refine frozA (v := .int .i64 0) (by first | ((repeat' first | with_reducible assumption | with_reducible refine cellA ?_ | with_reducible refine cellD ?_); done) | (simp [go_sem]; done) | (simp [go_sem, *]; done)) ?_ | with_reducible refine frozD ?_); done) | (simp [go_sem]; done) | (simp [go_sem, *]; done))
      have q16 := kept hb1 (p := ⟨w.heap.size + 1, 1, none⟩) (v := .int .i64 0) (by first | ((repeat' first | with_reducible assumption | with_reducible refine cellA ?_ | with_reducible refine cellD ?_); done) | (simp [go_sem]; done) | (simp [go_sem, *]; done))
      have z16 := keptF hb1 (p := ⟨w.heap.size + 1, 1, none⟩) (v := .int .i64 0) (by first | ((repeat' first | with_reducible assumption | with_reducible refine cellA ?_ | with_reducible refine cellD ?_); done) | (simp [go_sem]; done) | (simp [go_sem, *]; done)) (by first | ((repeat' first | with_reducible assumption | with_reducible refine frozA (v := .int .i64 0) (by first | ((repeat' first | with_reducible assumption | with_reducible refine cellA ?_ | with_reducible refine cellD ?_); done) | (simp [go_sem]; done) | (simp [go_sem, *]; done)) ?_ | with_reducible refine frozD ?_); done) | (simp [go_sem]; done) | (simp [go_sem, *]; done))
      have s1 := hb1.size
      go_wp2_with fail
      go_region_held3 (fun w' => w'.cell? ⟨w.heap.size, 0, none⟩ = some (.int .i64 a) ∧ w'.cell? ⟨w.heap.size, 1, none⟩ = some (.int .i64 b))
        (first | go_keep | (go_split_ands; exact ⟨‹_›, ‹_›⟩))
        (first | (go_at_call 32; refine (rDown_any _ _ _ _ La ⟨hd0, hd1⟩ ⟨hn0, hn1⟩).mono ?_; rintro e w1 ⟨rfl, rfl⟩) | (go_at_call 33; refine (rUp_any _ _ _ _ Lb' ⟨hd0, hd1⟩ ⟨hn0, hn1⟩).mono ?_; rintro e w1 ⟨rfl, rfl⟩))
      go_wp2
      ((try simp only [Exit.inBlock, Exit.then]); refine bodyPost_ret (by simp [results, Try.results31, go_sem, *]; try rfl) rfl ?_)
      exact ⟨rfl, by (repeat' first | exact Below.refl _ _ | with_reducible refine Below.drew ?_ | with_reducible refine Below.drewN ?_ _ | with_reducible refine Below.alloc' ?_ _ | with_reducible refine Below.setCell ?_ (by first | exact Nat.le_refl _ | (simp; done) | (simp; omega)) _ | with_reducible refine Below.after ?_ ‹_›)⟩
end Go.Proofs.Ytnehmkdcifgpnaa
