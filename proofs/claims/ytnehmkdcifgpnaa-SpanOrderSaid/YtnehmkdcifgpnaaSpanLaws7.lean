/-
  The walk of SpanOrder.
-/
import Derived.Test.YtnehmkdcifgpnaaSpanOrd
import Derived.Test.YtnehmkdcifgpnaaSpanLaws1
import Derived.Deep.DeepCutAuto
namespace Go.Proofs.Ytnehmkdcifgpnaa
open Go.RowKit

theorem spans_take {w : World} {b off : Nat} {l : List (Int × Int)} (h : Spans w (some ⟨b, off, none⟩) l) (k : Nat) : Spans w (some ⟨b, off, none⟩) (l.take k) := by
  intro hne
  have hl : l ≠ [] := by intro e; subst e; simp at hne
  obtain ⟨b', off', e, hc⟩ := h hl
  refine ⟨b', off', e, fun j hj => ?_⟩
  have hj' : j < l.length ∧ j < k := by rw [List.length_take] at hj; omega
  have := hc j hj'.1
  rwa [show (l.take k)[j]? = l[j]? by simp [hj'.2]]
theorem spans_drop {w : World} {b off : Nat} {l : List (Int × Int)} (h : Spans w (some ⟨b, off, none⟩) l) (k : Nat) : Spans w (some ⟨b, off + k * 2, none⟩) (l.drop k) := by
  intro hne
  have hl : l ≠ [] := by intro e; subst e; simp at hne
  obtain ⟨b', off', e, hc⟩ := h hl
  obtain ⟨rfl, rfl⟩ : b = b' ∧ off = off' := by simpa using e
  refine ⟨b, off + k * 2, rfl, fun j hj => ?_⟩
  have hj' : k + j < l.length := by rw [List.length_drop] at hj; omega
  have := hc (k + j) hj'
  rw [show (l.drop k)[j]? = l[k + j]? by simp]
  rw [show off + k * 2 + j * 2 = off + (k + j) * 2 by omega]
  exact this

theorem own_lit (base : Nat) (w : World) {m : Nat} (hm : m = w.heap.size) (hb : base ≤ w.heap.size) : (w.alloc (.cells #[] 23)).ownsRow base 23 2 (.slice (some ⟨m, 0, none⟩) 0 0) 0 (flat []) := by
  subst hm
  exact World.ownsRow_made w #[] 0 hb (Nat.zero_le _) rfl
theorem own_drew {w : World} {base : Nat} {e : TypeId} {size : Nat} {v : Value} {n : Nat} {xs : List Value} (h : w.ownsRow base e size v n xs) : w.drew.ownsRow base e size v n xs := h
theorem farF {w w' : World} {row : Option Nat} (hg : w.grownBy w' row) {a : Addr} {v : Value} (h : w.cell? a = some v) (hne : some a.block ≠ row) (hf : w.frozen? a = false) : w'.frozen? a = false := by
  rw [hg.frozen_far a (World.block_lt_of_cell? w a h) hne, hf]
theorem far_step {w w' : World} {row : Option Nat} {G : Prop} (hg : w.grownBy w' row) {n : Nat} (h : w.cell? ⟨n, 0, none⟩ = some (.int .i64 0) ∧ w.cell? ⟨n, 1, none⟩ = some (.int .i64 0) ∧ w.frozen? ⟨n, 0, none⟩ = false ∧ w.frozen? ⟨n, 1, none⟩ = false) (hne : some n ≠ row)
    (k : (w'.cell? ⟨n, 0, none⟩ = some (.int .i64 0) ∧ w'.cell? ⟨n, 1, none⟩ = some (.int .i64 0) ∧ w'.frozen? ⟨n, 0, none⟩ = false ∧ w'.frozen? ⟨n, 1, none⟩ = false) → G) : G :=
  k ⟨hg.cell h.1 hne, hg.cell h.2.1 hne, farF hg h.1 hne h.2.2.1, farF hg h.2.1 hne h.2.2.2⟩
theorem kept_step {w w' : World} {G : Prop} (hb : Below w.heap.size w w') {n : Nat} (h : w.cell? ⟨n, 0, none⟩ = some (.int .i64 0) ∧ w.cell? ⟨n, 1, none⟩ = some (.int .i64 0) ∧ w.frozen? ⟨n, 0, none⟩ = false ∧ w.frozen? ⟨n, 1, none⟩ = false)
    (k : (w'.cell? ⟨n, 0, none⟩ = some (.int .i64 0) ∧ w'.cell? ⟨n, 1, none⟩ = some (.int .i64 0) ∧ w'.frozen? ⟨n, 0, none⟩ = false ∧ w'.frozen? ⟨n, 1, none⟩ = false) → G) : G :=
  k ⟨kept hb h.1, kept hb h.2.1, keptF hb h.1 h.2.2.1, keptF hb h.2.1 h.2.2.2⟩

set_option maxRecDepth 100000 in
set_option maxHeartbeats 8000000 in
theorem order_many (b off : Nat) (len cap k : Nat) (l : List (Int × Int)) (t : Int) (w : World) {X Y e P Q g R S h : Int} (hl : l.length = len) (h1 : 0 < len) (h2 : len ≤ 1000) (hc : len ≤ cap) (hcm : cap ≤ maxLen) (hs : Spans w (some ⟨b, off, none⟩) l)
    (ht : 0 ≤ t ∧ t ≤ 65535) (hk : t % (len : Int) = (k : Int)) (hkl : k < len) (e1 : sumV l = (X, Y, e)) (e2 : sumV (l.take k) = (P, Q, g)) (e3 : sumV (l.drop k) = (R, S, h)) :
    Calls Try.prog 12 #[.slice (some ⟨b, off, none⟩) len cap, .int .u16 t] w fun e w' => e = .returned (.bool true) ∧ Below w.heap.size w w' := by
  have E1 := Lib.hid e1
  have E2 := Lib.hid e2
  have E3 := Lib.hid e3
  have E4 := Lib.hid (show sumV ([] ++ l.drop k ++ l.take k) = (X, Y, e) by rw [List.nil_append, sumV_turned]; exact e1)
  have HL := Lib.hid hl
  have f1 : ¬ 1000 < (len : Int) := by omega
  have f2 : 0 < (len : Int) := by omega
  have f3 : (0 : Int) ≤ (k : Int) := by omega
  have f4 : (k : Int) ≤ (len : Int) := by omega
  have f5 : (len : Int) ≤ (cap : Int) := by omega
  have f6 : (k : Int) ≤ (cap : Int) := by omega
  have f7 : ¬ cap = k := by omega
  unfold maxLen at hcm
  clear e1 e2 e3 hl
  go_enter Try.func12, Try.ntmps12
  go_wp2_with fail
  refine (sum_is E1.out _ _ _ _ HL.out (by omega) hs).mono ?_
  rintro r w1 ⟨rfl, hb1⟩
  go_upto_region 7 with fail
  obtain ⟨W1, hW1⟩ : ∃ W, w1.alloc (Obj.cells #[.int .i64 X, .int .i64 Y] 23) = W := ⟨_, rfl⟩
  rw [hW1]
  have cS0 : W1.cell? ⟨w1.heap.size, 0, none⟩ = some (.int .i64 X) := by rw [← hW1]; simp [go_sem]
  have cS1 : W1.cell? ⟨w1.heap.size, 1, none⟩ = some (.int .i64 Y) := by rw [← hW1]; simp [go_sem]
  have hb2 : Below w.heap.size w W1 := by rw [← hW1]; exact hb1.alloc' _
  have hs1 : Spans W1 (some ⟨b, off, none⟩) l := hs.kept hb2
  clear hW1
  go_cut [8, 9] (fun p8 v9 wx => ∃ g8 : Nat, p8 = .pointer (some ⟨g8, 0, none⟩) ∧ v9 = .int .i64 e ∧ wx.cell? ⟨g8, 0, none⟩ = some (.int .i64 X) ∧ wx.cell? ⟨g8, 1, none⟩ = some (.int .i64 Y) ∧ Below W1.heap.size W1 wx)
  case first =>
    go_region_held3 (fun _ => True) (trivial)
      (first
        | (refine step_append_spans rfl (.tmp 34) (.tmp 37) rfl W1.heap.size (.slice (some ⟨W1.heap.size, 0, none⟩) 0 0) 0 [] rfl (by first | exact own_drew (own_lit _ _ (by simp) (by simp)) | exact own_drew ((own_lit _ _ (by simp) (by simp)).alloc _)) (by simp) _ _ _ (l.drop k) rfl (by rw [List.length_drop, HL.out]) ((spans_drop hs1 k).kept (by (repeat' first | exact Below.refl _ _ | with_reducible refine Below.drew ?_ | with_reducible refine Below.drewN ?_ _ | with_reducible refine Below.alloc' ?_ _ | with_reducible refine Below.setCell ?_ (by first | exact Nat.le_refl _ | (simp; done) | (simp; omega)) _ | with_reducible refine Below.after ?_ ‹_›))) (by simp) (by omega) (by simp; try omega) ?_; intro v1 x1 o1 gr ne1 at1; have hx1 : Below W1.heap.size W1 x1 := Below.grown (by (repeat' first | exact Below.refl _ _ | with_reducible refine Below.drew ?_ | with_reducible refine Below.drewN ?_ _ | with_reducible refine Below.alloc' ?_ _ | with_reducible refine Below.setCell ?_ (by first | exact Nat.le_refl _ | (simp; done) | (simp; omega)) _ | with_reducible refine Below.after ?_ ‹_›)) gr (by simp; try omega) (by intro j hj; simp [Value.ownBlock] at hj; omega); (try (refine far_step gr (n := W1.heap.size) ?_ ?_ ?_; (· (refine ⟨?_, ?_, ?_, ?_⟩ <;> first | assumption | (simp [go_sem]; done) | (simp [go_sem, *]; done))); (· ((simp [Value.ownBlock]; done))); rintro ⟨cA0, cA1, fA0, fA1⟩)); (try (refine far_step gr (n := W1.heap.size + 1) ?_ ?_ ?_; (· (refine ⟨?_, ?_, ?_, ?_⟩ <;> first | assumption | (simp [go_sem]; done) | (simp [go_sem, *]; done))); (· ((simp [Value.ownBlock]; done))); rintro ⟨cB0, cB1, fB0, fB1⟩)); clear gr)
        | (refine step_append_spans rfl (.tmp 34) (.tmp 37) rfl W1.heap.size (.slice (some ⟨W1.heap.size + 1, 0, none⟩) 0 0) 0 [] rfl (by first | exact own_drew (own_lit _ _ (by simp) (by simp)) | exact own_drew ((own_lit _ _ (by simp) (by simp)).alloc _)) (by simp) _ _ _ (l.drop k) rfl (by rw [List.length_drop, HL.out]) ((spans_drop hs1 k).kept (by (repeat' first | exact Below.refl _ _ | with_reducible refine Below.drew ?_ | with_reducible refine Below.drewN ?_ _ | with_reducible refine Below.alloc' ?_ _ | with_reducible refine Below.setCell ?_ (by first | exact Nat.le_refl _ | (simp; done) | (simp; omega)) _ | with_reducible refine Below.after ?_ ‹_›))) (by simp) (by omega) (by simp; try omega) ?_; intro v1 x1 o1 gr ne1 at1; have hx1 : Below W1.heap.size W1 x1 := Below.grown (by (repeat' first | exact Below.refl _ _ | with_reducible refine Below.drew ?_ | with_reducible refine Below.drewN ?_ _ | with_reducible refine Below.alloc' ?_ _ | with_reducible refine Below.setCell ?_ (by first | exact Nat.le_refl _ | (simp; done) | (simp; omega)) _ | with_reducible refine Below.after ?_ ‹_›)) gr (by simp; try omega) (by intro j hj; simp [Value.ownBlock] at hj; omega); (try (refine far_step gr (n := W1.heap.size) ?_ ?_ ?_; (· (refine ⟨?_, ?_, ?_, ?_⟩ <;> first | assumption | (simp [go_sem]; done) | (simp [go_sem, *]; done))); (· ((simp [Value.ownBlock]; done))); rintro ⟨cA0, cA1, fA0, fA1⟩)); (try (refine far_step gr (n := W1.heap.size + 1) ?_ ?_ ?_; (· (refine ⟨?_, ?_, ?_, ?_⟩ <;> first | assumption | (simp [go_sem]; done) | (simp [go_sem, *]; done))); (· ((simp [Value.ownBlock]; done))); rintro ⟨cB0, cB1, fB0, fB1⟩)); clear gr)
        | (refine step_append_spans rfl (.tmp 38) (.tmp 41) rfl W1.heap.size v1 _ _ rfl (by first | exact o1 | exact o1.alloc _) ne1 _ _ _ (l.take k) rfl (by rw [List.length_take, HL.out]; omega) ((spans_take hs1 k).kept (by (repeat' first | exact Below.refl _ _ | with_reducible refine Below.drew ?_ | with_reducible refine Below.drewN ?_ _ | with_reducible refine Below.alloc' ?_ _ | with_reducible refine Below.setCell ?_ (by first | exact Nat.le_refl _ | (simp; done) | (simp; omega)) _ | with_reducible refine Below.after ?_ ‹_›))) (by simp) (by omega) (by have := hx1.size; simp; try omega) ?_; intro v2 x2 o2 gr ne2 at2; have hx2 : Below W1.heap.size W1 x2 := Below.grown (by (repeat' first | exact Below.refl _ _ | with_reducible refine Below.drew ?_ | with_reducible refine Below.drewN ?_ _ | with_reducible refine Below.alloc' ?_ _ | with_reducible refine Below.setCell ?_ (by first | exact Nat.le_refl _ | (simp; done) | (simp; omega)) _ | with_reducible refine Below.after ?_ ‹_›)) gr (by have := hx1.size; simp; try omega) (by intro j hj; rcases at1 with at1 | at1 <;> rw [at1] at hj <;> simp [Value.ownBlock] at hj <;> omega); (try (refine far_step gr (n := W1.heap.size) ?_ ?_ ?_; (· (refine ⟨?_, ?_, ?_, ?_⟩ <;> first | assumption | (simp [go_sem]; done) | (simp [go_sem, *]; done))); (· (rcases at1 with at1 | at1 <;> rw [at1] <;> first | (simp; done) | (simp; omega) | (simp [Value.ownBlock]; done) | (simp [Value.ownBlock]; omega))); rintro ⟨cA0, cA1, fA0, fA1⟩)); (try (refine far_step gr (n := W1.heap.size + 1) ?_ ?_ ?_; (· (refine ⟨?_, ?_, ?_, ?_⟩ <;> first | assumption | (simp [go_sem]; done) | (simp [go_sem, *]; done))); (· (rcases at1 with at1 | at1 <;> rw [at1] <;> first | (simp; done) | (simp; omega) | (simp [Value.ownBlock]; done) | (simp [Value.ownBlock]; omega))); rintro ⟨cB0, cB1, fB0, fB1⟩)); (try (refine far_step gr (n := x1.heap.size) ?_ ?_ ?_; (· (refine ⟨?_, ?_, ?_, ?_⟩ <;> first | assumption | (simp [go_sem]; done) | (simp [go_sem, *]; done))); (· (intro hq; have := (o1.lt _ hq.symm).2; simp at this; done)); rintro ⟨cC0, cC1, fC0, fC1⟩)); clear gr; rw [show 0 + (len - k) + k = len by omega] at o2; obtain ⟨a2, c2, rfl, hl2, hs2⟩ := own_spans o2)
        | (go_at_call 22; refine (sum_is E4.out _ _ _ _ hl2 (by omega) (hs2.kept (by (repeat' first | exact Below.refl _ _ | with_reducible refine Below.drew ?_ | with_reducible refine Below.drewN ?_ _ | with_reducible refine Below.alloc' ?_ _ | with_reducible refine Below.setCell ?_ (by first | exact Nat.le_refl _ | (simp; done) | (simp; omega)) _ | with_reducible refine Below.after ?_ ‹_›)))).mono ?_; rintro r w3 ⟨rfl, hb3⟩; (try (refine kept_step hb3 (n := W1.heap.size) ?_ ?_; (· (refine ⟨?_, ?_, ?_, ?_⟩ <;> first | assumption | (simp [go_sem]; done) | (simp [go_sem, *]; done))); rintro ⟨cA0, cA1, fA0, fA1⟩)); (try (refine kept_step hb3 (n := W1.heap.size + 1) ?_ ?_; (· (refine ⟨?_, ?_, ?_, ?_⟩ <;> first | assumption | (simp [go_sem]; done) | (simp [go_sem, *]; done))); rintro ⟨cB0, cB1, fB0, fB1⟩)); (try (refine kept_step hb3 (n := x1.heap.size) ?_ ?_; (· (refine ⟨?_, ?_, ?_, ?_⟩ <;> first | assumption | (simp [go_sem]; done) | (simp [go_sem, *]; done))); rintro ⟨cC0, cC1, fC0, fC1⟩)); (try (refine kept_step hb3 (n := x2.heap.size) ?_ ?_; (· (refine ⟨?_, ?_, ?_, ?_⟩ <;> first | assumption | (simp [go_sem]; done) | (simp [go_sem, *]; done))); rintro ⟨cD0, cD1, fD0, fD1⟩))))
    all_goals go_wp2_with fail
    all_goals go_meet
    all_goals
      have z1 := hx1.size
      have z2 := hx2.size
      exact ⟨_, rfl, rfl, by simp [go_sem, *], by simp [go_sem, *], by (repeat' first | with_reducible assumption | exact Below.refl _ _ | with_reducible refine Below.drew ?_ | with_reducible refine Below.drewN ?_ _ | with_reducible refine Below.alloc' ?_ _ | with_reducible refine Below.setCell ?_ (by first | exact Nat.le_refl _ | omega | (simp; done) | (simp; omega)) _ | with_reducible refine Below.after ?_ ‹_›)⟩
  case rest =>
    obtain ⟨g8, rfl, rfl, c0, c1, hbx⟩ := hcut
    have k0 := kept hbx cS0
    have k1 := kept hbx cS1
    have HT := Lib.hid (show (l.take k).length = k by rw [List.length_take, HL.out]; omega)
    have HD := Lib.hid (show (l.drop k).length = len - k by rw [List.length_drop, HL.out])
    clear cS0 cS1
    by_cases he : e = 0
    · subst he
      by_cases hg : g = 0
      · subst hg
        by_cases hh : h = 0
        · subst hh
          have EA := Lib.hid (sumV_parts E1.out E2.out E3.out)
          go_wp2_with fail
          refine (sum_is E2.out _ _ _ _ HT.out (by omega) (spans_take (hs1.kept (by (repeat' first | with_reducible assumption | exact Below.refl _ _ | with_reducible refine Below.drew ?_ | with_reducible refine Below.drewN ?_ _ | with_reducible refine Below.alloc' ?_ _ | with_reducible refine Below.setCell ?_ (by first | exact Nat.le_refl _ | omega | (simp; done) | (simp; omega)) _ | with_reducible refine Below.after ?_ ‹_›))) k)).mono ?_
          rintro e w4 ⟨rfl, hw4⟩
          have k1_s_0 := kept hw4 (p := ⟨w1.heap.size, 0, none⟩) (v := .int .i64 X) (by first | ((repeat' first | with_reducible assumption | with_reducible refine cellA ?_ | with_reducible refine cellD ?_); done) | (simp [go_sem]; done) | (simp [go_sem, *]; done))
          have k1_s_1 := kept hw4 (p := ⟨w1.heap.size, 1, none⟩) (v := .int .i64 Y) (by first | ((repeat' first | with_reducible assumption | with_reducible refine cellA ?_ | with_reducible refine cellD ?_); done) | (simp [go_sem]; done) | (simp [go_sem, *]; done))
          have y1_s := World.block_lt_of_cell? _ _ k1_s_0
          simp only [] at y1_s
          have k1_t_0 := kept hw4 (p := ⟨g8, 0, none⟩) (v := .int .i64 X) (by first | ((repeat' first | with_reducible assumption | with_reducible refine cellA ?_ | with_reducible refine cellD ?_); done) | (simp [go_sem]; done) | (simp [go_sem, *]; done))
          have k1_t_1 := kept hw4 (p := ⟨g8, 1, none⟩) (v := .int .i64 Y) (by first | ((repeat' first | with_reducible assumption | with_reducible refine cellA ?_ | with_reducible refine cellD ?_); done) | (simp [go_sem]; done) | (simp [go_sem, *]; done))
          have y1_t := World.block_lt_of_cell? _ _ k1_t_0
          simp only [] at y1_t
          go_wp2_with fail
          refine (sum_is E3.out _ _ _ _ HD.out (by omega) (spans_drop (hs1.kept (by (repeat' first | with_reducible assumption | exact Below.refl _ _ | with_reducible refine Below.drew ?_ | with_reducible refine Below.drewN ?_ _ | with_reducible refine Below.alloc' ?_ _ | with_reducible refine Below.setCell ?_ (by first | exact Nat.le_refl _ | omega | (simp; done) | (simp; omega)) _ | with_reducible refine Below.after ?_ ‹_›))) k)).mono ?_
          rintro e w5 ⟨rfl, hw5⟩
          have k2_s_0 := kept hw5 (cellA k1_s_0)
          have k2_s_1 := kept hw5 (cellA k1_s_1)
          have y2_s := World.block_lt_of_cell? _ _ k2_s_0
          simp only [] at y2_s
          have k2_p_0 := kept hw5 (p := ⟨w4.heap.size, 0, none⟩) (v := .int .i64 P) (by first | ((repeat' first | with_reducible assumption | with_reducible refine cellA ?_ | with_reducible refine cellD ?_); done) | (simp [go_sem]; done) | (simp [go_sem, *]; done))
          have k2_p_1 := kept hw5 (p := ⟨w4.heap.size, 1, none⟩) (v := .int .i64 Q) (by first | ((repeat' first | with_reducible assumption | with_reducible refine cellA ?_ | with_reducible refine cellD ?_); done) | (simp [go_sem]; done) | (simp [go_sem, *]; done))
          have y2_p := World.block_lt_of_cell? _ _ k2_p_0
          simp only [] at y2_p
          clear k1_s_0 k1_s_1 y1_s k1_t_0 k1_t_1 y1_t
          go_wp2_with fail
          refine (add_is EA.out _).mono ?_
          rintro e w6 ⟨rfl, hw6⟩
          have k3_s_0 := kept hw6 (cellA k2_s_0)
          have k3_s_1 := kept hw6 (cellA k2_s_1)
          have y3_s := World.block_lt_of_cell? _ _ k3_s_0
          simp only [] at y3_s
          have k3_p_0 := kept hw6 (cellA k2_p_0)
          have k3_p_1 := kept hw6 (cellA k2_p_1)
          have y3_p := World.block_lt_of_cell? _ _ k3_p_0
          simp only [] at y3_p
          have k3_q_0 := kept hw6 (p := ⟨w5.heap.size, 0, none⟩) (v := .int .i64 R) (by first | ((repeat' first | with_reducible assumption | with_reducible refine cellA ?_ | with_reducible refine cellD ?_); done) | (simp [go_sem]; done) | (simp [go_sem, *]; done))
          have k3_q_1 := kept hw6 (p := ⟨w5.heap.size, 1, none⟩) (v := .int .i64 S) (by first | ((repeat' first | with_reducible assumption | with_reducible refine cellA ?_ | with_reducible refine cellD ?_); done) | (simp [go_sem]; done) | (simp [go_sem, *]; done))
          have y3_q := World.block_lt_of_cell? _ _ k3_q_0
          simp only [] at y3_q
          clear k2_s_0 k2_s_1 y2_s k2_p_0 k2_p_1 y2_p
          go_wp2_with fail
          refine (awake_any _).mono ?_
          rintro e w7 ⟨rfl, hw7⟩
          go_wp2
          go_ret
          exact ⟨rfl, hb2.after (by (repeat' first | with_reducible assumption | exact Below.refl _ _ | with_reducible refine Below.drew ?_ | with_reducible refine Below.drewN ?_ _ | with_reducible refine Below.alloc' ?_ _ | with_reducible refine Below.setCell ?_ (by first | exact Nat.le_refl _ | omega | (simp; done) | (simp; omega)) _ | with_reducible refine Below.after ?_ ‹_›))⟩
        · have hne : (h != 0) = true := by simp [hh]
          clear hh
          go_wp2_with fail
          refine (sum_is E2.out _ _ _ _ HT.out (by omega) (spans_take (hs1.kept (by (repeat' first | with_reducible assumption | exact Below.refl _ _ | with_reducible refine Below.drew ?_ | with_reducible refine Below.drewN ?_ _ | with_reducible refine Below.alloc' ?_ _ | with_reducible refine Below.setCell ?_ (by first | exact Nat.le_refl _ | omega | (simp; done) | (simp; omega)) _ | with_reducible refine Below.after ?_ ‹_›))) k)).mono ?_
          rintro e w4 ⟨rfl, hw4⟩
          have k1_s_0 := kept hw4 (p := ⟨w1.heap.size, 0, none⟩) (v := .int .i64 X) (by first | ((repeat' first | with_reducible assumption | with_reducible refine cellA ?_ | with_reducible refine cellD ?_); done) | (simp [go_sem]; done) | (simp [go_sem, *]; done))
          have k1_s_1 := kept hw4 (p := ⟨w1.heap.size, 1, none⟩) (v := .int .i64 Y) (by first | ((repeat' first | with_reducible assumption | with_reducible refine cellA ?_ | with_reducible refine cellD ?_); done) | (simp [go_sem]; done) | (simp [go_sem, *]; done))
          have y1_s := World.block_lt_of_cell? _ _ k1_s_0
          simp only [] at y1_s
          have k1_t_0 := kept hw4 (p := ⟨g8, 0, none⟩) (v := .int .i64 X) (by first | ((repeat' first | with_reducible assumption | with_reducible refine cellA ?_ | with_reducible refine cellD ?_); done) | (simp [go_sem]; done) | (simp [go_sem, *]; done))
          have k1_t_1 := kept hw4 (p := ⟨g8, 1, none⟩) (v := .int .i64 Y) (by first | ((repeat' first | with_reducible assumption | with_reducible refine cellA ?_ | with_reducible refine cellD ?_); done) | (simp [go_sem]; done) | (simp [go_sem, *]; done))
          have y1_t := World.block_lt_of_cell? _ _ k1_t_0
          simp only [] at y1_t
          go_wp2_with fail
          refine (sum_is E3.out _ _ _ _ HD.out (by omega) (spans_drop (hs1.kept (by (repeat' first | with_reducible assumption | exact Below.refl _ _ | with_reducible refine Below.drew ?_ | with_reducible refine Below.drewN ?_ _ | with_reducible refine Below.alloc' ?_ _ | with_reducible refine Below.setCell ?_ (by first | exact Nat.le_refl _ | omega | (simp; done) | (simp; omega)) _ | with_reducible refine Below.after ?_ ‹_›))) k)).mono ?_
          rintro e w5 ⟨rfl, hw5⟩
          have k2_s_0 := kept hw5 (cellA k1_s_0)
          have k2_s_1 := kept hw5 (cellA k1_s_1)
          have y2_s := World.block_lt_of_cell? _ _ k2_s_0
          simp only [] at y2_s
          have k2_p_0 := kept hw5 (p := ⟨w4.heap.size, 0, none⟩) (v := .int .i64 P) (by first | ((repeat' first | with_reducible assumption | with_reducible refine cellA ?_ | with_reducible refine cellD ?_); done) | (simp [go_sem]; done) | (simp [go_sem, *]; done))
          have k2_p_1 := kept hw5 (p := ⟨w4.heap.size, 1, none⟩) (v := .int .i64 Q) (by first | ((repeat' first | with_reducible assumption | with_reducible refine cellA ?_ | with_reducible refine cellD ?_); done) | (simp [go_sem]; done) | (simp [go_sem, *]; done))
          have y2_p := World.block_lt_of_cell? _ _ k2_p_0
          simp only [] at y2_p
          clear k1_s_0 k1_s_1 y1_s k1_t_0 k1_t_1 y1_t
          go_wp2_with fail
          refine (awake_any _).mono ?_
          rintro e w7 ⟨rfl, hw7⟩
          go_wp2
          go_ret
          exact ⟨rfl, hb2.after (by (repeat' first | with_reducible assumption | exact Below.refl _ _ | with_reducible refine Below.drew ?_ | with_reducible refine Below.drewN ?_ _ | with_reducible refine Below.alloc' ?_ _ | with_reducible refine Below.setCell ?_ (by first | exact Nat.le_refl _ | omega | (simp; done) | (simp; omega)) _ | with_reducible refine Below.after ?_ ‹_›))⟩
      · have hne : (g != 0) = true := by simp [hg]
        clear hg
        go_wp2_with fail
        refine (sum_is E2.out _ _ _ _ HT.out (by omega) (spans_take (hs1.kept (by (repeat' first | with_reducible assumption | exact Below.refl _ _ | with_reducible refine Below.drew ?_ | with_reducible refine Below.drewN ?_ _ | with_reducible refine Below.alloc' ?_ _ | with_reducible refine Below.setCell ?_ (by first | exact Nat.le_refl _ | omega | (simp; done) | (simp; omega)) _ | with_reducible refine Below.after ?_ ‹_›))) k)).mono ?_
        rintro e w4 ⟨rfl, hw4⟩
        have k1_s_0 := kept hw4 (p := ⟨w1.heap.size, 0, none⟩) (v := .int .i64 X) (by first | ((repeat' first | with_reducible assumption | with_reducible refine cellA ?_ | with_reducible refine cellD ?_); done) | (simp [go_sem]; done) | (simp [go_sem, *]; done))
        have k1_s_1 := kept hw4 (p := ⟨w1.heap.size, 1, none⟩) (v := .int .i64 Y) (by first | ((repeat' first | with_reducible assumption | with_reducible refine cellA ?_ | with_reducible refine cellD ?_); done) | (simp [go_sem]; done) | (simp [go_sem, *]; done))
        have y1_s := World.block_lt_of_cell? _ _ k1_s_0
        simp only [] at y1_s
        have k1_t_0 := kept hw4 (p := ⟨g8, 0, none⟩) (v := .int .i64 X) (by first | ((repeat' first | with_reducible assumption | with_reducible refine cellA ?_ | with_reducible refine cellD ?_); done) | (simp [go_sem]; done) | (simp [go_sem, *]; done))
        have k1_t_1 := kept hw4 (p := ⟨g8, 1, none⟩) (v := .int .i64 Y) (by first | ((repeat' first | with_reducible assumption | with_reducible refine cellA ?_ | with_reducible refine cellD ?_); done) | (simp [go_sem]; done) | (simp [go_sem, *]; done))
        have y1_t := World.block_lt_of_cell? _ _ k1_t_0
        simp only [] at y1_t
        go_wp2_with fail
        refine (sum_is E3.out _ _ _ _ HD.out (by omega) (spans_drop (hs1.kept (by (repeat' first | with_reducible assumption | exact Below.refl _ _ | with_reducible refine Below.drew ?_ | with_reducible refine Below.drewN ?_ _ | with_reducible refine Below.alloc' ?_ _ | with_reducible refine Below.setCell ?_ (by first | exact Nat.le_refl _ | omega | (simp; done) | (simp; omega)) _ | with_reducible refine Below.after ?_ ‹_›))) k)).mono ?_
        rintro e w5 ⟨rfl, hw5⟩
        have k2_s_0 := kept hw5 (cellA k1_s_0)
        have k2_s_1 := kept hw5 (cellA k1_s_1)
        have y2_s := World.block_lt_of_cell? _ _ k2_s_0
        simp only [] at y2_s
        have k2_p_0 := kept hw5 (p := ⟨w4.heap.size, 0, none⟩) (v := .int .i64 P) (by first | ((repeat' first | with_reducible assumption | with_reducible refine cellA ?_ | with_reducible refine cellD ?_); done) | (simp [go_sem]; done) | (simp [go_sem, *]; done))
        have k2_p_1 := kept hw5 (p := ⟨w4.heap.size, 1, none⟩) (v := .int .i64 Q) (by first | ((repeat' first | with_reducible assumption | with_reducible refine cellA ?_ | with_reducible refine cellD ?_); done) | (simp [go_sem]; done) | (simp [go_sem, *]; done))
        have y2_p := World.block_lt_of_cell? _ _ k2_p_0
        simp only [] at y2_p
        clear k1_s_0 k1_s_1 y1_s k1_t_0 k1_t_1 y1_t
        go_wp2_with fail
        refine (awake_any _).mono ?_
        rintro e w7 ⟨rfl, hw7⟩
        go_wp2
        go_ret
        exact ⟨rfl, hb2.after (by (repeat' first | with_reducible assumption | exact Below.refl _ _ | with_reducible refine Below.drew ?_ | with_reducible refine Below.drewN ?_ _ | with_reducible refine Below.alloc' ?_ _ | with_reducible refine Below.setCell ?_ (by first | exact Nat.le_refl _ | omega | (simp; done) | (simp; omega)) _ | with_reducible refine Below.after ?_ ‹_›))⟩
    · have hne : (e != 0) = true := by simp [he]
      clear he
      go_wp2_with fail
      refine (sum_is E2.out _ _ _ _ HT.out (by omega) (spans_take (hs1.kept (by (repeat' first | with_reducible assumption | exact Below.refl _ _ | with_reducible refine Below.drew ?_ | with_reducible refine Below.drewN ?_ _ | with_reducible refine Below.alloc' ?_ _ | with_reducible refine Below.setCell ?_ (by first | exact Nat.le_refl _ | omega | (simp; done) | (simp; omega)) _ | with_reducible refine Below.after ?_ ‹_›))) k)).mono ?_
      rintro e w4 ⟨rfl, hw4⟩
      have k1_s_0 := kept hw4 (p := ⟨w1.heap.size, 0, none⟩) (v := .int .i64 X) (by first | ((repeat' first | with_reducible assumption | with_reducible refine cellA ?_ | with_reducible refine cellD ?_); done) | (simp [go_sem]; done) | (simp [go_sem, *]; done))
      have k1_s_1 := kept hw4 (p := ⟨w1.heap.size, 1, none⟩) (v := .int .i64 Y) (by first | ((repeat' first | with_reducible assumption | with_reducible refine cellA ?_ | with_reducible refine cellD ?_); done) | (simp [go_sem]; done) | (simp [go_sem, *]; done))
      have y1_s := World.block_lt_of_cell? _ _ k1_s_0
      simp only [] at y1_s
      have k1_t_0 := kept hw4 (p := ⟨g8, 0, none⟩) (v := .int .i64 X) (by first | ((repeat' first | with_reducible assumption | with_reducible refine cellA ?_ | with_reducible refine cellD ?_); done) | (simp [go_sem]; done) | (simp [go_sem, *]; done))
      have k1_t_1 := kept hw4 (p := ⟨g8, 1, none⟩) (v := .int .i64 Y) (by first | ((repeat' first | with_reducible assumption | with_reducible refine cellA ?_ | with_reducible refine cellD ?_); done) | (simp [go_sem]; done) | (simp [go_sem, *]; done))
      have y1_t := World.block_lt_of_cell? _ _ k1_t_0
      simp only [] at y1_t
      go_wp2_with fail
      refine (sum_is E3.out _ _ _ _ HD.out (by omega) (spans_drop (hs1.kept (by (repeat' first | with_reducible assumption | exact Below.refl _ _ | with_reducible refine Below.drew ?_ | with_reducible refine Below.drewN ?_ _ | with_reducible refine Below.alloc' ?_ _ | with_reducible refine Below.setCell ?_ (by first | exact Nat.le_refl _ | omega | (simp; done) | (simp; omega)) _ | with_reducible refine Below.after ?_ ‹_›))) k)).mono ?_
      rintro e w5 ⟨rfl, hw5⟩
      have k2_s_0 := kept hw5 (cellA k1_s_0)
      have k2_s_1 := kept hw5 (cellA k1_s_1)
      have y2_s := World.block_lt_of_cell? _ _ k2_s_0
      simp only [] at y2_s
      have k2_p_0 := kept hw5 (p := ⟨w4.heap.size, 0, none⟩) (v := .int .i64 P) (by first | ((repeat' first | with_reducible assumption | with_reducible refine cellA ?_ | with_reducible refine cellD ?_); done) | (simp [go_sem]; done) | (simp [go_sem, *]; done))
      have k2_p_1 := kept hw5 (p := ⟨w4.heap.size, 1, none⟩) (v := .int .i64 Q) (by first | ((repeat' first | with_reducible assumption | with_reducible refine cellA ?_ | with_reducible refine cellD ?_); done) | (simp [go_sem]; done) | (simp [go_sem, *]; done))
      have y2_p := World.block_lt_of_cell? _ _ k2_p_0
      simp only [] at y2_p
      clear k1_s_0 k1_s_1 y1_s k1_t_0 k1_t_1 y1_t
      go_wp2_with fail
      refine (awake_any _).mono ?_
      rintro e w7 ⟨rfl, hw7⟩
      go_wp2
      go_ret
      exact ⟨rfl, hb2.after (by (repeat' first | with_reducible assumption | exact Below.refl _ _ | with_reducible refine Below.drew ?_ | with_reducible refine Below.drewN ?_ _ | with_reducible refine Below.alloc' ?_ _ | with_reducible refine Below.setCell ?_ (by first | exact Nat.le_refl _ | omega | (simp; done) | (simp; omega)) _ | with_reducible refine Below.after ?_ ‹_›))⟩

set_option maxRecDepth 100000 in
set_option maxHeartbeats 8000000 in
theorem order_nil (a : Option Addr) (cap : Nat) (t : Int) (w : World) (ha : a = none → cap = 0) (hcm : cap ≤ maxLen) :
    Calls Try.prog 12 #[.slice a 0 cap, .int .u16 t] w fun e w' => e = .returned (.bool true) ∧ Below w.heap.size w w' := by
  have E0 := Lib.hid (show sumV [] = (0, 0, 0) by decide)
  have E4 := Lib.hid (show sumV ([] ++ [] ++ []) = (0, 0, 0) by decide)
  have EA := Lib.hid (show addV 0 0 0 0 = (0, 0, 0) by decide)
  have f5 : (0 : Int) ≤ (cap : Int) := by omega
  unfold maxLen at hcm
  have hcase : (a = none ∧ cap = 0) ∨ (∃ x, a = some x ∧ cap = 0) ∨ (∃ x, a = some x ∧ ¬ cap = 0) := by
    cases a with
    | none => exact Or.inl ⟨rfl, ha rfl⟩
    | some x =>
      by_cases h : cap = 0
      · exact Or.inr (Or.inl ⟨x, rfl, h⟩)
      · exact Or.inr (Or.inr ⟨x, rfl, h⟩)
  clear ha
  rcases hcase with ⟨rfl, rfl⟩ | ⟨x, rfl, rfl⟩ | ⟨x, rfl, hc0⟩
  all_goals
    go_enter Try.func12, Try.ntmps12
    go_wp2_with fail
    refine (sum_is E0.out _ 0 _ _ rfl (Nat.zero_le _) (fun h => absurd rfl h)).mono ?_
    rintro r w1 ⟨rfl, hb1⟩
    go_upto_region 7 with fail
    obtain ⟨W1, hW1⟩ : ∃ W, w1.alloc (Obj.cells #[.int .i64 0, .int .i64 0] 23) = W := ⟨_, rfl⟩
    rw [hW1]
    have cS0 : W1.cell? ⟨w1.heap.size, 0, none⟩ = some (.int .i64 0) := by rw [← hW1]; simp [go_sem]
    have cS1 : W1.cell? ⟨w1.heap.size, 1, none⟩ = some (.int .i64 0) := by rw [← hW1]; simp [go_sem]
    have hb2 : Below w.heap.size w W1 := by rw [← hW1]; exact hb1.alloc' _
    clear hW1
    go_cut [8, 9] (fun p8 v9 wx => ∃ g8 : Nat, p8 = .pointer (some ⟨g8, 0, none⟩) ∧ v9 = .int .i64 0 ∧ wx.cell? ⟨g8, 0, none⟩ = some (.int .i64 0) ∧ wx.cell? ⟨g8, 1, none⟩ = some (.int .i64 0) ∧ Below W1.heap.size W1 wx)
    case first =>
      go_region_held3 (fun _ => True) (trivial)
        (first
          | (refine step_append_spans rfl (.tmp 34) (.tmp 37) rfl W1.heap.size (.slice (some ⟨W1.heap.size, 0, none⟩) 0 0) 0 [] rfl (by first | exact own_drew (own_lit _ _ (by simp) (by simp)) | exact own_drew ((own_lit _ _ (by simp) (by simp)).alloc _)) (by simp) _ _ _ [] rfl rfl (fun h => absurd rfl h) (by simp) (by omega) (by simp; try omega) ?_; intro v1 x1 o1 gr ne1 at1; have hx1 : Below W1.heap.size W1 x1 := Below.grown (by (repeat' first | exact Below.refl _ _ | with_reducible refine Below.drew ?_ | with_reducible refine Below.drewN ?_ _ | with_reducible refine Below.alloc' ?_ _ | with_reducible refine Below.setCell ?_ (by first | exact Nat.le_refl _ | (simp; done) | (simp; omega)) _ | with_reducible refine Below.after ?_ ‹_›)) gr (by simp; try omega) (by intro j hj; simp [Value.ownBlock] at hj; omega); (try (refine far_step gr (n := W1.heap.size) ?_ ?_ ?_; (· (refine ⟨?_, ?_, ?_, ?_⟩ <;> first | assumption | (simp [go_sem]; done) | (simp [go_sem, *]; done))); (· ((simp [Value.ownBlock]; done))); rintro ⟨cA0, cA1, fA0, fA1⟩)); (try (refine far_step gr (n := W1.heap.size + 1) ?_ ?_ ?_; (· (refine ⟨?_, ?_, ?_, ?_⟩ <;> first | assumption | (simp [go_sem]; done) | (simp [go_sem, *]; done))); (· ((simp [Value.ownBlock]; done))); rintro ⟨cB0, cB1, fB0, fB1⟩)); clear gr)
          | (refine step_append_spans rfl (.tmp 34) (.tmp 37) rfl W1.heap.size (.slice (some ⟨W1.heap.size + 1, 0, none⟩) 0 0) 0 [] rfl (by first | exact own_drew (own_lit _ _ (by simp) (by simp)) | exact own_drew ((own_lit _ _ (by simp) (by simp)).alloc _)) (by simp) _ _ _ [] rfl rfl (fun h => absurd rfl h) (by simp) (by omega) (by simp; try omega) ?_; intro v1 x1 o1 gr ne1 at1; have hx1 : Below W1.heap.size W1 x1 := Below.grown (by (repeat' first | exact Below.refl _ _ | with_reducible refine Below.drew ?_ | with_reducible refine Below.drewN ?_ _ | with_reducible refine Below.alloc' ?_ _ | with_reducible refine Below.setCell ?_ (by first | exact Nat.le_refl _ | (simp; done) | (simp; omega)) _ | with_reducible refine Below.after ?_ ‹_›)) gr (by simp; try omega) (by intro j hj; simp [Value.ownBlock] at hj; omega); (try (refine far_step gr (n := W1.heap.size) ?_ ?_ ?_; (· (refine ⟨?_, ?_, ?_, ?_⟩ <;> first | assumption | (simp [go_sem]; done) | (simp [go_sem, *]; done))); (· ((simp [Value.ownBlock]; done))); rintro ⟨cA0, cA1, fA0, fA1⟩)); (try (refine far_step gr (n := W1.heap.size + 1) ?_ ?_ ?_; (· (refine ⟨?_, ?_, ?_, ?_⟩ <;> first | assumption | (simp [go_sem]; done) | (simp [go_sem, *]; done))); (· ((simp [Value.ownBlock]; done))); rintro ⟨cB0, cB1, fB0, fB1⟩)); clear gr)
          | (refine step_append_spans rfl (.tmp 38) (.tmp 41) rfl W1.heap.size v1 _ _ rfl (by first | exact o1 | exact o1.alloc _) ne1 _ _ _ [] rfl rfl (fun h => absurd rfl h) (by simp) (by omega) (by have := hx1.size; simp; try omega) ?_; intro v2 x2 o2 gr ne2 at2; have hx2 : Below W1.heap.size W1 x2 := Below.grown (by (repeat' first | exact Below.refl _ _ | with_reducible refine Below.drew ?_ | with_reducible refine Below.drewN ?_ _ | with_reducible refine Below.alloc' ?_ _ | with_reducible refine Below.setCell ?_ (by first | exact Nat.le_refl _ | (simp; done) | (simp; omega)) _ | with_reducible refine Below.after ?_ ‹_›)) gr (by have := hx1.size; simp; try omega) (by intro j hj; rcases at1 with at1 | at1 <;> rw [at1] at hj <;> simp [Value.ownBlock] at hj <;> omega); (try (refine far_step gr (n := W1.heap.size) ?_ ?_ ?_; (· (refine ⟨?_, ?_, ?_, ?_⟩ <;> first | assumption | (simp [go_sem]; done) | (simp [go_sem, *]; done))); (· (rcases at1 with at1 | at1 <;> rw [at1] <;> first | (simp; done) | (simp; omega) | (simp [Value.ownBlock]; done) | (simp [Value.ownBlock]; omega))); rintro ⟨cA0, cA1, fA0, fA1⟩)); (try (refine far_step gr (n := W1.heap.size + 1) ?_ ?_ ?_; (· (refine ⟨?_, ?_, ?_, ?_⟩ <;> first | assumption | (simp [go_sem]; done) | (simp [go_sem, *]; done))); (· (rcases at1 with at1 | at1 <;> rw [at1] <;> first | (simp; done) | (simp; omega) | (simp [Value.ownBlock]; done) | (simp [Value.ownBlock]; omega))); rintro ⟨cB0, cB1, fB0, fB1⟩)); (try (refine far_step gr (n := x1.heap.size) ?_ ?_ ?_; (· (refine ⟨?_, ?_, ?_, ?_⟩ <;> first | assumption | (simp [go_sem]; done) | (simp [go_sem, *]; done))); (· (intro hq; have := (o1.lt _ hq.symm).2; simp at this; done)); rintro ⟨cC0, cC1, fC0, fC1⟩)); clear gr; obtain ⟨a2, c2, rfl, hl2, hs2⟩ := own_spans o2)
          | (go_at_call 22; refine (sum_is E4.out _ _ _ _ hl2 (by omega) (hs2.kept (by (repeat' first | exact Below.refl _ _ | with_reducible refine Below.drew ?_ | with_reducible refine Below.drewN ?_ _ | with_reducible refine Below.alloc' ?_ _ | with_reducible refine Below.setCell ?_ (by first | exact Nat.le_refl _ | (simp; done) | (simp; omega)) _ | with_reducible refine Below.after ?_ ‹_›)))).mono ?_; rintro r w3 ⟨rfl, hb3⟩; (try (refine kept_step hb3 (n := W1.heap.size) ?_ ?_; (· (refine ⟨?_, ?_, ?_, ?_⟩ <;> first | assumption | (simp [go_sem]; done) | (simp [go_sem, *]; done))); rintro ⟨cA0, cA1, fA0, fA1⟩)); (try (refine kept_step hb3 (n := W1.heap.size + 1) ?_ ?_; (· (refine ⟨?_, ?_, ?_, ?_⟩ <;> first | assumption | (simp [go_sem]; done) | (simp [go_sem, *]; done))); rintro ⟨cB0, cB1, fB0, fB1⟩)); (try (refine kept_step hb3 (n := x1.heap.size) ?_ ?_; (· (refine ⟨?_, ?_, ?_, ?_⟩ <;> first | assumption | (simp [go_sem]; done) | (simp [go_sem, *]; done))); rintro ⟨cC0, cC1, fC0, fC1⟩)); (try (refine kept_step hb3 (n := x2.heap.size) ?_ ?_; (· (refine ⟨?_, ?_, ?_, ?_⟩ <;> first | assumption | (simp [go_sem]; done) | (simp [go_sem, *]; done))); rintro ⟨cD0, cD1, fD0, fD1⟩))))
      all_goals go_wp2_with fail
      all_goals go_meet
      all_goals
        have z1 := hx1.size
        have z2 := hx2.size
        exact ⟨_, rfl, rfl, by simp [go_sem, *], by simp [go_sem, *], by (repeat' first | with_reducible assumption | exact Below.refl _ _ | with_reducible refine Below.drew ?_ | with_reducible refine Below.drewN ?_ _ | with_reducible refine Below.alloc' ?_ _ | with_reducible refine Below.setCell ?_ (by first | exact Nat.le_refl _ | omega | (simp; done) | (simp; omega)) _ | with_reducible refine Below.after ?_ ‹_›)⟩
    case rest =>
      obtain ⟨g8, rfl, rfl, c0, c1, hbx⟩ := hcut
      have k0 := kept hbx cS0
      have k1 := kept hbx cS1
      clear cS0 cS1
      go_wp2_with fail
      refine (sum_is E0.out _ 0 _ _ rfl (Nat.zero_le _) (fun h => absurd rfl h)).mono ?_
      rintro e w4 ⟨rfl, hw4⟩
      have k1_s_0 := kept hw4 (p := ⟨w1.heap.size, 0, none⟩) (v := .int .i64 0) (by first | ((repeat' first | with_reducible assumption | with_reducible refine cellA ?_ | with_reducible refine cellD ?_); done) | (simp [go_sem]; done) | (simp [go_sem, *]; done))
      have k1_s_1 := kept hw4 (p := ⟨w1.heap.size, 1, none⟩) (v := .int .i64 0) (by first | ((repeat' first | with_reducible assumption | with_reducible refine cellA ?_ | with_reducible refine cellD ?_); done) | (simp [go_sem]; done) | (simp [go_sem, *]; done))
      have y1_s := World.block_lt_of_cell? _ _ k1_s_0
      simp only [] at y1_s
      have k1_t_0 := kept hw4 (p := ⟨g8, 0, none⟩) (v := .int .i64 0) (by first | ((repeat' first | with_reducible assumption | with_reducible refine cellA ?_ | with_reducible refine cellD ?_); done) | (simp [go_sem]; done) | (simp [go_sem, *]; done))
      have k1_t_1 := kept hw4 (p := ⟨g8, 1, none⟩) (v := .int .i64 0) (by first | ((repeat' first | with_reducible assumption | with_reducible refine cellA ?_ | with_reducible refine cellD ?_); done) | (simp [go_sem]; done) | (simp [go_sem, *]; done))
      have y1_t := World.block_lt_of_cell? _ _ k1_t_0
      simp only [] at y1_t
      go_wp2_with fail
      refine (sum_is E0.out _ 0 _ _ rfl (Nat.zero_le _) (fun h => absurd rfl h)).mono ?_
      rintro e w5 ⟨rfl, hw5⟩
      have k2_s_0 := kept hw5 (cellA k1_s_0)
      have k2_s_1 := kept hw5 (cellA k1_s_1)
      have y2_s := World.block_lt_of_cell? _ _ k2_s_0
      simp only [] at y2_s
      have k2_p_0 := kept hw5 (p := ⟨w4.heap.size, 0, none⟩) (v := .int .i64 0) (by first | ((repeat' first | with_reducible assumption | with_reducible refine cellA ?_ | with_reducible refine cellD ?_); done) | (simp [go_sem]; done) | (simp [go_sem, *]; done))
      have k2_p_1 := kept hw5 (p := ⟨w4.heap.size, 1, none⟩) (v := .int .i64 0) (by first | ((repeat' first | with_reducible assumption | with_reducible refine cellA ?_ | with_reducible refine cellD ?_); done) | (simp [go_sem]; done) | (simp [go_sem, *]; done))
      have y2_p := World.block_lt_of_cell? _ _ k2_p_0
      simp only [] at y2_p
      clear k1_s_0 k1_s_1 y1_s k1_t_0 k1_t_1 y1_t
      go_wp2_with fail
      refine (add_is EA.out _).mono ?_
      rintro e w6 ⟨rfl, hw6⟩
      have k3_s_0 := kept hw6 (cellA k2_s_0)
      have k3_s_1 := kept hw6 (cellA k2_s_1)
      have y3_s := World.block_lt_of_cell? _ _ k3_s_0
      simp only [] at y3_s
      have k3_p_0 := kept hw6 (cellA k2_p_0)
      have k3_p_1 := kept hw6 (cellA k2_p_1)
      have y3_p := World.block_lt_of_cell? _ _ k3_p_0
      simp only [] at y3_p
      have k3_q_0 := kept hw6 (p := ⟨w5.heap.size, 0, none⟩) (v := .int .i64 0) (by first | ((repeat' first | with_reducible assumption | with_reducible refine cellA ?_ | with_reducible refine cellD ?_); done) | (simp [go_sem]; done) | (simp [go_sem, *]; done))
      have k3_q_1 := kept hw6 (p := ⟨w5.heap.size, 1, none⟩) (v := .int .i64 0) (by first | ((repeat' first | with_reducible assumption | with_reducible refine cellA ?_ | with_reducible refine cellD ?_); done) | (simp [go_sem]; done) | (simp [go_sem, *]; done))
      have y3_q := World.block_lt_of_cell? _ _ k3_q_0
      simp only [] at y3_q
      clear k2_s_0 k2_s_1 y2_s k2_p_0 k2_p_1 y2_p
      go_wp2_with fail
      refine (awake_any _).mono ?_
      rintro e w7 ⟨rfl, hw7⟩
      go_wp2
      go_ret
      exact ⟨rfl, hb2.after (by (repeat' first | with_reducible assumption | exact Below.refl _ _ | with_reducible refine Below.drew ?_ | with_reducible refine Below.drewN ?_ _ | with_reducible refine Below.alloc' ?_ _ | with_reducible refine Below.setCell ?_ (by first | exact Nat.le_refl _ | omega | (simp; done) | (simp; omega)) _ | with_reducible refine Below.after ?_ ‹_›))⟩

set_option maxRecDepth 100000 in
set_option maxHeartbeats 4000000 in
theorem spanOrder_walk (a : Option Addr) (len cap : Nat) (zs : List (Int × Int)) (t : Int) (w : World) (h : IsPairs .i64 w a len cap zs) (ht : (Lit.int .u16 t).wf = true) :
    Calls Try.prog 12 #[.slice a len cap, .int .u16 t] w fun e w' => e = .returned (.bool true) ∧ Below w.heap.size w w' := by
  have hb := bounds_u16 ht
  have hl := h.len
  have hs := h.spans
  by_cases hbig : 1000 < len
  · have hbig' : 1000 < (len : Int) := by omega
    clear h hs hl hb ht
    go_enter Try.func12, Try.ntmps12
    go_wp2_with fail
    refine (awake_any _).mono ?_
    rintro e w3 ⟨rfl, hb3⟩
    go_wp2
    go_ret
    exact ⟨rfl, hb3⟩
  · by_cases h0 : len = 0
    · subst h0
      rcases h with ⟨rfl, _, rfl, _⟩ | ⟨x, rfl, hle, hm, _⟩
      · exact order_nil none 0 t w (fun _ => rfl) (Nat.zero_le _)
      · exact order_nil (some x) cap t w (fun e => by cases e) hm
    · rcases h with ⟨_, rfl, _, _⟩ | ⟨x, rfl, hle, hm, _, _⟩
      · exact absurd rfl h0
      · obtain ⟨b, off, e, _⟩ := hs (by intro e; rw [e] at hl; simp at hl; omega)
        obtain rfl : x = ⟨b, off, none⟩ := by simpa using e
        have hk0 : 0 ≤ t % (len : Int) := Int.emod_nonneg _ (by omega)
        have hk1 : t % (len : Int) < len := Int.emod_lt_of_pos _ (by omega)
        obtain ⟨k, hk⟩ : ∃ k : Nat, t % (len : Int) = (k : Int) := ⟨(t % (len : Int)).toNat, by omega⟩
        obtain ⟨⟨X, Y, e⟩, e1⟩ : ∃ r, sumV (zs.take len) = r := ⟨_, rfl⟩
        obtain ⟨⟨P, Q, g⟩, e2⟩ : ∃ r, sumV ((zs.take len).take k) = r := ⟨_, rfl⟩
        obtain ⟨⟨R, S, f⟩, e3⟩ : ∃ r, sumV ((zs.take len).drop k) = r := ⟨_, rfl⟩
        exact order_many b off len cap k (zs.take len) t w hl (by omega) (by omega) hle hm hs hb hk (by omega) e1 e2 e3
end Go.Proofs.Ytnehmkdcifgpnaa
