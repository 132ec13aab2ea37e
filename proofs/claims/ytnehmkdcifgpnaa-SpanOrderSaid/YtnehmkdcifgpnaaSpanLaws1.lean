/-
  The walks of SpanValid and SpanSums.
-/
import Derived.Test.YtnehmkdcifgpnaaSpanW
import Derived.Test.YtnehmkdcifgpnaaSpanJ
import Derived.Test.YtnehmkdcifgpnaaOpen
namespace Go.Proofs.Ytnehmkdcifgpnaa
open Go.RowKit

theorem IsPairs.len {k : IntKind} {w : World} {a : Option Addr} {len cap : Nat} {zs : List (Int × Int)} (h : IsPairs k w a len cap zs) : (zs.take len).length = len := by
  rcases h with ⟨_, rfl, _, rfl⟩ | ⟨x, _, hl, _, hz, _⟩
  · rfl
  · rw [List.length_take]; omega
theorem IsPairs.spans {w : World} {a : Option Addr} {len cap : Nat} {zs : List (Int × Int)} (h : IsPairs .i64 w a len cap zs) : Spans w a (zs.take len) := by
  have hlen := h.len
  rcases h with ⟨_, rfl, _, rfl⟩ | ⟨x, rfl, hl, _, hz, hc, _⟩
  · intro h; simp at h
  · intro hne
    have h0 : 0 < len := by
      rcases Nat.eq_zero_or_pos len with h | h
      · subst h; simp at hne
      · exact h
    obtain ⟨b, off, spot⟩ := x
    have hs := (hc 0 (by omega)).1
    have hspot : spot = none := by simpa [Addr.add] using World.cell?_spot hs
    subst hspot
    refine ⟨b, off, rfl, fun k hk => ?_⟩
    have hkl : k < len := by omega
    have := hc k (by omega)
    rw [show ∀ j, (Addr.add ⟨b, off, none⟩ j) = ⟨b, off + j, none⟩ from fun j => by unfold Addr.add; split <;> simp_all] at this
    rw [show ∀ j, (Addr.add ⟨b, off, none⟩ j) = ⟨b, off + j, none⟩ from fun j => by unfold Addr.add; split <;> simp_all] at this
    have he : (zs.take len)[k]? = zs[k]? := by simp [hkl]
    rw [he, Nat.add_assoc]
    exact this

set_option maxRecDepth 100000 in
set_option maxHeartbeats 4000000 in
theorem spanSums_walk (a : Option Addr) (len cap : Nat) (zs : List (Int × Int)) (w : World) (h : IsPairs .i64 w a len cap zs) :
    Calls Try.prog 5 #[.slice a len cap] w fun e w' => e = .returned (.bool true) ∧ Below w.heap.size w w' := by
  have HL := Lib.hid h.len
  have hs := h.spans
  clear h
  by_cases hbig : 1000 < len
  · have hbig' : 1000 < (len : Int) := by omega
    go_enter Try.func5, Try.ntmps5
    go_wp2_with fail
    refine (awake_any _).mono ?_
    rintro e w3 ⟨rfl, hb3⟩
    go_wp2
    go_ret
    exact ⟨rfl, hb3⟩
  · have hbig' : ¬ 1000 < (len : Int) := by omega
    go_enter Try.func5, Try.ntmps5
    go_wp2_with fail
    refine (sum_any a (zs.take len) len cap _ HL.out (by omega) hs).mono ?_
    rintro e w1 ⟨rfl, hb1⟩
    have hs1 : Spans w1 a (zs.take len) := hs.kept hb1
    unfold res
    go_wp2_with fail
    refine (rSum_any a (zs.take len) len cap _ HL.out (by omega) (hs1.kept (by (repeat' first | exact Below.refl _ _ | with_reducible refine Below.drew ?_ | with_reducible refine Below.drewN ?_ _ | with_reducible refine Below.alloc' ?_ _ | with_reducible refine Below.setCell ?_ (by first | exact Nat.le_refl _ | (simp; done) | (simp; omega)) _ | with_reducible refine Below.after ?_ ‹_›)))).mono ?_
    rintro e w2 ⟨rfl, hb2⟩
    have q1 := kept hb2 (p := ⟨w1.heap.size, 0, none⟩) (v := .int .i64 ((sumV (zs.take len)).1)) (by first | ((repeat' first | with_reducible assumption | with_reducible refine cellA ?_ | with_reducible refine cellD ?_); done) | (simp [go_sem]; done) | (simp [go_sem, *]; done))
    have y1 := World.block_lt_of_cell? _ _ q1
    simp only [] at y1
    have q2 := kept hb2 (p := ⟨w1.heap.size, 1, none⟩) (v := .int .i64 ((sumV (zs.take len)).2.1)) (by first | ((repeat' first | with_reducible assumption | with_reducible refine cellA ?_ | with_reducible refine cellD ?_); done) | (simp [go_sem]; done) | (simp [go_sem, *]; done))
    unfold res
    go_wp2_with fail
    refine (awake_any _).mono ?_
    rintro e w3 ⟨rfl, hb3⟩
    go_wp2
    go_ret
    exact ⟨rfl, by (repeat' first | exact Below.refl _ _ | with_reducible refine Below.drew ?_ | with_reducible refine Below.drewN ?_ _ | with_reducible refine Below.alloc' ?_ _ | with_reducible refine Below.setCell ?_ (by first | exact Nat.le_refl _ | (simp; done) | (simp; omega)) _ | with_reducible refine Below.after ?_ ‹_›)⟩

set_option maxRecDepth 100000 in
set_option maxHeartbeats 8000000 in
theorem spanValid_walk (a b x : Int) (w : World) (_h0 : (Lit.int .i64 a).wf = true) (_h1 : (Lit.int .i64 b).wf = true) (_h2 : (Lit.int .i64 x).wf = true) :
    Calls Try.prog 3 #[.agg #[.int .i64 a, .int .i64 b], .int .i64 x] w fun e w' => e = .returned (.bool true) ∧ Below w.heap.size w w' := by
  clear _h0 _h1 _h2
  go_enter Try.func3, Try.ntmps3
  go_wp2_with fail
  go_region_held3 (fun w' => w'.cell? ⟨w.heap.size, 0, none⟩ = some (.int .i64 a) ∧ w'.cell? ⟨w.heap.size, 1, none⟩ = some (.int .i64 b))
    (first | go_keep | (go_split_ands; refine ⟨?_, ?_⟩ <;> (refine kept ‹Below _ _ _› ?_; assumption)))
    (first
      | (go_at_call 13; refine (valid_any _ _ _).mono ?_; rintro e w1 ⟨rfl, hb1⟩)
      | (go_at_call 14; refine (rValid_any _ _ _).mono ?_; rintro e w2 ⟨rfl, hb2⟩)
      | (go_at_call 15; refine (has_any _ _ _ _).mono ?_; rintro e w3 ⟨rfl, hb3⟩)
      | (go_at_call 16; refine (rHas_any _ _ _ _).mono ?_; rintro e w4 ⟨rfl, hb4⟩)
      | (go_at_call 17; refine (awake_any _).mono ?_; rintro e w5 ⟨rfl, hb5⟩))
  all_goals
    go_wp2
    go_ret
    exact ⟨rfl, by (repeat' first | exact Below.refl _ _ | with_reducible refine Below.drew ?_ | with_reducible refine Below.drewN ?_ _ | with_reducible refine Below.alloc' ?_ _ | with_reducible refine Below.setCell ?_ (by first | exact Nat.le_refl _ | (simp; done) | (simp; omega)) _ | with_reducible refine Below.after ?_ ‹_›)⟩
end Go.Proofs.Ytnehmkdcifgpnaa
