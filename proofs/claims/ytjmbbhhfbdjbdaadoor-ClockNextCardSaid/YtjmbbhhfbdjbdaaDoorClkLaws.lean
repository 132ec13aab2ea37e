/-
  Walks over the laws of package clock: Dates.
-/
import Derived.Test.YtjmbbhhfbdjbdaaDoorClkK
namespace Go.Proofs.YtjmbbhhfbdjbdaaDoor
open Go.RowKit

theorem pairs_lit (w : World) (l : List (Int × Int)) (t : TypeId) : Pairs (w.alloc (.cells (flat l).toArray t)) (some ⟨w.heap.size, 0, none⟩) l := by
  intro _
  refine ⟨w.heap.size, 0, rfl, fun k hk => ?_⟩
  obtain ⟨e0, e1⟩ := flat_at l k hk
  constructor
  · simp [go_sem, e0]
  · simp [go_sem, e1]

def wk0 : List (Int × Int) := [(28800, 43200), (0, 0), (0, 0), (0, 0), (0, 0), (0, 0), (0, 0)]
theorem week0 : IsWeek #[.int .i64 28800, .int .i64 43200, .int .i64 0, .int .i64 0, .int .i64 0, .int .i64 0, .int .i64 0, .int .i64 0, .int .i64 0, .int .i64 0, .int .i64 0, .int .i64 0, .int .i64 0, .int .i64 0] wk0 :=
  ⟨rfl, rfl, fun k hk => by
    match k, hk with
    | 0, _ => exact ⟨rfl, rfl⟩
    | 1, _ => exact ⟨rfl, rfl⟩
    | 2, _ => exact ⟨rfl, rfl⟩
    | 3, _ => exact ⟨rfl, rfl⟩
    | 4, _ => exact ⟨rfl, rfl⟩
    | 5, _ => exact ⟨rfl, rfl⟩
    | 6, _ => exact ⟨rfl, rfl⟩⟩
theorem next0 : NextIs wk0 43200 633600 0 :=
  next_found (wk := wk0) (t := 43200) (d := 7) (by decide) rfl (by decide) (by decide) (by decide) (fun i h1 h2 => by
    have h3 : (43200 : Int) / 86400 = 0 := by decide
    rw [h3] at h1
    have : i = 0 ∨ i = 1 ∨ i = 2 ∨ i = 3 ∨ i = 4 ∨ i = 5 ∨ i = 6 := by omega
    rcases this with rfl | rfl | rfl | rfl | rfl | rfl | rfl <;> decide)

set_option maxRecDepth 100000 in
set_option maxHeartbeats 4000000 in
theorem clkAwake_any (K : ClkCon) (w : World) (hT : Tabs w) :
    Calls Tryd.prog 16 #[] w fun e w' => e = .returned (.bool true) ∧ Below w.heap.size w w' := by
  have d1 := K.date 90061 w
  rw [show dateS 90061 = (1, 3661, 0) by decide] at d1
  go_enter Tryd.func16, Tryd.ntmps16
  go_wp2_with fail
  refine d1.mono ?_
  rintro e w1 ⟨rfl, hb1⟩
  clear d1
  go_wp2_with fail
  have d2 := K.format 90061 w1 (hT.on hb1)
  rw [show formatC 90061 = ([49, 32, 48, 49, 58, 48, 49, 58, 48, 49], 0) by decide] at d2
  refine d2.mono ?_
  rintro e w2 ⟨rfl, hb2⟩
  clear d2
  unfold str
  go_wp2_with fail
  have d3 := K.parse ⟨#[49, 32, 48, 49, 58, 48, 49, 58, 48, 49]⟩ w2 (by decide) (hT.on (by (repeat' first | with_reducible assumption | exact Below.refl _ _ | with_reducible refine Below.drew ?_ | with_reducible refine Below.drewN ?_ _ | with_reducible refine Below.alloc' ?_ _ | with_reducible refine Below.setCell ?_ (by first | exact Nat.le_refl _ | omega | (simp; done) | (simp; omega)) _ | with_reducible refine Below.after ?_ ‹_›)))
  rw [show parseC (⟨#[49, 32, 48, 49, 58, 48, 49, 58, 48, 49]⟩ : ByteArray).data.toList = (90061, 0) from parseC_yes (by decide) (by decide)] at d3
  refine d3.mono ?_
  rintro e w3 ⟨rfl, hb3⟩
  clear d3
  go_wp2_with fail
  have p4 := pairs_lit w3 [(5, 9), (0, 5), (7, 7), (20, 30)] 40
  have d4 := K.merge (some ⟨w3.heap.size, 0, none⟩) [(5, 9), (0, 5), (7, 7), (20, 30)] 4 4 _ rfl (by decide) p4
  rw [show mrg [(5, 9), (0, 5), (7, 7), (20, 30)] = ([(0, 9), (20, 30)], 0) by decide] at d4
  refine d4.mono ?_
  rintro e w4 ⟨b, c, rfl, hp, hb4⟩
  clear d4 p4
  simp only [List.length_cons, List.length_nil]
  go_wp2_with fail
  refine (K.next _ _ _ _ week0).mono ?_
  rintro e w5 ⟨n, e', rfl, hx, hb5⟩
  obtain ⟨rfl, rfl⟩ := next_unique hx next0
  clear hx
  have hp := hp.kept hb5
  go_wp2_with fail
  have d6 := rSame_any b (some ⟨w5.heap.size, 0, none⟩) [(0, 9), (20, 30)] [(0, 9), (20, 30)] 2 2 c 2 _ rfl rfl (by decide) (by decide) (hp.kept ((Below.refl _ _).alloc' _)) (pairs_lit w5 [(0, 9), (20, 30)] 40)
  rw [show sameB [(0, 9), (20, 30)] [(0, 9), (20, 30)] = true by decide] at d6
  refine d6.mono ?_
  rintro e w6 ⟨rfl, hb6⟩
  clear d6
  go_wp2
  go_ret
  exact ⟨rfl, by (repeat' first | with_reducible assumption | exact Below.refl _ _ | with_reducible refine Below.drew ?_ | with_reducible refine Below.drewN ?_ _ | with_reducible refine Below.alloc' ?_ _ | with_reducible refine Below.setCell ?_ (by first | exact Nat.le_refl _ | omega | (simp; done) | (simp; omega)) _ | with_reducible refine Below.after ?_ ‹_›)⟩
end Go.Proofs.YtjmbbhhfbdjbdaaDoor
