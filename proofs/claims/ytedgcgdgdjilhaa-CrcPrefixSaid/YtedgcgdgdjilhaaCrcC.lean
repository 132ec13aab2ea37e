/-
  Walks over the reference of package crc: Open.
-/
import Derived.Test.YtedgcgdgdjilhaaCrcB
import Derived.Deep.RegionWith
namespace Go.Proofs.Ytedgcgdgdjilhaa
set_option linter.unusedVariables false
set_option linter.unusedSimpArgs false
open Go.RowKit

theorem elem_bytes7 : Try.prog.elem 22 = 5 := by kernel_rfl
theorem und_bytes7 : Try.prog.underlying 22 = some (.slice (Try.prog.elem 22)) := by rw [elem_bytes7]; exact Try.underlying22
theorem size_bytes7 (W : World) : (sizeOf (Try.prog.elem 22)).run Try.prog W = .ok 1 W := by rw [elem_bytes7]; exact Try.sizeOf5 W
theorem str_eq7 (a b : ByteArray) : (a.toList == b.toList) = decide (a = b) := by
  rw [ByteArray.toList_eq, ByteArray.toList_eq, Bool.eq_iff_iff]
  simp
  constructor
  · intro h; exact ByteArray.ext h
  · rintro rfl; rfl
/-- a call that gives back bytes in new memory, a number and an error -/
def GivesOpen (w : World) (r : List UInt8 × Nat × Int) (e : Ending) (w' : World) : Prop := ∃ v, e = .returned (.tuple #[v, .int .i64 (r.2.1 : Int), .int .i64 r.2.2]) ∧ w'.ownsRow w.heap.size 5 1 v r.1.length (bytV r.1) ∧ Below w.heap.size w w'

set_option maxRecDepth 20000 in
set_option maxHeartbeats 8000000 in
theorem rOpen_any (a : Option Addr) (l : List UInt8) (n cap : Nat) (w : World) (hn : l.length = n) (hb : n ≤ 900000) (hcap : n ≤ cap) (hl : Bytes w a l) :
    Calls Try.prog 21 #[.slice a n cap] w (GivesOpen w (openS l)) := by
  obtain ⟨⟨u, k, e⟩, hr⟩ : ∃ r, takeU l = r := ⟨_, rfl⟩
  have HT := Lib.hid (rTakeUint_is hr a n cap w hn (by omega) hl)
  have hI : openS l = if e = 0 then (if 65536 < u then ([], 0, 8) else if l.length < k + u + 4 then ([], 0, 4) else if (l.drop (k + u)).take 4 = tailL (sumS ((l.drop k).take u)) then ((l.drop k).take u, k + u + 4, 0) else ([], 0, 15)) else ([], 0, e) := by unfold openS; rw [hr]
  obtain ⟨R, hR⟩ : ∃ R, openS l = R := ⟨_, rfl⟩
  rw [hR] at hI ⊢
  have HI := Lib.hid hI
  clear hR hI
  by_cases he : e = 0
  · subst he
    obtain ⟨-, hk0, hkl, hu64⟩ := take_back hr
    rw [hn] at hkl
    by_cases h1 : 65536 < u
    · have E := Lib.hid (show R = ([], 0, 8) by rw [HI.out, if_pos rfl, if_pos h1])
      clear hn hl hr
      go_enter Try.func21, Try.ntmps21
      go_wp2_with fail
      refine HT.out.mono ?_
      rintro e w1 ⟨rfl, rfl⟩
      go_wp2
      go_ret3
      exact ⟨.slice none 0 0, by rw [E.out]; rfl, by rw [E.out]; exact World.ownsRow_nil _ _ _ _, Below.refl _ _⟩
    · by_cases h2 : n < k + u + 4
      · have E := Lib.hid (show R = ([], 0, 4) by rw [HI.out, if_pos rfl, if_neg h1, if_pos (by omega)])
        clear hn hl hr
        go_enter Try.func21, Try.ntmps21
        go_wp2_with fail
        refine HT.out.mono ?_
        rintro e w1 ⟨rfl, rfl⟩
        go_wp2
        go_ret3
        exact ⟨.slice none 0 0, by rw [E.out]; rfl, by rw [E.out]; exact World.ownsRow_nil _ _ _ _, Below.refl _ _⟩
      · have HI2 := Lib.hid (show R = if (l.drop (k + u)).take 4 = tailL (sumS ((l.drop k).take u)) then ((l.drop k).take u, k + u + 4, 0) else ([], 0, 15) by rw [HI.out, if_pos rfl, if_neg h1, if_neg (by omega)])
        obtain ⟨p1, hp1, hr1⟩ := part_mid und_bytes7 size_bytes7 hl (n := n) (i := k) (j := k + u) (cap := cap) (I := (k : Int)) (J := (k : Int) + (u : Int)) rfl (by simp) (by omega) (by rw [bytV_length]; omega) (by omega)
        rw [show k + u - k = u by omega, bytV_drop, bytV_take] at hr1
        rw [show k + u - k = u by omega] at hp1
        obtain ⟨p2, hp2, hr2⟩ := part_mid und_bytes7 size_bytes7 hl (n := n) (i := k + u) (j := k + u + 4) (cap := cap) (I := (k : Int) + (u : Int)) (J := (k : Int) + (u : Int) + 4) (by simp) (by simp) (by omega) (by rw [bytV_length]; omega) (by omega)
        rw [show k + u + 4 - (k + u) = 4 by omega, bytV_drop, bytV_take] at hr2
        rw [show k + u + 4 - (k + u) = 4 by omega] at hp2
        have hlD : ((l.drop k).take u).length = u := by rw [List.length_take, List.length_drop]; omega
        have hlT : ((l.drop (k + u)).take 4).length = 4 := by rw [List.length_take, List.length_drop]; omega
        obtain ⟨D, hD⟩ : ∃ D, (l.drop k).take u = D := ⟨_, rfl⟩
        obtain ⟨T, hT⟩ : ∃ T, (l.drop (k + u)).take 4 = T := ⟨_, rfl⟩
        rw [hD, hT] at HI2
        rw [hD] at hr1 hlD
        rw [hT] at hr2 hlT
        have HD := Lib.hid hlD
        have HR1 := Lib.hid hr1
        obtain ⟨S1, hS1⟩ : ∃ S, (⟨T.toArray⟩ : ByteArray) = S := ⟨_, rfl⟩
        obtain ⟨S2, hS2⟩ : ∃ S, (⟨(tailL (sumS D)).toArray⟩ : ByteArray) = S := ⟨_, rfl⟩
        have Hc1 := Lib.hid (fun (W : World) (h : Below w.heap.size w W) => show (convert 22 9 (.slice p2 4 (cap - (k + u)))).run Try.prog W = .ok (.string S1) W by rw [← hS1]; exact run_string_bytes Try.underlying22 Try.underlying5 Try.underlying9 W p2 T 4 (cap - (k + u)) hlT (hr2.kept h))
        have Hc2 := Lib.hid (fun (W : World) (b : Option Addr) (h : Bytes W b (tailL (sumS D))) => show (convert 22 9 (.slice b 4 4)).run Try.prog W = .ok (.string S2) W by rw [← hS2]; exact run_string_bytes Try.underlying22 Try.underlying5 Try.underlying9 W b (tailL (sumS D)) 4 4 rfl h)
        have hsl := extS_lt 0 D
        have i1 : (u : Int) + 4 ≤ (n : Int) - (k : Int) := by omega
        have hu1 : u ≤ 65536 := by omega
        clear hn hl hr hr1 hr2 hD hT h1 hlD hlT
        go_enter Try.func21, Try.ntmps21
        go_wp2_with fail
        refine HT.out.mono ?_
        rintro e w1 ⟨rfl, rfl⟩
        go_wp2_with (at_builtin; refine wpList_append_reads rfl (.tmp 30) (.tmp 36) Try.underlying22 info_byte rfl (by omega) rfl w.heap.size (.slice (some ⟨w.heap.size, 0, none⟩) 0 0) 0 [] rfl (own_made w _ rfl (Nat.le_refl _)) p1 u (cap - k) (bytV D) rfl (by rw [bytV_length]; exact HD.out) (HR1.out.kept ((Below.refl _ w).alloc (Nat.le_refl _) _)) (bytV_one D) (by omega) (by simp) ?_; intro v1 w1 o1 g1 e1)
        have hB1 : Below w.heap.size w w1 := below_grown (Below.refl _ w) g1 (fun g hg => by simp [Value.ownBlock] at hg; omega)
        rw [Nat.zero_add, List.nil_append] at o1
        have O1 := Lib.hid o1
        obtain ⟨b1, c1, rfl, -, hD1, -⟩ := own_reads o1
        have CS := Lib.hid (rSum_any b1 D u c1 w1.drew HD.out (by omega) hD1)
        have CT := Lib.hid (rTail_any (sumS D) w1.drew hsl)
        have i2 : decide ((k : Int) + (u : Int) < 0) = false := decide_eq_false (by omega)
        have i3 : decide (cap < k + u + 4) = false := decide_eq_false (by omega)
        have i4 : decide ((cap : Int) < (k : Int) + (u : Int) + 4) = false := decide_eq_false (by omega)
        have i5 : decide ((k : Int) + (u : Int) + 4 < (k : Int) + (u : Int)) = false := decide_eq_false (by omega)
        have i6 : decide (k + u + 4 < k + u) = false := decide_eq_false (by omega)
        have hw1 : IntKind.i64.wrap ((k : Int) + (u : Int)) = (k : Int) + (u : Int) := IntWalk.i64_in _ (by omega)
        have hw2 : IntKind.i64.wrap ((k : Int) + (u : Int) + 4) = (k : Int) + (u : Int) + 4 := IntWalk.i64_in _ (by omega)
        have i7 : decide ((n : Int) < (k : Int) + (u : Int) + 4) = false := decide_eq_false (by omega)
        have hs1 := hB1.size
        clear o1 hD1 g1 e1
        by_cases hq : T = tailL (sumS D)
        · have E := Lib.hid (show R = (D, k + u + 4, 0) by rw [HI2.out, if_pos hq])
          have hts : (S1.toList == S2.toList) = true := by rw [← hS1, ← hS2, hq]; simp
          clear hq hS1 hS2
          go_region_held (fun W => (convert 22 9 (.slice p2 4 (cap - (k + u)))).run Try.prog W = .ok (.string S1) W) ((refine Hc1.out _ (hB1.trans ((?_ : Below w1.heap.size w1 _).mono hB1.size)); ((repeat' first | with_reducible assumption | exact Below.refl _ _ | with_reducible refine Below.drew ?_ | with_reducible refine Below.drewN ?_ _ | with_reducible refine Below.alloc' ?_ _ | with_reducible refine Below.setCell ?_ (by first | exact Nat.le_refl _ | omega | (simp; done) | (simp; omega)) _ | with_reducible refine Below.after ?_ ‹_›)); done)) (first
            | (go_at_call 13; (with_reducible refine CS.out.mono ?_); rintro e3 w8 ⟨rfl, rfl⟩)
            | (go_at_call 29; (with_reducible refine CT.out.mono ?_); rintro e3 w8 ⟨b8, rfl, hi8, hb8⟩; have hv8 := Hc2.out _ _ hi8))
          all_goals go_wp2_with fail
          all_goals go_ret3
          all_goals refine ⟨.slice b1 u c1, by rw [E.out]; rfl, by rw [E.out]; show World.ownsRow _ _ _ _ _ D.length _; rw [HD.out]; exact own_kept O1.out (by (repeat' first | with_reducible assumption | exact Below.refl _ _ | with_reducible refine Below.drew ?_ | with_reducible refine Below.drewN ?_ _ | with_reducible refine Below.alloc' ?_ _ | with_reducible refine Below.setCell ?_ (by first | exact Nat.le_refl _ | omega | (simp; done) | (simp; omega)) _ | with_reducible refine Below.after ?_ ‹_›)), hB1.trans ((?_ : Below w1.heap.size w1 _).mono hB1.size)⟩
          all_goals (repeat' first | with_reducible assumption | exact Below.refl _ _ | with_reducible refine Below.drew ?_ | with_reducible refine Below.drewN ?_ _ | with_reducible refine Below.alloc' ?_ _ | with_reducible refine Below.setCell ?_ (by first | exact Nat.le_refl _ | omega | (simp; done) | (simp; omega)) _ | with_reducible refine Below.after ?_ ‹_›)
        · have E := Lib.hid (show R = ([], 0, 15) by rw [HI2.out, if_neg hq])
          have hne : S1 ≠ S2 := by
            rw [← hS1, ← hS2]
            intro h
            exact hq (by simpa using congrArg (fun b : ByteArray => b.data.toList) h)
          have hts : (S1.toList == S2.toList) = false := by rw [str_eq7]; simpa using hne
          clear hq hS1 hS2 hne
          go_region_held (fun W => (convert 22 9 (.slice p2 4 (cap - (k + u)))).run Try.prog W = .ok (.string S1) W) ((refine Hc1.out _ (hB1.trans ((?_ : Below w1.heap.size w1 _).mono hB1.size)); ((repeat' first | with_reducible assumption | exact Below.refl _ _ | with_reducible refine Below.drew ?_ | with_reducible refine Below.drewN ?_ _ | with_reducible refine Below.alloc' ?_ _ | with_reducible refine Below.setCell ?_ (by first | exact Nat.le_refl _ | omega | (simp; done) | (simp; omega)) _ | with_reducible refine Below.after ?_ ‹_›)); done)) (first
            | (go_at_call 13; (with_reducible refine CS.out.mono ?_); rintro e3 w8 ⟨rfl, rfl⟩)
            | (go_at_call 29; (with_reducible refine CT.out.mono ?_); rintro e3 w8 ⟨b8, rfl, hi8, hb8⟩; have hv8 := Hc2.out _ _ hi8))
          all_goals go_wp2_with fail
          all_goals go_ret3
          all_goals refine ⟨.slice none 0 0, by rw [E.out]; rfl, by rw [E.out]; exact World.ownsRow_nil _ _ _ _, hB1.trans ((?_ : Below w1.heap.size w1 _).mono hB1.size)⟩
          all_goals (repeat' first | with_reducible assumption | exact Below.refl _ _ | with_reducible refine Below.drew ?_ | with_reducible refine Below.drewN ?_ _ | with_reducible refine Below.alloc' ?_ _ | with_reducible refine Below.setCell ?_ (by first | exact Nat.le_refl _ | omega | (simp; done) | (simp; omega)) _ | with_reducible refine Below.after ?_ ‹_›)
  · have E := Lib.hid (show R = ([], 0, e) by rw [HI.out, if_neg he])
    have e0 : (e != 0) = true := by simpa using he
    clear he hn hl hr
    go_enter Try.func21, Try.ntmps21
    go_wp2_with fail
    refine HT.out.mono ?_
    rintro e w1 ⟨rfl, rfl⟩
    go_wp2
    go_ret3
    exact ⟨.slice none 0 0, by rw [E.out]; rfl, by rw [E.out]; exact World.ownsRow_nil _ _ _ _, Below.refl _ _⟩
end Go.Proofs.Ytedgcgdgdjilhaa
