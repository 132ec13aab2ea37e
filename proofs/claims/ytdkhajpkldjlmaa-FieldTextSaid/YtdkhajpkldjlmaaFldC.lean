/-
  Walks over the reference of package field: take.
-/
import Derived.Test.YtdkhajpkldjlmaaFldB
import Derived.IntWalk
namespace Go.Proofs.Ytdkhajpkldjlmaa
set_option linter.unusedVariables false
set_option linter.unusedSimpArgs false
open Go.RowKit

theorem unq_end (s : ByteArray) (k : Nat) (h : ¬ k < s.size) : unq (s.data.toList.drop k) = ([], []) := by rw [tail_end s k h]; rfl
theorem unq_close (s : ByteArray) (k : Nat) (h : k < s.size) (hc : (s[k]'h).toNat = 34) : unq (s.data.toList.drop k) = ([], s.data.toList.drop (k + 1)) := by
  rw [tail_at s k h, unq_quote hc]
theorem unq_back (s : ByteArray) (k : Nat) (h : k + 1 < s.size) (hc : (s[k]'(by omega)).toNat = 92) : unq (s.data.toList.drop k) = ((s[k + 1]'h) :: (unq (s.data.toList.drop (k + 2))).1, (unq (s.data.toList.drop (k + 2))).2) := by
  rw [tail_at s k (by omega), tail_at s (k + 1) h, unq_esc hc]
theorem unq_back1 (s : ByteArray) (k : Nat) (h : k < s.size) (h1 : ¬ k + 1 < s.size) (hc : (s[k]'h).toNat = 92) : unq (s.data.toList.drop k) = ((s[k]'h) :: (unq (s.data.toList.drop (k + 1))).1, (unq (s.data.toList.drop (k + 1))).2) := by
  rw [tail_at s k h, tail_end s (k + 1) h1, unq_last hc]
  rfl
theorem unq_other (s : ByteArray) (k : Nat) (h : k < s.size) (h1 : (s[k]'h).toNat ≠ 34) (h2 : (s[k]'h).toNat ≠ 92) : unq (s.data.toList.drop k) = ((s[k]'h) :: (unq (s.data.toList.drop (k + 1))).1, (unq (s.data.toList.drop (k + 1))).2) := by
  rw [tail_at s k h, unq_else h1 h2]

set_option maxRecDepth 20000 in
set_option maxHeartbeats 4000000 in
theorem rTake_any (s : ByteArray) (w : World) (hs : s.size ≤ 1000000) :
    Calls Try.prog 23 #[.string s] w fun e w' => e = .returned (.tuple #[.string (ofL (takeL s.data.toList).1), .string (ofL (takeL s.data.toList).2)]) ∧ Below w.heap.size w w' := by
  obtain ⟨R, hR⟩ : ∃ R, takeL s.data.toList = R := ⟨_, rfl⟩
  have HR := Lib.hid hR
  rw [hR]
  clear hR
  by_cases hq : ∀ h : 0 < s.size, (s[0]'h).toNat ≠ 34
  · have HP := Lib.hid (takeL_plain s hq)
    have Hq := Lib.hid hq
    clear hq
    have fin : ∀ (k : Nat), k ≤ s.size → (s.data.toList.take k).all notSp = true → (∀ h : k < s.size, (s[k]'h).toNat = 32) → ∀ (a b : ByteArray), a.data.toList = s.data.toList.take k → b.data.toList = s.data.toList.drop k → Value.tuple #[.string a, .string b] = Value.tuple #[.string (ofL R.1), .string (ofL R.2)] := by
      intro k hk hall hend a b ha hb
      obtain ⟨h1, h2⟩ := span_at s k hall hend
      have h3 : R = (s.data.toList.take k, s.data.toList.drop k) := by rw [← HR.out, HP.out, h1, h2]
      rw [h3, ofL_of ha, ofL_of hb]
    have Fin := Lib.hid fin
    clear fin
    by_cases h0 : 0 < s.size
    · obtain ⟨e1, e2⟩ := ne_empty h0
      have hne := Hq.out h0
      obtain ⟨y0, hy0⟩ : ∃ y : Nat, (s[0]'h0).toNat = y := ⟨_, rfl⟩
      have n0 : ((y0 : Int) != 34) = true := by rw [hy0] at hne; simpa using (by omega : (y0 : Int) ≠ 34)
      clear hne
      go_enter Try.func23, Try.ntmps23
      go_wp2
      go_loop [5] (fun i => ∃ k : Nat, k ≤ s.size ∧ i = .int .i64 k ∧ Hid ((s.data.toList.take k).all notSp = true)) (fun i => s.size - (intOf i).toNat)
      case atStart => exact ⟨0, Nat.zero_le _, rfl, rfl⟩
      case round =>
        obtain ⟨k, hk, rfl, Hall⟩ := hrel
        clear e1 e2 n0 hy0
        obtain ⟨a, ha, hza, hsa⟩ := slice_to s k hk
        obtain ⟨b, hb, hzb, hsb⟩ := slice_drop s k hk
        have Ha := Lib.hid ha
        have Hb := Lib.hid hb
        clear ha hb hza hzb
        by_cases hlt : k < s.size
        · have Hx := Lib.hid (all_take notSp s k hlt)
          obtain ⟨y, hy⟩ : ∃ y : Nat, (s[k]'hlt).toNat = y := ⟨_, rfl⟩
          have Hy := Lib.hid hy
          have hu : y < 256 := by rw [← hy]; exact (s[k]'hlt).toNat_lt
          by_cases h2 : y = 32
          · have n1 : ((y : Int) != 32) = false := by simp; omega
            have E := Lib.hid (Fin.out k hk Hall.out (fun h => by rw [Hy.out]; exact h2) a b Ha.out Hb.out)
            clear h2
            go_wp2_with fail
            go_quiet (fail)
            go_wp2
            go_ret2
            exact ⟨by rw [← E.out]; rfl, by (repeat' first | with_reducible assumption | exact Below.refl _ _ | with_reducible refine Below.drew ?_ | with_reducible refine Below.drewN ?_ _ | with_reducible refine Below.alloc' ?_ _ | with_reducible refine Below.setCell ?_ (by first | exact Nat.le_refl _ | omega | (simp; done) | (simp; omega)) _ | with_reducible refine Below.after ?_ ‹_›)⟩
          · have n1 : ((y : Int) != 32) = true := by simpa using (by omega : (y : Int) ≠ 32)
            have E := Lib.hid (show (s.data.toList.take (k + 1)).all notSp = true by rw [Hx.out, Hall.out]; simp [notSp, Hy.out, h2])
            clear h2
            go_wp2
            go_round
            case rel => exact ⟨k + 1, by omega, by go_num, E⟩
            case measure => simp [intOf]; omega
        · have E := Lib.hid (Fin.out k hk Hall.out (fun h => absurd h hlt) a b Ha.out Hb.out)
          go_wp2_with fail
          go_quiet (fail)
          go_wp2
          go_ret2
          exact ⟨by rw [← E.out]; rfl, by (repeat' first | with_reducible assumption | exact Below.refl _ _ | with_reducible refine Below.drew ?_ | with_reducible refine Below.drewN ?_ _ | with_reducible refine Below.alloc' ?_ _ | with_reducible refine Below.setCell ?_ (by first | exact Nat.le_refl _ | omega | (simp; done) | (simp; omega)) _ | with_reducible refine Below.after ?_ ‹_›)⟩
    · obtain rfl := is_empty (s := s) (by omega)
      have E := Lib.hid (show R = ([], []) by rw [← HR.out]; rfl)
      clear h0
      go_enter Try.func23, Try.ntmps23
      go_wp2
      go_loop [5] (fun i => i = .int .i64 0) (fun _ => 0)
      case atStart => exact rfl
      case round =>
        obtain rfl := hrel
        go_wp2_with fail
        go_quiet (fail)
        go_wp2
        go_ret2
        exact ⟨by rw [E.out]; rfl, by (repeat' first | with_reducible assumption | exact Below.refl _ _ | with_reducible refine Below.drew ?_ | with_reducible refine Below.drewN ?_ _ | with_reducible refine Below.alloc' ?_ _ | with_reducible refine Below.setCell ?_ (by first | exact Nat.le_refl _ | omega | (simp; done) | (simp; omega)) _ | with_reducible refine Below.after ?_ ‹_›)⟩
  · have ⟨h0, hq0⟩ : ∃ h : 0 < s.size, (s[0]'h).toNat = 34 := by
      apply Classical.byContradiction
      intro hne
      exact hq (fun h e => hne ⟨h, e⟩)
    clear hq
    have HQ := Lib.hid (takeL_quote s h0 hq0)
    obtain ⟨e1, e2⟩ := ne_empty h0
    obtain ⟨y0, hy0⟩ : ∃ y : Nat, (s[0]'h0).toNat = y := ⟨_, rfl⟩
    have n0 : ((y0 : Int) != 34) = false := by have : y0 = 34 := hy0.symm.trans hq0; simp; omega
    clear hq0
    go_enter Try.func23, Try.ntmps23
    go_wp2
    go_loop [4, 6] (fun t i => ∃ (k : Nat) (o : ByteArray), 1 ≤ k ∧ k ≤ s.size ∧ i = .int .i64 k ∧ t = .string o ∧ o.size ≤ k ∧ Hid (R = (o.data.toList ++ (unq (s.data.toList.drop k)).1, (unq (s.data.toList.drop k)).2))) (fun _ i => s.size - (intOf i).toNat)
    case atStart => exact ⟨1, _, Nat.le_refl _, by omega, rfl, rfl, by decide, by rw [← HR.out, HQ.out]; rfl⟩
    case round =>
      obtain ⟨k, o, hk1, hk, rfl, rfl, ho, Ho⟩ := hrel
      clear e1 e2 n0 hy0 h0
      by_cases hlt : k < s.size
      · obtain ⟨y, hy⟩ : ∃ y : Nat, (s[k]'hlt).toNat = y := ⟨_, rfl⟩
        have Hy := Lib.hid hy
        have hu : y < 256 := by rw [← hy]; exact (s[k]'hlt).toNat_lt
        have hwr : IntKind.i64.wrap ((k : Int) + 1) = (k : Int) + 1 := IntWalk.i64_in _ (by omega)
        by_cases h3 : y = 34
        · have n1 : ((y : Int) != 34) = false := by simp; omega
          have hmin : min ((k : Int) + 1) (s.size : Int) = (k : Int) + 1 := by omega
          have E := Lib.hid (show R = (o.data.toList, (s.extract (k + 1) s.size).data.toList) by
            rw [Ho.out, unq_close s k hlt (by rw [Hy.out]; exact h3), ext_data, List.take_of_length_le (by simp)]; simp)
          clear h3
          go_wp2_with fail
          go_quiet (fail)
          go_wp2
          go_ret2
          exact ⟨by rw [E.out]; rfl, by (repeat' first | with_reducible assumption | exact Below.refl _ _ | with_reducible refine Below.drew ?_ | with_reducible refine Below.drewN ?_ _ | with_reducible refine Below.alloc' ?_ _ | with_reducible refine Below.setCell ?_ (by first | exact Nat.le_refl _ | omega | (simp; done) | (simp; omega)) _ | with_reducible refine Below.after ?_ ‹_›)⟩
        · have n1 : ((y : Int) != 34) = true := by simpa using (by omega : (y : Int) ≠ 34)
          clear hwr
          by_cases h4 : y = 92
          · have n2 : ((y : Int) == 92) = true := by simp; omega
            by_cases hl2 : k + 1 < s.size
            · obtain ⟨a, ha, hz, hsl⟩ := mid_one s (k + 1) hl2
              have E := Lib.hid (show R = ((o ++ a).data.toList ++ (unq (s.data.toList.drop (k + 2))).1, (unq (s.data.toList.drop (k + 2))).2) by
                rw [Ho.out, unq_back s k hl2 (by rw [Hy.out]; exact h4), data_app, ha]; simp)
              have z2 := Lib.hid (show (o ++ a).size = o.size + 1 by rw [ByteArray.size_append, hz])
              have hsl' : ∀ (W : World), (Instr.slice 9 (.string s) (some (.int .i64 ((k : Int) + 1))) (some (.int .i64 ((k : Int) + 1 + 1))) none).run Try.prog W = .ok (.string a) W := hsl
              clear ha hsl h3 h4
              go_wp2
              go_round
              case rel => exact ⟨k + 2, _, by omega, by omega, by go_num, rfl, by rw [z2.out]; omega, E⟩
              case measure => simp [intOf]; omega
            · obtain ⟨a, ha, hz, hsl⟩ := mid_one s k hlt
              have E := Lib.hid (show R = ((o ++ a).data.toList ++ (unq (s.data.toList.drop (k + 1))).1, (unq (s.data.toList.drop (k + 1))).2) by
                rw [Ho.out, unq_back1 s k hlt hl2 (by rw [Hy.out]; exact h4), data_app, ha]; simp)
              have z2 := Lib.hid (show (o ++ a).size = o.size + 1 by rw [ByteArray.size_append, hz])
              clear ha h3 h4
              go_wp2
              go_round
              case rel => exact ⟨k + 1, _, by omega, by omega, by go_num, rfl, by rw [z2.out]; omega, E⟩
              case measure => simp [intOf]; omega
          · have n2 : ((y : Int) == 92) = false := by simp; omega
            obtain ⟨a, ha, hz, hsl⟩ := mid_one s k hlt
            have E := Lib.hid (show R = ((o ++ a).data.toList ++ (unq (s.data.toList.drop (k + 1))).1, (unq (s.data.toList.drop (k + 1))).2) by
              rw [Ho.out, unq_other s k hlt (by rw [Hy.out]; exact h3) (by rw [Hy.out]; exact h4), data_app, ha]; simp)
            have z2 := Lib.hid (show (o ++ a).size = o.size + 1 by rw [ByteArray.size_append, hz])
            clear ha h3 h4
            go_wp2
            go_round
            case rel => exact ⟨k + 1, _, by omega, by omega, by go_num, rfl, by rw [z2.out]; omega, E⟩
            case measure => simp [intOf]; omega
      · obtain ⟨b, hb, hzb, hsb⟩ := slice_drop s s.size (Nat.le_refl _)
        have hwr : IntKind.i64.wrap ((k : Int) + 1) = (k : Int) + 1 := IntWalk.i64_in _ (by omega)
        have hmin : min ((k : Int) + 1) (s.size : Int) = (s.size : Int) := by omega
        have E := Lib.hid (show R = (o.data.toList, b.data.toList) by
          rw [Ho.out, unq_end s k hlt, hb, tail_end s s.size (Nat.lt_irrefl _)]; simp)
        clear hb hzb
        go_wp2_with fail
        go_quiet (fail)
        go_wp2
        go_ret2
        exact ⟨by rw [E.out]; rfl, by (repeat' first | with_reducible assumption | exact Below.refl _ _ | with_reducible refine Below.drew ?_ | with_reducible refine Below.drewN ?_ _ | with_reducible refine Below.alloc' ?_ _ | with_reducible refine Below.setCell ?_ (by first | exact Nat.le_refl _ | omega | (simp; done) | (simp; omega)) _ | with_reducible refine Below.after ?_ ‹_›)⟩
end Go.Proofs.Ytdkhajpkldjlmaa
