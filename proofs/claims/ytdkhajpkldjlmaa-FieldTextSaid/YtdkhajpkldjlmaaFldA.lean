/-
  Walks over the reference of package field: plain, fault, Written.
-/
import Derived.Test.YtdkhajpkldjlmaaFldU
namespace Go.Proofs.Ytdkhajpkldjlmaa
set_option linter.unusedVariables false
set_option linter.unusedSimpArgs false
open Go.RowKit

set_option maxRecDepth 20000 in
set_option maxHeartbeats 2000000 in
theorem rPlain_any (s : ByteArray) (w : World) (hs : s.size ≤ 1000000) :
    Calls Try.prog 35 #[.string s] w fun e w' => e = .returned (.bool (plainL s.data.toList)) ∧ w = w' := by
  go_enter Try.func35, Try.ntmps35
  go_wp2
  go_loop [3] (fun i => ∃ k : Nat, k ≤ s.size ∧ i = .int .i64 k ∧ Hid ((s.data.toList.take k).all (fun c => !need c) = true)) (fun i => s.size - (intOf i).toNat)
  case atStart => exact ⟨0, Nat.zero_le _, rfl, rfl⟩
  case round =>
    obtain ⟨k, hk, rfl, Hall⟩ := hrel
    by_cases hlt : k < s.size
    · have Hx := Lib.hid (all_take (fun c => !need c) s k hlt)
      have Hn := Lib.hid (all_not (fun c => !need c) s k hlt)
      obtain ⟨y, hy⟩ : ∃ y : Nat, (s[k]'hlt).toNat = y := ⟨_, rfl⟩
      have Hy := Lib.hid hy
      have hu : y < 256 := by rw [← hy]; exact (s[k]'hlt).toNat_lt
      by_cases h3 : y = 32 ∨ y = 34 ∨ y = 92
      · have E := Lib.hid (show plainL s.data.toList = false by
          unfold plainL
          rw [Hn.out (by simp [need, Hy.out]; omega), Bool.and_false])
        rcases h3 with h3 | h3 | h3
        · have n1 : ((y : Int) == 32) = true := by simp; omega
          clear h3
          go_wp2
          go_ret
          exact ⟨by rw [E.out]; rfl, rfl⟩
        · have n1 : ((y : Int) == 32) = false := by simp; omega
          have n2 : ((y : Int) == 34) = true := by simp; omega
          clear h3
          go_wp2
          go_ret
          exact ⟨by rw [E.out]; rfl, rfl⟩
        · have n1 : ((y : Int) == 32) = false := by simp; omega
          have n2 : ((y : Int) == 34) = false := by simp; omega
          have n3 : ((y : Int) == 92) = true := by simp; omega
          clear h3
          go_wp2
          go_ret
          exact ⟨by rw [E.out]; rfl, rfl⟩
      · obtain ⟨n1, n2, n3⟩ := bytes3 h3
        have E := Lib.hid (show (s.data.toList.take (k + 1)).all (fun c => !need c) = true by rw [Hx.out, Hall.out]; simp [need, Hy.out]; omega)
        clear h3
        go_wp2
        go_round
        case rel => exact ⟨k + 1, by omega, by go_num, E⟩
        case measure => simp [intOf]; omega
    · have Hd := Lib.hid (all_end _ s k hlt Hall.out)
      by_cases h0 : s.size = 0
      · obtain rfl := is_empty h0
        clear h0
        go_wp2
        go_ret
        exact ⟨rfl, rfl⟩
      · obtain ⟨e1, e2⟩ := ne_empty (s := s) (by omega)
        have E := Lib.hid (show plainL s.data.toList = true by
          unfold plainL
          rw [Hd.out]
          rw [ByteArray.toList_eq] at e1
          simp [e1])
        go_wp2
        go_ret
        exact ⟨by rw [E.out]; rfl, rfl⟩
theorem rPlain_is {s : ByteArray} {r : Bool} (h : plainL s.data.toList = r) (w : World) (hs : s.size ≤ 1000000) :
    Calls Try.prog 35 #[.string s] w fun e w' => e = .returned (.bool r) ∧ w = w' := by
  have := rPlain_any s w hs
  rwa [h] at this

set_option maxRecDepth 20000 in
set_option maxHeartbeats 2000000 in
theorem rFault_any (s : ByteArray) (w : World) (hs : s.size ≤ 1000000) :
    Calls Try.prog 26 #[.string s] w fun e w' => e = .returned (.int .i64 (faultL s.data.toList)) ∧ w = w' := by
  have hl : s.data.toList.length = s.size := rfl
  by_cases h1 : 256 < s.size
  · have E := Lib.hid (show faultL s.data.toList = 8 by unfold faultL; rw [hl, if_pos h1])
    clear hl
    go_enter Try.func26, Try.ntmps26
    go_wp2
    go_ret
    exact ⟨by rw [E.out]; rfl, rfl⟩
  · have HF := Lib.hid (show ∀ r, s.data.toList.all okC = r → faultL s.data.toList = if r then 0 else 3 from fun r hr => by unfold faultL; rw [hl, if_neg h1, hr])
    clear hl
    go_enter Try.func26, Try.ntmps26
    go_wp2
    go_loop [3] (fun i => ∃ k : Nat, k ≤ s.size ∧ i = .int .i64 k ∧ Hid ((s.data.toList.take k).all okC = true)) (fun i => s.size - (intOf i).toNat)
    case atStart => exact ⟨0, Nat.zero_le _, rfl, rfl⟩
    case round =>
      obtain ⟨k, hk, rfl, Hall⟩ := hrel
      by_cases hlt : k < s.size
      · have Hx := Lib.hid (all_take okC s k hlt)
        have Hn := Lib.hid (all_not okC s k hlt)
        obtain ⟨y, hy⟩ : ∃ y : Nat, (s[k]'hlt).toNat = y := ⟨_, rfl⟩
        have Hy := Lib.hid hy
        have hu : y < 256 := by rw [← hy]; exact (s[k]'hlt).toNat_lt
        by_cases h2 : y < 32
        · have E := Lib.hid (show faultL s.data.toList = 3 from HF.out false (Hn.out (by simp [okC, Hy.out]; omega)))
          go_wp2
          go_ret
          exact ⟨by rw [E.out]; rfl, rfl⟩
        · by_cases h3 : 126 < y
          · have E := Lib.hid (show faultL s.data.toList = 3 from HF.out false (Hn.out (by simp [okC, Hy.out]; omega)))
            go_wp2
            go_ret
            exact ⟨by rw [E.out]; rfl, rfl⟩
          · have E := Lib.hid (show (s.data.toList.take (k + 1)).all okC = true by rw [Hx.out, Hall.out]; simp [okC, Hy.out]; omega)
            go_wp2
            go_round
            case rel => exact ⟨k + 1, by omega, by go_num, E⟩
            case measure => simp [intOf]; omega
      · have E := Lib.hid (show faultL s.data.toList = 0 from HF.out true (all_end _ s k hlt Hall.out))
        go_wp2
        go_ret
        exact ⟨by rw [E.out]; rfl, rfl⟩
theorem rFault_is {s : ByteArray} {r : Int} (h : faultL s.data.toList = r) (w : World) (hs : s.size ≤ 1000000) :
    Calls Try.prog 26 #[.string s] w fun e w' => e = .returned (.int .i64 r) ∧ w = w' := by
  have := rFault_any s w hs
  rwa [h] at this

set_option maxRecDepth 20000 in
set_option maxHeartbeats 2000000 in
theorem rWritten_any (s : ByteArray) (w : World) (hs : s.size ≤ 1000000) :
    Calls Try.prog 27 #[.string s] w fun e w' => e = .returned (str (wrL s.data.toList)) ∧ w = w' := by
  cases hp : plainL s.data.toList
  · have HP := Lib.hid (rPlain_is hp w hs)
    have E := Lib.hid (show wrL s.data.toList = 34 :: (escL s.data.toList ++ [34]) by unfold wrL; rw [hp]; rfl)
    clear hp
    go_enter Try.func27, Try.ntmps27
    go_wp2_with fail
    refine HP.out.mono ?_
    rintro e w1 ⟨rfl, rfl⟩
    go_wp2
    go_loop [3, 4] (fun t i => ∃ (k : Nat) (o : ByteArray), k ≤ s.size ∧ i = .int .i64 k ∧ t = .string o ∧ o.size ≤ 2 * k + 1 ∧ Hid (o.data.toList = 34 :: escL (s.data.toList.take k))) (fun _ i => s.size - (intOf i).toNat)
    case atStart => exact ⟨0, _, Nat.zero_le _, rfl, rfl, by decide, rfl⟩
    case round =>
      obtain ⟨k, o, hk, rfl, rfl, ho, Ho⟩ := hrel
      by_cases hlt : k < s.size
      · have Ht := Lib.hid (take_snoc s k hlt)
        obtain ⟨a, ha, hz, hsl⟩ := mid_one s k hlt
        have Ha := Lib.hid ha
        clear ha
        obtain ⟨y, hy⟩ : ∃ y : Nat, (s[k]'hlt).toNat = y := ⟨_, rfl⟩
        have Hy := Lib.hid hy
        have hu : y < 256 := by rw [← hy]; exact (s[k]'hlt).toNat_lt
        by_cases h3 : y = 34 ∨ y = 92
        · have E1 := Lib.hid (show ((o ++ ⟨#[92]⟩) ++ a).data.toList = 34 :: escL (s.data.toList.take (k + 1)) by
            rw [data_app, data_app, Ho.out, Ha.out, Ht.out, escL_snoc, show escB s[k] = [92, s[k]] by simp [escB, esc, Hy.out, h3]]
            simp)
          have z1 : (o ++ ⟨#[92]⟩ : ByteArray).size = o.size + 1 := ByteArray.size_append
          have z2 : ((o ++ ⟨#[92]⟩ : ByteArray) ++ a).size = o.size + 2 := by rw [ByteArray.size_append, z1, hz]
          have Z2 := Lib.hid z2
          clear z2
          rcases h3 with h3 | h3
          · have n1 : ((y : Int) == 34) = true := by simp; omega
            clear h3
            go_wp2
            go_round
            case rel => exact ⟨k + 1, _, by omega, by go_num, rfl, by rw [Z2.out]; omega, E1⟩
            case measure => simp [intOf]; omega
          · have n1 : ((y : Int) == 34) = false := by simp; omega
            have n2 : ((y : Int) == 92) = true := by simp; omega
            clear h3
            go_wp2
            go_round
            case rel => exact ⟨k + 1, _, by omega, by go_num, rfl, by rw [Z2.out]; omega, E1⟩
            case measure => simp [intOf]; omega
        · have n1 : ((y : Int) == 34) = false := by simp; omega
          have n2 : ((y : Int) == 92) = false := by simp; omega
          have E1 := Lib.hid (show (o ++ a).data.toList = 34 :: escL (s.data.toList.take (k + 1)) by
            rw [data_app, Ho.out, Ha.out, Ht.out, escL_snoc, show escB s[k] = [s[k]] by simp [escB, esc, Hy.out]; omega]
            simp)
          have z2 : (o ++ a).size = o.size + 1 := by rw [ByteArray.size_append, hz]
          have Z2 := Lib.hid z2
          clear z2 h3
          go_wp2
          go_round
          case rel => exact ⟨k + 1, _, by omega, by go_num, rfl, by rw [Z2.out]; omega, E1⟩
          case measure => simp [intOf]; omega
      · have h2 : s.data.toList.take k = s.data.toList := List.take_of_length_le (by have : s.data.toList.length = s.size := rfl; omega)
        have E1 := Lib.hid (show (o ++ ⟨#[34]⟩).data.toList = wrL s.data.toList by
          rw [data_app, Ho.out, E.out, h2]
          simp)
        clear h2
        go_wp2
        go_ret
        exact ⟨by rw [← E1.out]; exact congrArg Ending.returned (str_of rfl), rfl⟩
  · have HP := Lib.hid (rPlain_is hp w hs)
    have E := Lib.hid (show wrL s.data.toList = s.data.toList by unfold wrL; rw [hp]; rfl)
    clear hp
    go_enter Try.func27, Try.ntmps27
    go_wp2_with fail
    refine HP.out.mono ?_
    rintro e w1 ⟨rfl, rfl⟩
    go_wp2
    go_ret
    exact ⟨by rw [E.out]; exact congrArg Ending.returned (str_of rfl), rfl⟩
end Go.Proofs.Ytdkhajpkldjlmaa
