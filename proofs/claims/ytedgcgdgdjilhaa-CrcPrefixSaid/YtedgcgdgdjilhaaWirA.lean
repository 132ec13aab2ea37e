/-
  Walks over the reference of package wire: TakeUint, PutUint.
-/
import Derived.Test.YtedgcgdgdjilhaaVals
import Derived.Test.YtedgcgdgdjilhaaWirPlain
import Derived.IntWalk
namespace Go.Proofs.Ytedgcgdgdjilhaa
set_option linter.unusedVariables false
set_option linter.unusedSimpArgs false
open Go.RowKit

theorem info_byte : (Try.prog.info? 5).map (fun i => (i.zero, i.size, i.bytes)) = some (some (.int .u8 0), 1, 1) := by kernel_rfl
theorem takeA_end (i u unit : Nat) (l : List UInt8) : takeA 0 i u unit l = (0, 0, 2) := rfl
theorem drop_end {l : List UInt8} {k : Nat} (h : l.length ≤ k) : l.drop k = [] := List.drop_eq_nil_of_le h
theorem drop_more {l : List UInt8} {k : Nat} (h : k < l.length) : l.drop k = l[k]?.getD 0 :: l.drop (k + 1) := by
  rw [List.drop_eq_getElem_cons h, List.getElem?_eq_getElem h]
  rfl
theorem takeA_none {f i u unit : Nat} : takeA (f + 1) i u unit [] = (0, 0, 4) := rfl
theorem takeA_over {f i u unit : Nat} {c : UInt8} {r : List UInt8} (h : i = 9 ∧ 1 < c.toNat) : takeA (f + 1) i u unit (c :: r) = (0, 0, 2) := by rw [takeA, if_pos h]
theorem takeA_form {f i u unit : Nat} {c : UInt8} {r : List UInt8} (h : 0 < i) (hc : c.toNat = 0) : takeA (f + 1) i u unit (c :: r) = (0, 0, 3) := by rw [takeA, if_neg (by omega), if_pos (by omega), if_pos ⟨h, hc⟩]
theorem takeA_last {f i u unit : Nat} {c : UInt8} {r : List UInt8} (h9 : ¬ (i = 9 ∧ 1 < c.toNat)) (hc : c.toNat < 128) (h : ¬ (0 < i ∧ c.toNat = 0)) : takeA (f + 1) i u unit (c :: r) = (u + unit * c.toNat, i + 1, 0) := by rw [takeA, if_neg h9, if_pos hc, if_neg h]
theorem takeA_next {f i u unit : Nat} {c : UInt8} {r : List UInt8} (h9 : ¬ (i = 9 ∧ 1 < c.toNat)) (hc : ¬ c.toNat < 128) : takeA (f + 1) i u unit (c :: r) = takeA f (i + 1) (u + unit * (c.toNat % 128)) (unit * 128) r := by rw [takeA, if_neg h9, if_neg hc]

set_option maxRecDepth 20000 in
set_option maxHeartbeats 8000000 in
theorem rTakeUint_any (a : Option Addr) (l : List UInt8) (n cap : Nat) (w : World) (hn : l.length = n) (hb : n ≤ 1000000) (hl : Bytes w a l) :
    Calls Try.prog 32 #[.slice a n cap] w fun e w' => e = .returned (.tuple #[.int .u64 ((takeU l).1 : Int), .int .i64 ((takeU l).2.1 : Int), .int .i64 (takeU l).2.2]) ∧ w = w' := by
  have Hn := Lib.hid hn
  obtain ⟨R, hR⟩ : ∃ R, takeU l = R := ⟨_, rfl⟩
  have HR := Lib.hid hR
  rw [hR]
  clear hR hn
  go_enter Try.func32, Try.ntmps32
  go_wp2
  go_loop [5, 6, 7] (fun a5 a6 i => ∃ (k u unit : Nat), k ≤ 10 ∧ i = .int .i64 k ∧ a5 = .int .u64 u ∧ a6 = .int .u64 unit ∧ Hid (k ≤ 9 → unit = 128 ^ k) ∧ Hid (k ≤ 9 → u < 128 ^ k) ∧ Hid (takeA (10 - k) k u unit (l.drop k) = R)) (fun _ _ i => 10 - (intOf i).toNat)
  case atStart => exact ⟨0, 0, 1, by omega, rfl, rfl, rfl, fun _ => rfl, fun _ => by decide, HR⟩
  case round =>
    obtain ⟨k, u, unit, hk, rfl, rfl, rfl, Hu, Huu, Ht⟩ := hrel
    by_cases h10 : k < 10
    · obtain ⟨f, hf⟩ : ∃ f, 10 - k = f + 1 := ⟨9 - k, by omega⟩
      have hf2 : f = 10 - (k + 1) := by omega
      rw [hf] at Ht
      have Hf2 := Lib.hid hf2
      clear hf hf2
      by_cases hlt : k < n
      · have hkl : k < l.length := by rw [Hn.out]; exact hlt
        obtain ⟨b, off, rfl, hc⟩ := hl.byte hkl
        have Hd := Lib.hid (drop_more hkl)
        obtain ⟨c, hcc⟩ : ∃ c, l[k]?.getD 0 = c := ⟨_, rfl⟩
        rw [hcc] at hc Hd
        have Ht2 := Lib.hid (show takeA (f + 1) k u unit (c :: l.drop (k + 1)) = R by rw [← Hd.out]; exact Ht.out)
        obtain ⟨y, hy⟩ : ∃ y, c.toNat = y := ⟨_, rfl⟩
        have hu : y < 256 := by rw [← hy]; exact c.toNat_lt
        rw [hy] at hc
        have Hy := Lib.hid hy
        have i0 : (0 : Int) ≤ (k : Int) := by omega
        have i1 : (k : Int) < (n : Int) := by omega
        clear hy hcc hkl
        have bU : unit ≤ 9223372036854775808 := by
          have h1 := Hu.out (by omega)
          have h2 : 128 ^ k ≤ 128 ^ 9 := Nat.pow_le_pow_right (by decide) (by omega)
          rw [h1]
          exact Nat.le_trans h2 (by decide)
        have bu : u < unit := by rw [Hu.out (by omega)]; exact Huu.out (by omega)
        obtain ⟨V, hV⟩ : ∃ V, unit * (y % 128) = V := ⟨_, rfl⟩
        have HV := Lib.hid hV
        have hVi : (unit : Int) * ((y : Int) % 128) = (V : Int) := by rw [← hV]; simp
        by_cases h9 : k = 9
        · have hU9 : unit = 9223372036854775808 := by rw [Hu.out (by omega), h9]
          have hw0 : IntKind.u64.wrap ((unit : Int) * 128) = 0 := by rw [hU9]; rfl
          have e9 : ((k : Int) == 9) = true := by simp; omega
          have hk0 : 0 < k := by omega
          by_cases hy1 : 1 < y
          · have E := Lib.hid (show R = (0, 0, 2) by rw [← Ht2.out, takeA_over ⟨h9, by rw [Hy.out]; exact hy1⟩])
            clear hV h9 hU9 hw0
            go_wp2
            go_ret3
            exact ⟨by rw [E.out]; rfl, rfl⟩
          · have hy1' : y ≤ 1 := by omega
            have bV : V ≤ 9223372036854775808 := by
              rw [← hV]
              have : unit * (y % 128) ≤ unit * 1 := Nat.mul_le_mul_left _ (by omega)
              omega
            by_cases hy0 : y = 0
            · have E := Lib.hid (show R = (0, 0, 3) by rw [← Ht2.out, takeA_form (by omega) (by rw [Hy.out]; exact hy0)])
              have ey : ((y : Int) == 0) = true := by simp; omega
              clear hV h9 hU9 hy0 hy1
              go_wp2
              go_ret3
              exact ⟨by rw [E.out]; rfl, rfl⟩
            · have E := Lib.hid (show R = (u + V, k + 1, 0) by
                rw [← Ht2.out, takeA_last (by rw [Hy.out]; omega) (by rw [Hy.out]; omega) (by rw [Hy.out]; omega), Hy.out, ← HV.out, show y % 128 = y by omega])
              have ey : ((y : Int) == 0) = false := by simp; omega
              clear hV h9 hU9 hy0 hy1
              go_wp2
              go_ret3
              exact ⟨by rw [E.out]; rfl, rfl⟩
        · have bU2 : unit ≤ 72057594037927936 := by
            have h1 := Hu.out (by omega)
            have h2 : 128 ^ k ≤ 128 ^ 8 := Nat.pow_le_pow_right (by decide) (by omega)
            rw [h1]
            exact Nat.le_trans h2 (by decide)
          have bV : V ≤ 127 * unit := by
            rw [← hV, Nat.mul_comm]
            exact Nat.mul_le_mul_right _ (by omega)
          have e9 : ((k : Int) == 9) = false := by simp; omega
          clear hV
          by_cases h128 : y < 128
          · by_cases hk0 : 0 < k
            · by_cases hy0 : y = 0
              · have E := Lib.hid (show R = (0, 0, 3) by rw [← Ht2.out, takeA_form hk0 (by rw [Hy.out]; exact hy0)])
                have ey : ((y : Int) == 0) = true := by simp; omega
                clear hy0
                go_wp2
                go_ret3
                exact ⟨by rw [E.out]; rfl, rfl⟩
              · have E := Lib.hid (show R = (u + V, k + 1, 0) by
                  rw [← Ht2.out, takeA_last (by rw [Hy.out]; omega) (by rw [Hy.out]; omega) (by rw [Hy.out]; omega), Hy.out, ← HV.out, show y % 128 = y by omega])
                have ey : ((y : Int) == 0) = false := by simp; omega
                clear hy0
                go_wp2
                go_ret3
                exact ⟨by rw [E.out]; rfl, rfl⟩
            · have E := Lib.hid (show R = (u + V, k + 1, 0) by
                rw [← Ht2.out, takeA_last (by rw [Hy.out]; omega) (by rw [Hy.out]; omega) (by omega), Hy.out, ← HV.out, show y % 128 = y by omega])
              have hk0' : k ≤ 0 := by omega
              clear hk0
              go_wp2
              go_ret3
              exact ⟨by rw [E.out]; rfl, rfl⟩
          · have E := Lib.hid (show takeA (10 - (k + 1)) (k + 1) (u + V) (unit * 128) (l.drop (k + 1)) = R by
              rw [← Ht2.out, takeA_next (by rw [Hy.out]; omega) (by rw [Hy.out]; exact h128), Hy.out, HV.out, Hf2.out])
            have Hu2 := Lib.hid (show k + 1 ≤ 9 → unit * 128 = 128 ^ (k + 1) from fun _ => by rw [Hu.out (by omega), Nat.pow_succ])
            have Huu2 := Lib.hid (show k + 1 ≤ 9 → u + V < 128 ^ (k + 1) from fun _ => by rw [Nat.pow_succ, ← Hu.out (by omega)]; omega)
            go_wp2
            go_round
            case rel => exact ⟨k + 1, u + V, unit * 128, by omega, by go_num, by go_num, by go_num, Hu2, Huu2, E⟩
            case measure => simp [intOf]; omega
      · have E := Lib.hid (show R = (0, 0, 4) by rw [← Ht.out, drop_end (by rw [Hn.out]; omega)]; rfl)
        have i1 : (n : Int) ≤ (k : Int) := by omega
        go_wp2
        go_ret3
        exact ⟨by rw [E.out]; rfl, rfl⟩
    · have E := Lib.hid (show R = (0, 0, 2) by rw [← Ht.out, show 10 - k = 0 by omega]; rfl)
      go_wp2
      go_ret3
      exact ⟨by rw [E.out]; rfl, rfl⟩
theorem rTakeUint_is {l : List UInt8} {u k : Nat} {e : Int} (h : takeU l = (u, k, e)) (a : Option Addr) (n cap : Nat) (w : World) (hn : l.length = n) (hb : n ≤ 1000000) (hl : Bytes w a l) :
    Calls Try.prog 32 #[.slice a n cap] w fun e' w' => e' = .returned (.tuple #[.int .u64 (u : Int), .int .i64 (k : Int), .int .i64 e]) ∧ w = w' := by
  have := rTakeUint_any a l n cap w hn hb hl
  rwa [h] at this
end Go.Proofs.Ytedgcgdgdjilhaa
