/-
  The contracts of the landed package wire: TakeUint, a loop by goto.
-/
import Derived.Test.YtedgcgdgdjilhaaWirA
import Derived.Laws.Bits64b
import Derived.ScopeJumps
namespace Go.Proofs.Ytedgcgdgdjilhaa
set_option linter.unusedVariables false
set_option linter.unusedSimpArgs false
open Go.RowKit

/-- a scope whose label is walked once: what holds at the label, at the first pass too -/
theorem wp_scope_once {P : Program} {a : Act} {w : World} {Q : Exit → Act → World → Prop} {c rest : Code} (l : Nat) (J : Act → World → Prop) (μ : Act → World → Nat) (hf : findLabel c l = some (Code.skip.seq rest))
    (first : (∀ a w, J a w → rest.wp P (Exit.jump l J Q) a w) → c.wp P (Exit.jump l J Q) a w)
    (pass : ∀ a w, J a w → rest.wp P (Exit.jump l (fun a' w' => J a' w' ∧ μ a' w' < μ a w) Q) a w) : (Code.scope c).wp P Q a w :=
  wp_scope_jumps l J μ hf (first fun a w h => wp_mono (pass a w h) (fun e a w h => by
    cases e with
    | goto l' => exact ⟨h.1, h.2.1⟩
    | _ => exact h)) (fun a w h => wp_seq (wp_skip (pass a w h)))
set_option maxRecDepth 200000 in
theorem andNot_more {y : Nat} (h : y < 256) : bits .andNot .u8 (y : Int) 128 = ((y % 128 : Nat) : Int) := by
  revert y
  decide
theorem or_add {u k v : Nat} (hu : u < 2 ^ k) : u ||| v * 2 ^ k = u + v * 2 ^ k := by
  rw [Nat.or_comm, Nat.mul_comm v, ← Nat.two_pow_add_eq_or_of_lt hu v, Nat.add_comm]
theorem pow128 (k : Nat) : 2 ^ (7 * k) = 128 ^ k := by rw [Nat.pow_mul]
/-- the number with one more group, whatever the place -/
theorem or_group {u k v : Nat} (hu : u < 18446744073709551616) : ∃ X Z : Nat, IntKind.u64.wrap ((v : Int) * 2 ^ (7 * k)) = (X : Int) ∧ bits .or .u64 (u : Int) (X : Int) = (Z : Int) ∧ Z < 18446744073709551616 ∧ (u < 128 ^ k → v * 128 ^ k < 18446744073709551616 → Z = u + 128 ^ k * v) := by
  refine ⟨(v * 2 ^ (7 * k)) % 18446744073709551616, u ||| (v * 2 ^ (7 * k)) % 18446744073709551616, ?_, bits_or_u64_nat _ _ hu (by omega), ?_, ?_⟩
  · rw [IntKind.wrap_u64]
    simp
  · have : u ||| (v * 2 ^ (7 * k)) % 18446744073709551616 < 2 ^ 64 := Nat.or_lt_two_pow (by omega) (by omega)
    exact this
  · intro h1 h2
    rw [← pow128] at h1 h2 ⊢
    rw [Nat.mod_eq_of_lt h2, or_add h1, Nat.mul_comm v]

set_option maxRecDepth 20000 in
set_option maxHeartbeats 8000000 in
theorem takeUint_any (a : Option Addr) (l : List UInt8) (n cap : Nat) (w : World) (hn : l.length = n) (hb : n ≤ 1000000) (hl : Bytes w a l) :
    Calls Try.prog 30 #[.slice a n cap] w fun e w' => e = .returned (.tuple #[.int .u64 ((takeU l).1 : Int), .int .i64 ((takeU l).2.1 : Int), .int .i64 (takeU l).2.2]) ∧ w = w' := by
  have Hn := Lib.hid hn
  obtain ⟨R, hR⟩ : ∃ R, takeU l = R := ⟨_, rfl⟩
  have HR := Lib.hid hR
  rw [hR]
  clear hR hn
  go_enter Try.func30, Try.ntmps30
  go_wp2
  refine wp_scope_once 0 (fun a' w' => w = w' ∧ ∃ (k u : Nat) (u7 u8 u9 u10 u11 u12 u13 u14 u15 u16 u17 u18 u19 u20 u21 u22 u23 u24 u25 u26 u27 u28 u29 u30 u31 u32 u33 u34 u35 u36 u37 u38 u39 u40 u41 u42 u43 : Value), a' = { tmps := #[.slice a n cap, undef, .int .u64 0, .int .i64 0, .int .i64 0, .int .u64 (u : Int), .int .i64 (k : Int), u7, u8, u9, u10, u11, u12, u13, u14, u15, u16, u17, u18, u19, u20, u21, u22, u23, u24, u25, u26, u27, u28, u29, u30, u31, u32, u33, u34, u35, u36, u37, u38, u39, u40, u41, u42, u43], defers := [] } ∧ k ≤ 10 ∧ k ≤ n ∧ u < 18446744073709551616 ∧ Hid (k ≤ 9 → u < 128 ^ k) ∧ Hid (takeA (10 - k) k u (128 ^ k) (l.drop k) = R)) (fun a' _ => 10 - (intOf (a'.tmps.getD 6 undef)).toNat) rfl ?first ?pass
  case first =>
    intro hp
    go_wp2
    go_step3
    rename_i hK
    exact hK _ _ (hp _ _ ⟨rfl, 0, 0, undef, undef, undef, undef, undef, undef, undef, undef, undef, undef, undef, undef, undef, undef, undef, undef, undef, undef, undef, undef, undef, undef, undef, undef, undef, undef, undef, undef, undef, undef, undef, undef, undef, undef, undef, undef, undef, rfl, by omega, by omega, by omega, fun _ => by decide, HR⟩)
  case pass =>
    rintro a' w' ⟨rfl, k, u, u7, u8, u9, u10, u11, u12, u13, u14, u15, u16, u17, u18, u19, u20, u21, u22, u23, u24, u25, u26, u27, u28, u29, u30, u31, u32, u33, u34, u35, u36, u37, u38, u39, u40, u41, u42, u43, rfl, hk, hkn, hu, Hu, Ht⟩
    by_cases h10 : k = 10
    · have E := Lib.hid (show R = (0, 0, 2) by rw [← Ht.out, h10]; rfl)
      have e10 : ((k : Int) == 10) = true := by simp; omega
      clear h10
      go_wp2
      simp only [Exit.jump]
      go_ret3
      exact ⟨by rw [E.out]; rfl, rfl⟩
    · have hk9 : k ≤ 9 := by omega
      have e10 : ((k : Int) == 10) = false := by simp; omega
      clear h10
      by_cases hlt : k < n
      · have hkl : k < l.length := by rw [Hn.out]; exact hlt
        obtain ⟨b, off, rfl, hc⟩ := hl.byte hkl
        have Hd := Lib.hid (drop_more hkl)
        obtain ⟨c, hcc⟩ : ∃ c, l[k]?.getD 0 = c := ⟨_, rfl⟩
        rw [hcc] at hc Hd
        obtain ⟨f, hf⟩ : ∃ f, 10 - k = f + 1 := ⟨9 - k, by omega⟩
        have Hf := Lib.hid (show 10 - (k + 1) = f by omega)
        have Ht2 := Lib.hid (show takeA (f + 1) k u (128 ^ k) (c :: l.drop (k + 1)) = R by rw [← Hd.out, ← hf]; exact Ht.out)
        obtain ⟨y, hy⟩ : ∃ y, c.toNat = y := ⟨_, rfl⟩
        have hy8 : y < 256 := by rw [← hy]; exact c.toNat_lt
        rw [hy] at hc
        have Hy := Lib.hid hy
        have en : ((k : Int) == (n : Int)) = false := by simp; omega
        have i0 : (0 : Int) ≤ (k : Int) := by omega
        have i1 : (k : Int) < (n : Int) := by omega
        have e20 := andNot_more hy8
        obtain ⟨v, hv⟩ : ∃ v, y % 128 = v := ⟨_, rfl⟩
        rw [hv] at e20
        have hv7 : v < 128 := by omega
        have Hv := Lib.hid hv
        obtain ⟨X, Z, e24, e25, hZ, hZu⟩ := or_group (u := u) (k := k) (v := v) hu
        have HZ := Lib.hid hZu
        have Hk8 := Lib.hid (show k ≤ 8 → Z = u + 128 ^ k * v by
          intro h8
          refine HZ.out (Hu.out hk9) ?_
          have h2 : 128 ^ k ≤ 128 ^ 8 := Nat.pow_le_pow_right (by decide) h8
          calc v * 128 ^ k ≤ 128 * 128 ^ 8 := Nat.mul_le_mul (by omega) h2
            _ < 18446744073709551616 := by decide)
        clear hy hcc hkl hf hZu hv
        by_cases h128 : 128 ≤ y
        · have E := Lib.hid (show takeA (10 - (k + 1)) (k + 1) Z (128 ^ (k + 1)) (l.drop (k + 1)) = R by
            rw [Hf.out]
            by_cases h9 : k = 9
            · obtain rfl : f = 0 := by have := Hf.out; omega
              rw [← Ht2.out, takeA_over ⟨h9, by rw [Hy.out]; omega⟩]
              rfl
            · rw [← Ht2.out, takeA_next (by omega) (by rw [Hy.out]; omega), Hy.out, Hv.out, ← Hk8.out (by omega), Nat.pow_succ])
          have Hu2 := Lib.hid (show k + 1 ≤ 9 → Z < 128 ^ (k + 1) by
            intro h9
            rw [Hk8.out (by omega), Nat.pow_succ]
            have h1 := Hu.out (by omega)
            have h3 : 128 ^ k * v ≤ 128 ^ k * 127 := Nat.mul_le_mul_left _ (by omega)
            omega)
          go_wp2
          go_step3
          exact ⟨rfl, ⟨rfl, k + 1, Z, _, _, _, _, _, _, _, _, _, _, _, _, _, _, _, _, _, _, _, _, _, _, _, _, _, _, _, _, _, _, _, _, _, _, _, _, _, rfl, by omega, by omega, hZ, Hu2, E⟩, by simp [intOf]; omega⟩
        · have hy7 : y < 128 := by omega
          have hvy : v = y := by have := Hv.out; omega
          clear h128
          by_cases h9 : k = 9
          · have e11 : ((k : Int) + 1 == 10) = true := by simp; omega
            by_cases hy1 : 1 < y
            · have E := Lib.hid (show R = (0, 0, 2) by rw [← Ht2.out, takeA_over ⟨h9, by rw [Hy.out]; exact hy1⟩])
              clear h9 hvy
              go_wp2
              simp only [Exit.jump]
              go_ret3
              exact ⟨by rw [E.out]; rfl, rfl⟩
            · have hy1' : y ≤ 1 := by omega
              have hk0 : 0 < k := by omega
              by_cases hy0 : y = 0
              · have E := Lib.hid (show R = (0, 0, 3) by rw [← Ht2.out, takeA_form (by omega) (by rw [Hy.out]; exact hy0)])
                have ey : ((y : Int) == 0) = true := by simp; omega
                clear h9 hvy hy0 hy1
                go_wp2
                simp only [Exit.jump]
                go_ret3
                exact ⟨by rw [E.out]; rfl, rfl⟩
              · have hZ9 := HZ.out (Hu.out hk9) (by
                  have h2 : 128 ^ k ≤ 128 ^ 9 := Nat.pow_le_pow_right (by decide) hk9
                  calc v * 128 ^ k ≤ 1 * 128 ^ 9 := Nat.mul_le_mul (by omega) h2
                    _ < 18446744073709551616 := by decide)
                have E := Lib.hid (show R = (Z, k + 1, 0) by
                  rw [← Ht2.out, takeA_last (by rw [Hy.out]; omega) (by rw [Hy.out]; omega) (by rw [Hy.out]; omega), Hy.out, hZ9, hvy])
                have ey : ((y : Int) == 0) = false := by simp; omega
                clear h9 hvy hy0 hy1 hZ9
                go_wp2
                simp only [Exit.jump]
                go_ret3
                exact ⟨by rw [E.out]; rfl, rfl⟩
          · have e11 : ((k : Int) + 1 == 10) = false := by simp; omega
            by_cases hf0 : 0 < k ∧ y = 0
            · have E := Lib.hid (show R = (0, 0, 3) by rw [← Ht2.out, takeA_form hf0.1 (by rw [Hy.out]; exact hf0.2)])
              have ey : ((y : Int) == 0) = true := by simp; omega
              have hk0 : 0 < k := hf0.1
              clear h9 hvy hf0
              go_wp2
              simp only [Exit.jump]
              go_ret3
              exact ⟨by rw [E.out]; rfl, rfl⟩
            · have E := Lib.hid (show R = (Z, k + 1, 0) by
                rw [← Ht2.out, takeA_last (by omega) (by rw [Hy.out]; omega) (by rw [Hy.out]; exact hf0), Hy.out, Hk8.out (by omega), hvy])
              by_cases hk0 : 0 < k
              · have ey : ((y : Int) == 0) = false := by simp; omega
                clear h9 hvy hf0
                go_wp2
                simp only [Exit.jump]
                go_ret3
                exact ⟨by rw [E.out]; rfl, rfl⟩
              · have hk0' : k ≤ 0 := by omega
                clear h9 hvy hf0 hk0
                go_wp2
                simp only [Exit.jump]
                go_ret3
                exact ⟨by rw [E.out]; rfl, rfl⟩
      · have E := Lib.hid (show R = (0, 0, 4) by
          rw [← Ht.out, drop_end (by rw [Hn.out]; omega)]
          obtain ⟨f, hf⟩ : ∃ f, 10 - k = f + 1 := ⟨9 - k, by omega⟩
          rw [hf]
          rfl)
        have en : ((k : Int) == (n : Int)) = true := by simp; omega
        clear hlt hkn
        go_wp2
        simp only [Exit.jump]
        go_ret3
        exact ⟨by rw [E.out]; rfl, rfl⟩
theorem takeUint_is {l : List UInt8} {u k : Nat} {e : Int} (h : takeU l = (u, k, e)) (a : Option Addr) (n cap : Nat) (w : World) (hn : l.length = n) (hb : n ≤ 1000000) (hl : Bytes w a l) :
    Calls Try.prog 30 #[.slice a n cap] w fun e' w' => e' = .returned (.tuple #[.int .u64 (u : Int), .int .i64 (k : Int), .int .i64 e]) ∧ w = w' := by
  have := takeUint_any a l n cap w hn hb hl
  rwa [h] at this
end Go.Proofs.Ytedgcgdgdjilhaa
