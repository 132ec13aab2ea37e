/-
  Walks over package num and its reference: Format.
-/
import Derived.Test.YtejokpbmdhmhfaaNumR
import Derived.Test.YtejokpbmdhmhfaaNumText
namespace Go.Proofs.Ytejokpbmdhmhfaa
open Go.RowKit

def okPlaces (p : Int) : Bool := decide (0 ≤ p ∧ p ≤ 6)
def str (l : List UInt8) : Value := .string ⟨l.toArray⟩

set_option maxHeartbeats 400000 in
theorem validPlaces_any (n : Int) (w : World) :
    Calls Try.prog 41 #[.int .i64 n] w fun e w' => e = .returned (.bool (okPlaces n)) ∧ w = w' := by
  by_cases h1 : 0 ≤ n
  · by_cases h2 : n ≤ 6
    · have h : okPlaces n = true := by simp [okPlaces, h1, h2]
      rw [h]
      clear h
      go_enter Try.func41, Try.ntmps41
      go_wp2
      go_ret
      exact ⟨rfl, rfl⟩
    · have h : okPlaces n = false := by simp [okPlaces, h2]
      rw [h]
      clear h
      go_enter Try.func41, Try.ntmps41
      go_wp2
      go_ret
      exact ⟨rfl, rfl⟩
  · have h : okPlaces n = false := by simp [okPlaces, h1]
    rw [h]
    clear h
    go_enter Try.func41, Try.ntmps41
    go_wp2
    go_ret
    exact ⟨rfl, rfl⟩
theorem validPlaces_is (n : Int) (w : World) (r : Bool) (h : okPlaces n = r) :
    Calls Try.prog 41 #[.int .i64 n] w fun e w' => e = .returned (.bool r) ∧ w = w' := by
  have := validPlaces_any n w
  rwa [h] at this

theorem enc_digit (m : Nat) : Utf8.encode (48 + (m : Int) % 10) = ⟨#[dg m]⟩ := by
  have h0 : (48 + (m : Int) % 10).toNat = 48 + m % 10 := by omega
  have hv : Utf8.valid (48 + (m : Int) % 10) = true := by
    unfold Utf8.valid
    simp only [Bool.or_eq_true, Bool.and_eq_true, decide_eq_true_eq]
    omega
  unfold Utf8.encode
  simp only [hv, if_true, h0]
  rw [if_pos (by omega)]
  rfl

theorem str_of {s : ByteArray} {l : List UInt8} (h : s.data.toList = l) : Value.string s = str l := by
  unfold str
  congr 1
  apply ByteArray.ext
  show s.data = l.toArray
  rw [← h]
theorem data_add (c : UInt8) (s : ByteArray) : ((⟨#[c]⟩ : ByteArray) ++ s).data.toList = c :: s.data.toList := by
  simp [ByteArray.data_append]
theorem size_add (c : UInt8) (s : ByteArray) : ((⟨#[c]⟩ : ByteArray) ++ s).size = s.size + 1 := by
  rw [ByteArray.size_append]
  show 1 + s.size = _
  omega
theorem div_next {N k m : Nat} (h : N / 10 ^ k = m) : N / 10 ^ (k + 1) = m / 10 := by
  rw [Nat.pow_succ, ← Nat.div_div_eq_div_mul, h]

set_option maxRecDepth 20000 in
set_option maxHeartbeats 1000000 in
theorem format_good (n : Int) (p : Nat) (w : World) (hn : inRB n = true) (hp : p ≤ 6) :
    Calls Try.prog 28 #[.int .i64 n, .int .i64 p] w fun e w' => e = .returned (.tuple #[str (formS n p), .int .i64 0]) ∧ Below w.heap.size w w' := by
  have bn := inRB_true.1 hn
  have Hn := Lib.hid hn
  have Hp := Lib.hid (show okPlaces p = true by simp [okPlaces]; omega)
  clear hn
  go_enter Try.func28, Try.ntmps28
  go_wp2_with (first
    | (go_at_call 36; refine (inRange_yes _ _ Hn.out).mono ?_; rintro e w' ⟨rfl, rfl⟩)
    | (go_at_call 41; refine (validPlaces_is _ _ _ Hp.out).mono ?_; rintro e w' ⟨rfl, rfl⟩)
    | (go_at_call 35; refine (abs_any _ _ Hn.out).mono ?_; rintro e w' ⟨rfl, rfl⟩))
  go_loop [6, 7, 8] (fun t r i => ∃ (k m : Nat) (s : ByteArray), k ≤ wid p n.natAbs ∧ i = .int .i64 k ∧ Hid (n.natAbs / 10 ^ k = m) ∧ r = .int .i64 m ∧ t = .string s ∧ Hid (s.data.toList = txt p k n.natAbs) ∧ m ≤ 1125899906842624 ∧ k ≤ 16 ∧ s.size ≤ 2 * k) (fun _ _ i => 16 - (intOf i).toNat)
  case atStart => exact ⟨0, n.natAbs, _, by omega, rfl, by simp [Hid], rfl, rfl, by simp [Hid, txt, low], by omega, by omega, by decide⟩
  case round =>
    obtain ⟨k, m, s, hk, rfl, hm, rfl, rfl, hs, hmb, hk16, hsz⟩ := hrel
    have hw0 := wid_zero (p := p) (show n.natAbs ≤ 1125899906842624 by omega)
    have hw6 := wid_le (p := p) (show n.natAbs ≤ 1125899906842624 by omega) hp
    by_cases hlt : k < wid p n.natAbs
    · have hwf := wid_first (p := p) (show n.natAbs ≤ 1125899906842624 by omega) hlt
      rw [hm.out] at hwf
      have henc := enc_digit m
      have hlt16 : k < 16 := by omega
      have Hlt := Lib.hid hlt
      have Hw6 := Lib.hid hw6
      clear hw0 hlt hk hw6
      by_cases hd : k = p ∧ 0 < p
      · obtain ⟨rfl, hp0⟩ := hd
        clear hwf
        go_wp2
        go_round
        case rel =>
          refine ⟨k + 1, m / 10, ⟨#[dg m]⟩ ++ (⟨#[46]⟩ ++ s), Hlt.out, by go_num, div_next hm.out, by go_num, rfl, ?_, by omega, by omega, ?_⟩
          · unfold Hid
            rw [data_add, data_add, hs.out, txt_stop k k _ rfl hp0, hm.out]
          · rw [size_add, size_add]; omega
        case measure => simp [intOf]; omega
      · have fin : Hid ((⟨#[dg m]⟩ ++ s : ByteArray).data.toList = txt p (k + 1) n.natAbs) := by
          unfold Hid
          rw [data_add, hs.out, txt_digit p k _ hd, hm.out]
        by_cases hkp : k = p
        · have hp0 : p = 0 := by omega
          subst hp0
          subst hkp
          clear hwf hd
          go_wp2
          go_round
          case rel =>
            refine ⟨0 + 1, m / 10, ⟨#[dg m]⟩ ++ s, Hlt.out, by go_num, div_next hm.out, by go_num, rfl, fin, by omega, by omega, ?_⟩
            rw [size_add]; omega
          case measure => simp [intOf]
        · have hne : ((k : Int) == (p : Int)) = false := by simp only [beq_eq_false_iff_ne]; omega
          by_cases hle : k ≤ p
          · clear hwf hd hkp
            go_wp2
            go_round
            case rel =>
              refine ⟨k + 1, m / 10, ⟨#[dg m]⟩ ++ s, Hlt.out, by go_num, div_next hm.out, by go_num, rfl, fin, by omega, by omega, ?_⟩
              rw [size_add]; omega
            case measure => simp [intOf]; omega
          · have hm0 : 0 < m := by omega
            clear hwf hd hkp
            go_wp2
            go_round
            case rel =>
              refine ⟨k + 1, m / 10, ⟨#[dg m]⟩ ++ s, Hlt.out, by go_num, div_next hm.out, by go_num, rfl, fin, by omega, by omega, ?_⟩
              rw [size_add]; omega
            case measure => simp [intOf]; omega
    · have hkw : k = wid p n.natAbs := by omega
      have hgt := wid_gt p n.natAbs
      have hm0 : m = 0 := by rw [← hm.out, hkw]; exact hw0
      have hkp : ¬ k ≤ p := by omega
      have hst : s.data.toList = txt p (wid p n.natAbs) n.natAbs := by rw [hs.out, hkw]
      clear hkw hgt hw0 hw6 hlt hk hs hm
      subst hm0
      by_cases hneg : n < 0
      · have E : (⟨#[45]⟩ ++ s : ByteArray).data.toList = formS n p := by
          rw [data_add, hst]; simp [formS, sgn, hneg]
        have EE := Lib.hid E
        clear E hst
        go_wp2
        go_ret2
        exact ⟨by rw [← str_of EE.out]; rfl, Below.refl _ _⟩
      · have E : s.data.toList = formS n p := by
          rw [hst]; simp [formS, sgn, hneg]
        have EE := Lib.hid E
        clear E hst
        go_wp2
        go_ret2
        exact ⟨by rw [← str_of EE.out]; rfl, Below.refl _ _⟩
end Go.Proofs.Ytejokpbmdhmhfaa
