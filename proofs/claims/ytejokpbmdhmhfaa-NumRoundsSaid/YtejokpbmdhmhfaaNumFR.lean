/-
  Walks over the reference of package num: digits, Format.
-/
import Derived.Test.YtejokpbmdhmhfaaNumF
namespace Go.Proofs.Ytejokpbmdhmhfaa
open Go.RowKit

theorem run_byte_string (x : Int) (W : World) :
    (convert 51 9 (.slice (some ⟨W.heap.size, 0, none⟩) 1 1)).run Try.prog (W.alloc (.cells #[.int .u8 x] 5)) =
      .ok (.string ⟨#[UInt8.ofNat x.toNat]⟩) (W.alloc (.cells #[.int .u8 x] 5)) := by
  rw [run_convert_bytes_string _ 51 9 5 _ _ _ Try.underlying51 Try.underlying5 Try.underlying9]
  rw [run_bytesToString _ _ _ _ [x]]
  · rfl
  · simp [go_sem, loadCells]
theorem byte_dg (m : Nat) : UInt8.ofNat (48 + (m : Int) % 10).toNat = dg m := by
  unfold dg
  congr 1

theorem nd_gt {N k : Nat} (hN : N ≤ 1125899906842624) (h : 0 < N / 10 ^ k) : k + 1 ≤ nd 20 N := by
  have := (nd_le 20 N k (lt20 hN))
  by_cases hk : nd 20 N ≤ k
  · rw [this.1 hk] at h; omega
  · omega
theorem nd_is {N k : Nat} (hN : N ≤ 1125899906842624) (h : N / 10 ^ k = 0) : nd 20 N ≤ k := (nd_le 20 N k (lt20 hN)).2 h
theorem nd_16 {N : Nat} (hN : N ≤ 1125899906842624) : nd 20 N ≤ 16 := (nd_le 20 N 16 (lt20 hN)).2 (Nat.div_eq_of_lt (Nat.lt_of_le_of_lt hN (by decide)))

set_option maxRecDepth 20000 in
set_option maxHeartbeats 1000000 in
theorem digits_any (N : Nat) (w : World) (hN : N ≤ 1125899906842624) :
    Calls Try.prog 42 #[.int .i64 N] w fun e w' => e = .returned (str (low (max 1 (nd 20 N)) N)) ∧ Below w.heap.size w w' := by
  have hcv := fun W => run_byte_string (48 + (N : Int) % 10) W
  rw [byte_dg] at hcv
  go_enter Try.func42, Try.ntmps42
  go_wp2
  go_loopw [0, 3] (fun r t wr => ∃ (k m : Nat) (s : ByteArray), 1 ≤ k ∧ k ≤ max 1 (nd 20 N) ∧ Hid (N / 10 ^ k = m) ∧ r = .int .i64 m ∧ t = .string s ∧ Hid (s.data.toList = low k N) ∧ m ≤ 1125899906842624 ∧ s.size ≤ 2 * k ∧ Below w.heap.size w wr) (fun r _ _ => (intOf r).toNat)
  case atStart => exact ⟨1, N / 10, ⟨#[dg N]⟩, by omega, by omega, by simp [Hid], by go_num, rfl, by simp [Hid, low], by omega, by show 1 ≤ 2; omega, (Below.refl _ _).alloc (Nat.le_refl _) _⟩
  case round =>
    obtain ⟨k, m, s, hk1, hk, hm, rfl, rfl, hs, hmb, hsz, hb⟩ := hrel
    have h16 := nd_16 hN
    by_cases hm0 : 0 < m
    · have hk' : k + 1 ≤ nd 20 N := nd_gt hN (by rw [hm.out]; exact hm0)
      have hcv := fun W => run_byte_string (48 + (m : Int) % 10) W
      rw [byte_dg] at hcv
      have Hk := Lib.hid hk
      have Hk' := Lib.hid hk'
      have hk17 : k ≤ 16 := by omega
      clear hk hk' h16
      go_wp2
      go_roundw
      case rel =>
        refine ⟨k + 1, m / 10, ⟨#[dg m]⟩ ++ s, by omega, by have := Hk'.out; omega, div_next hm.out, by go_num, rfl, ?_, by omega, ?_, hb.alloc hb.size _⟩
        · unfold Hid; rw [data_add, hs.out, low_left, hm.out]
        · rw [size_add]; omega
      case measure => simp [intOf]; omega
    · have e : max 1 (nd 20 N) = k := by
        have := nd_is hN (k := k) (by rw [hm.out]; omega)
        omega
      have E := Lib.hid e
      clear e hk h16
      go_wp2
      go_ret
      exact ⟨by rw [E.out, ← str_of hs.out]; rfl, hb⟩

theorem low_split (a p : Nat) : ∀ N, low (a + p) N = low a (N / 10 ^ p) ++ low p N := by
  induction p with
  | zero => intro N; simp [low]
  | succ p ih =>
    intro N
    show low (a + p + 1) N = _
    rw [low, ih (N / 10), low, Nat.div_div_eq_div_mul, show 10 * 10 ^ p = 10 ^ (p + 1) by rw [Nat.pow_succ]; omega, List.append_assoc]
theorem cut_txt {s : ByteArray} {k p N : Nat} (hs : s.data.toList = low k N) (hsz : s.size = k) (hp0 : 0 < p) (hpk : p < k) :
    (s.extract 0 (s.size - p) ++ (⟨#[46]⟩ : ByteArray) ++ s.extract (s.size - p) s.size).data.toList = txt p k N := by
  have e : low k N = low (k - p) (N / 10 ^ p) ++ low p N := by
    have := low_split (k - p) p N
    rwa [show k - p + p = k by omega] at this
  have h1 : (low k N).take (k - p) = low (k - p) (N / 10 ^ p) := by
    rw [e, List.take_left' (low_length _ _)]
  have h2 : (low k N).drop (k - p) = low p N := by
    rw [e, List.drop_left' (low_length _ _)]
  have h3 : k - (k - p) = p := by omega
  unfold txt
  rw [if_pos ⟨hp0, hpk⟩]
  simp only [ByteArray.data_append, ByteArray.data_extract, Array.toList_append, Array.toList_extract, hs, hsz, List.extract_eq_take_drop, List.drop_zero, Nat.sub_zero, h1, h2, h3]
  rw [List.take_of_length_le (by rw [low_length]; exact Nat.le_refl _)]
  simp

def lenOf : Value → Nat | .string s => s.size | _ => 0
theorem size_of {s : ByteArray} {l : List UInt8} (h : s.data.toList = l) : s.size = l.length := by rw [← h]; rfl

set_option maxRecDepth 20000 in
set_option maxHeartbeats 1000000 in
theorem rFormat_good (n : Int) (p : Nat) (w : World) (hn : inRB n = true) (hp : p ≤ 6) :
    Calls Try.prog 29 #[.int .i64 n, .int .i64 p] w fun e w' => e = .returned (.tuple #[str (formS n p), .int .i64 0]) ∧ Below w.heap.size w w' := by
  have bn := inRB_true.1 hn
  have Hn := Lib.hid hn
  have hN : n.natAbs ≤ 1125899906842624 := by omega
  have h16 := nd_16 hN
  have hw6 := wid_le (p := p) hN hp
  have hwd : wid p n.natAbs = max (p + 1) (nd 20 n.natAbs) := rfl
  have HW := Lib.hid hwd
  clear hn hwd
  go_enter Try.func29, Try.ntmps29
  go_wp2_with (first
    | (go_at_call 24; refine (rIn_yes _ _ Hn.out).mono ?_; rintro e w' ⟨rfl, rfl⟩)
    | (go_at_call 40; refine (rAbs_any _ _ Hn.out).mono ?_; rintro e w' ⟨rfl, rfl⟩)
    | (go_at_call 42; refine (digits_any _ _ hN).mono ?_; rintro e w1 ⟨rfl, hb1⟩))
  go_loopw [6] (fun t wr => ∃ (k : Nat) (s : ByteArray), max 1 (nd 20 n.natAbs) ≤ k ∧ k ≤ wid p n.natAbs ∧ t = .string s ∧ Hid (s.data.toList = low k n.natAbs) ∧ Hid (s.size = k) ∧ Below w.heap.size w wr) (fun t _ => 20 - lenOf t)
  case atStart => exact ⟨max 1 (nd 20 n.natAbs), _, Nat.le_refl _, by rw [HW.out]; omega, rfl, rfl, by simp [Hid, low_length, size_of], hb1⟩
  case round =>
    obtain ⟨k, s, hk1, hk2, rfl, hs, hsz, hb⟩ := hrel
    by_cases hle : k ≤ p
    · have hlen : s.size ≤ p := by rw [hsz.out]; exact hle
      have h0 : n.natAbs / 10 ^ k = 0 := (nd_le 20 _ k (lt20 hN)).1 (by omega)
      have H0 := Lib.hid h0
      have hk3 : k + 1 ≤ wid p n.natAbs := by rw [HW.out]; omega
      have HK := Lib.hid hk3
      have HK1 := Lib.hid hk1
      clear h0 hk3 hk1 hk2 hle hw6 h16
      go_wp2
      go_roundw
      case rel =>
        refine ⟨k + 1, ⟨#[48]⟩ ++ s, by have := HK1.out; omega, HK.out, rfl, ?_, ?_, hb⟩
        · unfold Hid; rw [data_add, hs.out, low_left, H0.out]; rfl
        · unfold Hid; rw [size_add, hsz.out]
      case measure => simp only [lenOf]; rw [size_add]; omega
    · have hkw : k = wid p n.natAbs := by rw [HW.out] at hk2 ⊢; omega
      have hlen : ¬ s.size ≤ p := by rw [hsz.out]; exact hle
      have hlp : p ≤ s.size := by omega
      have hs16 : s.size ≤ 16 := by rw [hsz.out, hkw]; exact hw6
      have HKW := Lib.hid hkw
      clear hkw hk1 hk2 hle hw6 h16
      by_cases hp0 : 0 < p
      · have hc := cut_txt hs.out hsz.out hp0 (by rw [HKW.out]; exact wid_gt _ _)
        rw [HKW.out] at hc
        by_cases hneg : n < 0
        · have hc2 : (⟨#[45]⟩ ++ (s.extract 0 (s.size - p) ++ (⟨#[46]⟩ : ByteArray) ++ s.extract (s.size - p) s.size) : ByteArray).data.toList = formS n p := by
            rw [data_add, hc]; simp [formS, sgn, hneg]
          have HC := Lib.hid hc2
          clear hc hc2
          go_wp2
          go_region
          go_wp2
          go_ret2
          exact ⟨by rw [← str_of HC.out]; rfl, hb.drew⟩
        · have hc2 : (s.extract 0 (s.size - p) ++ (⟨#[46]⟩ : ByteArray) ++ s.extract (s.size - p) s.size : ByteArray).data.toList = formS n p := by
            rw [hc]; simp [formS, sgn, hneg]
          have HC := Lib.hid hc2
          clear hc hc2
          go_wp2
          go_region
          go_wp2
          go_ret2
          exact ⟨by rw [← str_of HC.out]; rfl, hb.drew⟩
      · have hc : s.data.toList = txt p (wid p n.natAbs) n.natAbs := by
          rw [hs.out, HKW.out]; unfold txt; rw [if_neg (by omega)]
        by_cases hneg : n < 0
        · have hc2 : (⟨#[45]⟩ ++ s : ByteArray).data.toList = formS n p := by
            rw [data_add, hc]; simp [formS, sgn, hneg]
          have HC := Lib.hid hc2
          clear hc hc2
          go_wp2
          go_ret2
          exact ⟨by rw [← str_of HC.out]; rfl, hb⟩
        · have hc2 : s.data.toList = formS n p := by
            rw [hc]; simp [formS, sgn, hneg]
          have HC := Lib.hid hc2
          clear hc hc2
          go_wp2
          go_ret2
          exact ⟨by rw [← str_of HC.out]; rfl, hb⟩

/-- what Format returns -/
def fmtS (n p : Int) : List UInt8 × Int := if inRB n && okPlaces p then (formS n p.toNat, 0) else ([], 1)
theorem okPlaces_true {p : Int} : okPlaces p = true ↔ (0 ≤ p ∧ p ≤ 6) := by simp [okPlaces]
theorem okPlaces_false {p : Int} : okPlaces p = false ↔ (p < 0 ∨ 6 < p) := by simp [okPlaces]; omega
theorem str_nil : str [] = .string ⟨#[]⟩ := rfl

set_option maxHeartbeats 400000 in
theorem format_any (n p : Int) (w : World) :
    Calls Try.prog 28 #[.int .i64 n, .int .i64 p] w fun e w' => e = .returned (.tuple #[str (fmtS n p).1, .int .i64 (fmtS n p).2]) ∧ Below w.heap.size w w' := by
  cases h1 : inRB n
  · have e : fmtS n p = ([], 1) := by simp [fmtS, h1]
    rw [e, str_nil]
    have H1 := Lib.hid h1
    clear e h1
    go_enter Try.func28, Try.ntmps28
    go_wp2_with (go_at_call 36; refine (inRange_no _ _ H1.out).mono ?_; rintro e w' ⟨rfl, rfl⟩)
    go_ret2
    exact ⟨rfl, Below.refl _ _⟩
  cases h2 : okPlaces p
  · have e : fmtS n p = ([], 1) := by simp [fmtS, h2]
    rw [e, str_nil]
    have H1 := Lib.hid h1
    have H2 := Lib.hid h2
    clear e h1 h2
    go_enter Try.func28, Try.ntmps28
    go_wp2_with (first
      | (go_at_call 36; refine (inRange_yes _ _ H1.out).mono ?_; rintro e w' ⟨rfl, rfl⟩)
      | (go_at_call 41; refine (validPlaces_is _ _ _ H2.out).mono ?_; rintro e w' ⟨rfl, rfl⟩))
    go_ret2
    exact ⟨rfl, Below.refl _ _⟩
  have b2 := okPlaces_true.1 h2
  have e : fmtS n p = (formS n p.toNat, 0) := by simp [fmtS, h1, h2]
  rw [e]
  obtain ⟨k, rfl⟩ := Int.eq_ofNat_of_zero_le b2.1
  exact format_good n k w h1 (by omega)

set_option maxHeartbeats 400000 in
theorem rFormat_any (n p : Int) (w : World) :
    Calls Try.prog 29 #[.int .i64 n, .int .i64 p] w fun e w' => e = .returned (.tuple #[str (fmtS n p).1, .int .i64 (fmtS n p).2]) ∧ Below w.heap.size w w' := by
  cases h1 : inRB n
  · have e : fmtS n p = ([], 1) := by simp [fmtS, h1]
    rw [e, str_nil]
    have H1 := Lib.hid h1
    clear e h1
    go_enter Try.func29, Try.ntmps29
    go_wp2_with (go_at_call 24; refine (rIn_no _ _ H1.out).mono ?_; rintro e w' ⟨rfl, rfl⟩)
    go_ret2
    exact ⟨rfl, Below.refl _ _⟩
  cases h2 : okPlaces p
  · have e : fmtS n p = ([], 1) := by simp [fmtS, h2]
    rw [e, str_nil]
    have b2 := okPlaces_false.1 h2
    have H1 := Lib.hid h1
    clear e h1 h2
    rcases b2 with b2 | b2
    · go_enter Try.func29, Try.ntmps29
      go_wp2_with (go_at_call 24; refine (rIn_yes _ _ H1.out).mono ?_; rintro e w' ⟨rfl, rfl⟩)
      go_ret2
      exact ⟨rfl, Below.refl _ _⟩
    · have b3 : ¬ p < 0 := by omega
      go_enter Try.func29, Try.ntmps29
      go_wp2_with (go_at_call 24; refine (rIn_yes _ _ H1.out).mono ?_; rintro e w' ⟨rfl, rfl⟩)
      go_ret2
      exact ⟨rfl, Below.refl _ _⟩
  have b2 := okPlaces_true.1 h2
  have e : fmtS n p = (formS n p.toNat, 0) := by simp [fmtS, h1, h2]
  rw [e]
  obtain ⟨k, rfl⟩ := Int.eq_ofNat_of_zero_le b2.1
  exact rFormat_good n k w h1 (by omega)
end Go.Proofs.Ytejokpbmdhmhfaa
