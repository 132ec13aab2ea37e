/-
  Walks over package num and its reference: Parse.
-/
import Derived.Test.YtejokpbmdhmhfaaNumFR
namespace Go.Proofs.Ytejokpbmdhmhfaa
open Go.RowKit

/-- what readDigits returns -/
def rdRes (l : List UInt8) : Int × Bool := match rc l true 0 false with | some v => (v, true) | none => (0, false)
theorem rdRes_some {l : List UInt8} {v : Int} (h : rc l true 0 false = some v) : rdRes l = (v, true) := by unfold rdRes; rw [h]
theorem rdRes_none {l : List UInt8} (h : rc l true 0 false = none) : rdRes l = (0, false) := by unfold rdRes; rw [h]

theorem drop_at (s : ByteArray) (pos : Nat) (h : pos < s.size) : s.data.toList.drop pos = s[pos] :: s.data.toList.drop (pos + 1) := by
  have hl : pos < s.data.toList.length := by simpa using h
  rw [List.drop_eq_getElem_cons hl]; rfl
theorem drop_end (s : ByteArray) (pos : Nat) (h : ¬ pos < s.size) : s.data.toList.drop pos = [] := by
  apply List.drop_eq_nil_of_le
  have : s.data.toList.length = s.size := by simp
  omega
theorem isD_iff (c : UInt8) : isD c = decide (48 ≤ c.toNat ∧ c.toNat ≤ 57) := rfl
theorem u8_eq {c : UInt8} {n : Nat} (hn : n < 256) : c = UInt8.ofNat n ↔ c.toNat = n := by
  constructor
  · rintro rfl; rw [UInt8.toNat_ofNat']; omega
  · intro h; apply UInt8.toNat.inj; rw [UInt8.toNat_ofNat']; omega
theorem eq45 {c : UInt8} : c = 45 ↔ c.toNat = 45 := u8_eq (n := 45) (by omega)
theorem eq46 {c : UInt8} : c = 46 ↔ c.toNat = 46 := u8_eq (n := 46) (by omega)

theorem rc_digit {c : UInt8} {r : List UInt8} {f : Bool} {n : Nat} {neg : Bool} (h : 48 ≤ c.toNat ∧ c.toNat ≤ 57) (hn : 10 * n + (c.toNat - 48) ≤ 1125899906842624) : rc (c :: r) f n neg = rc r false (10 * n + (c.toNat - 48)) neg := by
  simp only [rc, isD_iff, h, and_self, decide_true, if_true, hn]
theorem rc_large {c : UInt8} {r : List UInt8} {f : Bool} {n : Nat} {neg : Bool} (h : 48 ≤ c.toNat ∧ c.toNat ≤ 57) (hn : ¬ 10 * n + (c.toNat - 48) ≤ 1125899906842624) : rc (c :: r) f n neg = none := by
  simp only [rc, isD_iff, h, and_self, decide_true, if_true, hn, if_false]
theorem rc_minus {c : UInt8} {r : List UInt8} {n : Nat} {neg : Bool} (h : c.toNat = 45) : rc (c :: r) true n neg = rc r false n true := by
  obtain rfl := eq45.2 h
  rfl
theorem rc_stop {c : UInt8} {r : List UInt8} {f : Bool} {n : Nat} {neg : Bool} (h : c.toNat = 46) : rc (c :: r) f n neg = rc r false n neg := by
  obtain rfl := eq46.2 h
  cases f <;> rfl
theorem rc_else {c : UInt8} {r : List UInt8} {f : Bool} {n : Nat} {neg : Bool} (h1 : ¬ (48 ≤ c.toNat ∧ c.toNat ≤ 57)) (h2 : ¬ (c.toNat = 45 ∧ f = true)) (h3 : c.toNat ≠ 46) : rc (c :: r) f n neg = none := by
  have h2' : ¬ (c = 45 ∧ f = true) := by rw [eq45]; exact h2
  have h3' : ¬ c = 46 := by rw [eq46]; exact h3
  simp only [rc, isD_iff, h1, decide_false, Bool.false_eq_true, if_false, h2', h3']

set_option maxRecDepth 20000 in
set_option maxHeartbeats 2000000 in
theorem readDigits_any (s : ByteArray) (w : World) (hs : s.size ≤ 9223372036854775807) :
    Calls Try.prog 43 #[.string s] w fun e w' => e = .returned (.tuple #[.int .i64 (rdRes s.data.toList).1, .bool (rdRes s.data.toList).2]) ∧ Below w.heap.size w w' := by
  go_enter Try.func43, Try.ntmps43
  go_wp2
  go_loopw [4, 5] (fun v g wr => ∃ (pos n : Nat) (neg : Bool), wr = w.iter s pos ∧ v = .int .i64 n ∧ g = .bool neg ∧ n ≤ 1125899906842624 ∧ Hid (rc (s.data.toList.drop pos) (pos == 0) n neg = rc s.data.toList true 0 false)) (fun _ _ wr => s.size - wr.iterPos w.heap.size)
  case atStart => exact ⟨0, 0, false, rfl, rfl, rfl, by omega, rfl⟩
  case round =>
    obtain ⟨pos, n, neg, rfl, rfl, rfl, hn, hrc⟩ := hrel
    have hbel : Below w.heap.size w (w.iter s pos) := (Below.refl _ _).alloc (Nat.le_refl _) _
    have hbel1 : Below w.heap.size w (w.iter s (pos + 1)) := (Below.refl _ _).alloc (Nat.le_refl _) _
    by_cases hp : pos < s.size
    · have hcons := drop_at s pos hp
      by_cases ha : (s[pos]'hp).toNat < 128
      · have hnx : ∀ ty, (Instr.next (.pointer (some ⟨w.heap.size, 0, none⟩)) true ty).run Try.prog (w.iter s pos) = _ := fun ty => run_next_ascii w s pos ty hp ha
        obtain ⟨c, hc⟩ : ∃ c, s[pos]'hp = c := ⟨_, rfl⟩
        rw [hc] at hcons hnx ha
        rw [hcons] at hrc
        obtain ⟨x, hx⟩ : ∃ x, c.toNat = x := ⟨_, rfl⟩
        rw [hx] at hnx ha
        have Hx := Lib.hid hx
        clear hc hx hcons
        by_cases hd : 48 ≤ x ∧ x ≤ 57
        · obtain ⟨hd1, hd2⟩ := hd
          by_cases hov : 10 * n + (x - 48) ≤ 1125899906842624
          · have hov' : ¬ 1125899906842624 < 10 * (n : Int) + ((x : Int) - 48) := by omega
            have step := rc_digit (c := c) (r := s.data.toList.drop (pos + 1)) (f := pos == 0) (n := n) (neg := neg) (by rw [Hx.out]; exact ⟨hd1, hd2⟩) (by rw [Hx.out]; exact hov)
            rw [hrc.out, Hx.out] at step
            have Step := Lib.hid step
            clear step hrc
            go_wp2
            go_roundw
            case rel => exact ⟨pos + 1, 10 * n + (x - 48), neg, rfl, by go_num, rfl, hov, by unfold Hid; rw [Step.out]; rfl⟩
            case measure => simp; omega
          · have hov' : 1125899906842624 < 10 * (n : Int) + ((x : Int) - 48) := by omega
            have step := rc_large (c := c) (r := s.data.toList.drop (pos + 1)) (f := pos == 0) (n := n) (neg := neg) (by rw [Hx.out]; exact ⟨hd1, hd2⟩) (by rw [Hx.out]; exact hov)
            rw [hrc.out] at step
            have Step := Lib.hid (rdRes_none step)
            clear step hrc hov
            go_wp2
            go_ret2
            exact ⟨by rw [Step.out]; rfl, hbel1⟩
        · by_cases h45 : x = 45
          · have e1 : ¬ 48 ≤ (x : Int) := by omega
            have e2 : ((x : Int) == 45) = true := by simp; omega
            by_cases hp0 : pos = 0
            · subst hp0
              have step := rc_minus (c := c) (r := s.data.toList.drop (0 + 1)) (n := n) (neg := neg) (by rw [Hx.out]; exact h45)
              have hrc' : rc (c :: s.data.toList.drop (0 + 1)) true n neg = rc s.data.toList true 0 false := hrc.out
              rw [hrc'] at step
              have Step := Lib.hid step
              clear step hrc hrc' h45 hd
              go_wp2
              go_roundw
              case rel => exact ⟨0 + 1, n, true, rfl, rfl, rfl, hn, by unfold Hid; rw [Step.out]; rfl⟩
              case measure => simp; omega
            · have hp1 : ((pos : Int) == 0) = false := by simp only [beq_eq_false_iff_ne]; omega
              have e3 : ((x : Int) != 46) = true := by simp only [bne_iff_ne]; omega
              have step := rc_else (c := c) (r := s.data.toList.drop (pos + 1)) (f := pos == 0) (n := n) (neg := neg) (by rw [Hx.out]; omega) (by rintro ⟨_, h⟩; simp only [beq_iff_eq] at h; exact hp0 h) (by rw [Hx.out]; omega)
              rw [hrc.out] at step
              have Step := Lib.hid (rdRes_none step)
              clear step hrc h45 hd hp0
              go_wp2
              go_ret2
              exact ⟨by rw [Step.out]; rfl, hbel1⟩
          · have e2 : ((x : Int) == 45) = false := by simp only [beq_eq_false_iff_ne]; omega
            by_cases h46 : x = 46
            · have e3 : ((x : Int) != 46) = false := by simp; omega
              have e1 : ¬ 48 ≤ (x : Int) := by omega
              have step := rc_stop (c := c) (r := s.data.toList.drop (pos + 1)) (f := pos == 0) (n := n) (neg := neg) (by rw [Hx.out]; exact h46)
              rw [hrc.out] at step
              have Step := Lib.hid step
              clear step hrc h46 h45 hd
              go_wp2
              go_roundw
              case rel => exact ⟨pos + 1, n, neg, rfl, rfl, rfl, hn, by unfold Hid; rw [Step.out]; rfl⟩
              case measure => simp; omega
            · have e3 : ((x : Int) != 46) = true := by simp only [bne_iff_ne]; omega
              have step := rc_else (c := c) (r := s.data.toList.drop (pos + 1)) (f := pos == 0) (n := n) (neg := neg) (by rw [Hx.out]; exact hd) (by rw [Hx.out]; rintro ⟨h, _⟩; exact h45 h) (by rw [Hx.out]; exact h46)
              rw [hrc.out] at step
              have Step := Lib.hid (rdRes_none step)
              by_cases e1 : 48 ≤ (x : Int)
              · have e4 : ¬ (x : Int) ≤ 57 := by omega
                clear step hrc h46 h45 hd
                go_wp2
                go_ret2
                exact ⟨by rw [Step.out]; rfl, hbel1⟩
              · clear step hrc h46 h45 hd
                go_wp2
                go_ret2
                exact ⟨by rw [Step.out]; rfl, hbel1⟩
      · have hnx : ∀ ty, (Instr.next (.pointer (some ⟨w.heap.size, 0, none⟩)) true ty).run Try.prog (w.iter s pos) = _ := fun ty => run_next_any w s pos ty hp
        have hhi := decode_high s pos hp (by omega)
        have hle := decode_le s pos
        have step := rc_else (c := s[pos]'hp) (r := s.data.toList.drop (pos + 1)) (f := pos == 0) (n := n) (neg := neg) (by omega) (by omega) (by omega)
        rw [← hcons, hrc.out] at step
        have Step := Lib.hid (rdRes_none step)
        have hbel2 : Below w.heap.size w (w.iter s (pos + (Utf8.decode s pos).2)) := (Below.refl _ _).alloc (Nat.le_refl _) _
        obtain ⟨R, hR⟩ : ∃ R, (Utf8.decode s pos).1 = R := ⟨_, rfl⟩
        obtain ⟨W, hW⟩ : ∃ W, (Utf8.decode s pos).2 = W := ⟨_, rfl⟩
        rw [hR] at hnx hhi hle
        rw [hW] at hnx hbel2
        have e1 : ¬ (R : Int) ≤ 57 := by omega
        have e2 : ((R : Int) == 45) = false := by simp only [beq_eq_false_iff_ne]; omega
        have e3 : ((R : Int) != 46) = true := by simp only [bne_iff_ne]; omega
        clear hR hW step hrc hcons ha
        go_wp2
        go_ret2
        exact ⟨by rw [Step.out]; rfl, hbel2⟩
    · have hnx : ∀ ty, (Instr.next (.pointer (some ⟨w.heap.size, 0, none⟩)) true ty).run Try.prog (w.iter s pos) = _ := fun ty => run_next_end w s pos ty hp
      have hend := drop_end s pos hp
      rw [hend] at hrc
      cases neg
      · have step : rc s.data.toList true 0 false = some (n : Int) := by rw [← hrc.out]; rfl
        have Step := Lib.hid (rdRes_some step)
        clear step hrc hend
        go_wp2
        go_ret2
        exact ⟨by rw [Step.out]; rfl, hbel⟩
      · have step : rc s.data.toList true 0 false = some (-(n : Int)) := by rw [← hrc.out]; rfl
        have Step := Lib.hid (rdRes_some step)
        clear step hrc hend
        go_wp2
        go_ret2
        exact ⟨by rw [Step.out]; rfl, hbel⟩

/-- what Parse returns -/
def parseS (l : List UInt8) (p : Int) : Int × Int := if okPlaces p then parseL l p.toNat else (0, 1)

theorem readDigits_none (s : ByteArray) (w : World) (hs : s.size ≤ 9223372036854775807) (h : rc s.data.toList true 0 false = none) :
    Calls Try.prog 43 #[.string s] w fun e w' => e = .returned (.tuple #[.int .i64 0, .bool false]) ∧ Below w.heap.size w w' := by
  have := readDigits_any s w hs
  rwa [rdRes_none h] at this
theorem readDigits_some (s : ByteArray) (w : World) (v : Int) (hs : s.size ≤ 9223372036854775807) (h : rc s.data.toList true 0 false = some v) :
    Calls Try.prog 43 #[.string s] w fun e w' => e = .returned (.tuple #[.int .i64 v, .bool true]) ∧ Below w.heap.size w w' := by
  have := readDigits_any s w hs
  rwa [rdRes_some h] at this
theorem format_is (n : Int) (p : Nat) (w : World) (hn : inRB n = true) (hp : p ≤ 6) (s : ByteArray) (h : s.data.toList = formS n p) :
    Calls Try.prog 28 #[.int .i64 n, .int .i64 p] w fun e w' => e = .returned (.tuple #[.string s, .int .i64 0]) ∧ Below w.heap.size w w' := by
  have := format_good n p w hn hp
  rwa [← str_of h] at this
theorem rFormat_is (n : Int) (p : Nat) (w : World) (hn : inRB n = true) (hp : p ≤ 6) (s : ByteArray) (h : s.data.toList = formS n p) :
    Calls Try.prog 29 #[.int .i64 n, .int .i64 p] w fun e w' => e = .returned (.tuple #[.string s, .int .i64 0]) ∧ Below w.heap.size w w' := by
  have := rFormat_good n p w hn hp
  rwa [← str_of h] at this
theorem rFormat_range (n : Int) (p : Int) (w : World) (hn : inRB n = false) :
    Calls Try.prog 29 #[.int .i64 n, .int .i64 p] w fun e w' => e = .returned (.tuple #[.string ⟨#[]⟩, .int .i64 1]) ∧ Below w.heap.size w w' := by
  have := rFormat_any n p w
  rwa [show fmtS n p = ([], 1) by simp [fmtS, hn]] at this
theorem inRB_abs {n : Int} (h : n.natAbs ≤ 1125899906842624) : inRB n = true := inRB_true.2 (by omega)

set_option maxHeartbeats 1000000 in
theorem parse_any (s : ByteArray) (p : Int) (w : World) (hs : s.size ≤ 9223372036854775807) :
    Calls Try.prog 30 #[.string s, .int .i64 p] w fun e w' => e = .returned (.tuple #[.int .i64 (parseS s.data.toList p).1, .int .i64 (parseS s.data.toList p).2]) ∧ Below w.heap.size w w' := by
  cases h2 : okPlaces p
  · have e : parseS s.data.toList p = (0, 1) := by simp [parseS, h2]
    rw [e]
    have H2 := Lib.hid h2
    clear e h2
    go_enter Try.func30, Try.ntmps30
    go_wp2_with (go_at_call 41; refine (validPlaces_is _ _ _ H2.out).mono ?_; rintro e w' ⟨rfl, rfl⟩)
    go_ret2
    exact ⟨rfl, Below.refl _ _⟩
  have b2 := okPlaces_true.1 h2
  obtain ⟨k, rfl⟩ := Int.eq_ofNat_of_zero_le b2.1
  have e : parseS s.data.toList k = parseL s.data.toList k := by simp [parseS, h2]
  rw [e]
  have H2 := Lib.hid h2
  have hk6 : k ≤ 6 := by omega
  clear e h2
  cases hr : rc s.data.toList true 0 false with
  | none =>
    rw [parse_none hr]
    have HR := Lib.hid hr
    clear hr
    go_enter Try.func30, Try.ntmps30
    go_wp2_with (first
      | (go_at_call 41; refine (validPlaces_is _ _ _ H2.out).mono ?_; rintro e w' ⟨rfl, rfl⟩)
      | (go_at_call 43; refine (readDigits_none s _ hs HR.out).mono ?_; rintro e w1 ⟨rfl, hb1⟩))
    go_ret2
    exact ⟨rfl, hb1⟩
  | some v =>
    have hv := inRB_abs (rc_range _ _ _ _ _ (by omega) hr)
    have HV := Lib.hid hv
    have HR := Lib.hid hr
    obtain ⟨t, ht⟩ : ∃ t : ByteArray, t.data.toList = formS v k := ⟨⟨(formS v k).toArray⟩, by simp⟩
    have HT := Lib.hid ht
    by_cases hf : t.data.toList = s.data.toList
    · have e : parseL s.data.toList k = (v, 0) := parse_yes hr (by rw [← ht, hf])
      rw [e]
      have hts : (t.toList == s.toList) = true := by rw [ByteArray.toList_eq, ByteArray.toList_eq, hf]; simp
      clear e hr hv ht hf
      go_enter Try.func30, Try.ntmps30
      go_wp2_with (first
        | (go_at_call 41; refine (validPlaces_is _ _ _ H2.out).mono ?_; rintro e w' ⟨rfl, rfl⟩)
        | (go_at_call 43; refine (readDigits_some s _ v hs HR.out).mono ?_; rintro e w1 ⟨rfl, hb1⟩)
        | (go_at_call 28; refine (format_is v k _ HV.out hk6 t HT.out).mono ?_; rintro e w2 ⟨rfl, hb2⟩))
      go_ret2
      exact ⟨rfl, hb1.trans (hb2.mono hb1.size)⟩
    · have e : parseL s.data.toList k = (0, 3) := parse_no hr (by rw [← ht]; exact hf)
      rw [e]
      have hts : (t.toList == s.toList) = false := by rw [ByteArray.toList_eq, ByteArray.toList_eq]; simpa using hf
      clear e hr hv ht hf
      go_enter Try.func30, Try.ntmps30
      go_wp2_with (first
        | (go_at_call 41; refine (validPlaces_is _ _ _ H2.out).mono ?_; rintro e w' ⟨rfl, rfl⟩)
        | (go_at_call 43; refine (readDigits_some s _ v hs HR.out).mono ?_; rintro e w1 ⟨rfl, hb1⟩)
        | (go_at_call 28; refine (format_is v k _ HV.out hk6 t HT.out).mono ?_; rintro e w2 ⟨rfl, hb2⟩))
      go_ret2
      exact ⟨rfl, hb1.trans (hb2.mono hb1.size)⟩

theorem rd_stop (l : List UInt8) (n : Nat) (h : ¬ n ≤ 1125899906842624) : rd l n = n := by
  cases l with
  | nil => rfl
  | cons c r => rw [rd, if_neg h]
theorem rd_digit {c : UInt8} {r : List UInt8} {n : Nat} (hn : n ≤ 1125899906842624) (h : 48 ≤ c.toNat ∧ c.toNat ≤ 57) : rd (c :: r) n = rd r (10 * n + (c.toNat - 48)) := by
  rw [rd, if_pos hn]; simp only [isD_iff, h, and_self, decide_true, if_true]
theorem rd_other {c : UInt8} {r : List UInt8} {n : Nat} (hn : n ≤ 1125899906842624) (h : ¬ (48 ≤ c.toNat ∧ c.toNat ≤ 57)) : rd (c :: r) n = rd r n := by
  rw [rd, if_pos hn]; simp only [isD_iff, h, decide_false, Bool.false_eq_true, if_false]

/-- the end of the reference's Parse -/
theorem parseL_far {l : List UInt8} {p : Nat} (h : ¬ (cand l).natAbs ≤ 1125899906842624) : parseL l p = (0, 3) := by
  unfold parseL; rw [if_neg (fun h2 => h h2.1)]
theorem parseL_yes {l : List UInt8} {p : Nat} (h : (cand l).natAbs ≤ 1125899906842624) (hf : formS (cand l) p = l) : parseL l p = (cand l, 0) := by
  unfold parseL; rw [if_pos ⟨h, hf⟩]
theorem parseL_no {l : List UInt8} {p : Nat} (hf : formS (cand l) p ≠ l) : parseL l p = (0, 3) := by
  unfold parseL; rw [if_neg (fun h2 => hf h2.2)]

set_option maxRecDepth 20000 in
set_option maxHeartbeats 4000000 in
theorem rParse_any (s : ByteArray) (p : Int) (w : World) (hs : s.size ≤ 9223372036854775807) :
    Calls Try.prog 31 #[.string s, .int .i64 p] w fun e w' => e = .returned (.tuple #[.int .i64 (parseS s.data.toList p).1, .int .i64 (parseS s.data.toList p).2]) ∧ Below w.heap.size w w' := by
  cases h2 : okPlaces p
  · have e : parseS s.data.toList p = (0, 1) := by simp [parseS, h2]
    rw [e]
    have b2 := okPlaces_false.1 h2
    clear e h2
    rcases b2 with b2 | b2
    · go_enter Try.func31, Try.ntmps31
      go_wp2
      go_ret2
      exact ⟨rfl, Below.refl _ _⟩
    · have b3 : ¬ p < 0 := by omega
      go_enter Try.func31, Try.ntmps31
      go_wp2
      go_ret2
      exact ⟨rfl, Below.refl _ _⟩
  have b2 := okPlaces_true.1 h2
  obtain ⟨k, rfl⟩ := Int.eq_ofNat_of_zero_le b2.1
  have e : parseS s.data.toList k = parseL s.data.toList k := by simp [parseS, h2]
  rw [e]
  have hk6 : k ≤ 6 := by omega
  have b3 : ¬ (k : Int) < 0 := by omega
  have b4 : ¬ 6 < (k : Int) := by omega
  clear e h2 b2
  go_enter Try.func31, Try.ntmps31
  go_wp2
  go_loop [6, 7] (fun v i => ∃ (pos n : Nat), pos ≤ s.size ∧ v = .int .i64 n ∧ i = .int .i64 pos ∧ n ≤ 11258999068426249 ∧ Hid (rd (s.data.toList.drop pos) n = rd s.data.toList 0)) (fun _ i => s.size - (intOf i).toNat)
  case atStart => exact ⟨0, 0, by omega, rfl, rfl, by omega, rfl⟩
  case round =>
    obtain ⟨pos, n, hpos, rfl, rfl, hn, hrd⟩ := hrel
    by_cases hgo : pos < s.size ∧ n ≤ 1125899906842624
    · obtain ⟨hp, hnm⟩ := hgo
      have hcons := drop_at s pos hp
      rw [hcons] at hrd
      clear hcons
      by_cases hd : 48 ≤ (s[pos]'hp).toNat ∧ (s[pos]'hp).toNat ≤ 57
      · have step := rd_digit (r := s.data.toList.drop (pos + 1)) hnm hd
        rw [hrd.out] at step
        have Step := Lib.hid step
        obtain ⟨hd1, hd2⟩ := hd
        clear step hrd
        go_wp2
        go_round
        case rel => exact ⟨pos + 1, 10 * n + ((s[pos]'hp).toNat - 48), by omega, by go_num, by go_num, by omega, by unfold Hid; rw [Step.out]⟩
        case measure => simp [intOf]; omega
      · have step := rd_other (r := s.data.toList.drop (pos + 1)) hnm hd
        rw [hrd.out] at step
        have Step := Lib.hid step
        clear step hrd
        by_cases hd1 : 48 ≤ (s[pos]'hp).toNat
        · have hd2 : ¬ (s[pos]'hp).toNat ≤ 57 := by omega
          clear hd
          go_wp2
          go_round
          case rel => exact ⟨pos + 1, n, by omega, rfl, by go_num, by omega, by unfold Hid; rw [Step.out]⟩
          case measure => simp [intOf]; omega
        · clear hd
          go_wp2
          go_round
          case rel => exact ⟨pos + 1, n, by omega, rfl, by go_num, by omega, by unfold Hid; rw [Step.out]⟩
          case measure => simp [intOf]; omega
    · have hfin : rd s.data.toList 0 = n := by
        rw [← hrd.out]
        by_cases hp : pos < s.size
        · exact rd_stop _ _ (fun h => hgo ⟨hp, h⟩)
        · rw [drop_end s pos hp]; rfl
      have HF := Lib.hid hfin
      clear hrd hfin
      by_cases h0 : 0 < s.size
      · have hcons := drop_at s 0 h0
        rw [List.drop_zero] at hcons
        have hE : s.toList.isEmpty = false := by rw [ByteArray.toList_eq, hcons]; rfl
        by_cases hm : (s[0]'h0).toNat = 45
        · have hc : cand s.data.toList = -(n : Int) := by
            unfold cand; rw [HF.out, hcons]; simp [eq45.2 hm]
          have HC := Lib.hid hc
          have hm' : (((s[0]'h0).toNat : Int) == 45) = true := by simp; omega
          clear hc hm hcons
          by_cases hp : pos < s.size
          · have hbig : ¬ n ≤ 1125899906842624 := fun h => hgo ⟨hp, h⟩
            clear hgo
            by_cases hfar : (cand s.data.toList).natAbs ≤ 1125899906842624
            · have hv := inRB_abs hfar
              rw [HC.out] at hv
              have HV := Lib.hid hv
              obtain ⟨t, ht⟩ : ∃ t : ByteArray, t.data.toList = formS (-(n : Int)) k := ⟨⟨(formS (-(n : Int)) k).toArray⟩, by simp⟩
              have HT := Lib.hid ht
              by_cases hf : t.data.toList = s.data.toList
              · have e : parseL s.data.toList k = ((-(n : Int)), 0) := by
                  rw [parseL_yes hfar (by rw [HC.out, ← ht, hf]), HC.out]
                have HE := Lib.hid e
                have hts : (t.toList == s.toList) = true := by rw [ByteArray.toList_eq, ByteArray.toList_eq, hf]; simp
                clear e hf ht hv hfar
                go_wp2_with (go_at_call 29; refine (rFormat_is (-(n : Int)) k _ HV.out hk6 t HT.out).mono ?_; rintro e w2 ⟨rfl, hb2⟩)
                go_ret2
                exact ⟨by rw [HE.out]; rfl, hb2⟩
              · have e : parseL s.data.toList k = (0, 3) := parseL_no (by rw [HC.out, ← ht]; exact hf)
                have HE := Lib.hid e
                have hts : (t.toList == s.toList) = false := by rw [ByteArray.toList_eq, ByteArray.toList_eq]; simpa using hf
                clear e hf ht hv hfar
                go_wp2_with (go_at_call 29; refine (rFormat_is (-(n : Int)) k _ HV.out hk6 t HT.out).mono ?_; rintro e w2 ⟨rfl, hb2⟩)
                go_ret2
                exact ⟨by rw [HE.out]; rfl, hb2⟩
            · have hv : inRB (-(n : Int)) = false := by rw [HC.out] at hfar; rw [inRB_false]; omega
              have HV := Lib.hid hv
              have HE := Lib.hid (parseL_far (p := k) hfar)
              clear hv hfar
              go_wp2_with (go_at_call 29; refine (rFormat_range (-(n : Int)) k _ HV.out).mono ?_; rintro e w2 ⟨rfl, hb2⟩)
              go_ret2
              exact ⟨by rw [HE.out]; rfl, hb2⟩
          · clear hgo
            by_cases hfar : (cand s.data.toList).natAbs ≤ 1125899906842624
            · have hv := inRB_abs hfar
              rw [HC.out] at hv
              have HV := Lib.hid hv
              obtain ⟨t, ht⟩ : ∃ t : ByteArray, t.data.toList = formS (-(n : Int)) k := ⟨⟨(formS (-(n : Int)) k).toArray⟩, by simp⟩
              have HT := Lib.hid ht
              by_cases hf : t.data.toList = s.data.toList
              · have e : parseL s.data.toList k = ((-(n : Int)), 0) := by
                  rw [parseL_yes hfar (by rw [HC.out, ← ht, hf]), HC.out]
                have HE := Lib.hid e
                have hts : (t.toList == s.toList) = true := by rw [ByteArray.toList_eq, ByteArray.toList_eq, hf]; simp
                clear e hf ht hv hfar
                go_wp2_with (go_at_call 29; refine (rFormat_is (-(n : Int)) k _ HV.out hk6 t HT.out).mono ?_; rintro e w2 ⟨rfl, hb2⟩)
                go_ret2
                exact ⟨by rw [HE.out]; rfl, hb2⟩
              · have e : parseL s.data.toList k = (0, 3) := parseL_no (by rw [HC.out, ← ht]; exact hf)
                have HE := Lib.hid e
                have hts : (t.toList == s.toList) = false := by rw [ByteArray.toList_eq, ByteArray.toList_eq]; simpa using hf
                clear e hf ht hv hfar
                go_wp2_with (go_at_call 29; refine (rFormat_is (-(n : Int)) k _ HV.out hk6 t HT.out).mono ?_; rintro e w2 ⟨rfl, hb2⟩)
                go_ret2
                exact ⟨by rw [HE.out]; rfl, hb2⟩
            · have hv : inRB (-(n : Int)) = false := by rw [HC.out] at hfar; rw [inRB_false]; omega
              have HV := Lib.hid hv
              have HE := Lib.hid (parseL_far (p := k) hfar)
              clear hv hfar
              go_wp2_with (go_at_call 29; refine (rFormat_range (-(n : Int)) k _ HV.out).mono ?_; rintro e w2 ⟨rfl, hb2⟩)
              go_ret2
              exact ⟨by rw [HE.out]; rfl, hb2⟩
        · have hc : cand s.data.toList = (n : Int) := by
            unfold cand; rw [HF.out, hcons]; simp [eq45, hm]
          have HC := Lib.hid hc
          have hm' : (((s[0]'h0).toNat : Int) == 45) = false := by simp only [beq_eq_false_iff_ne]; omega
          clear hc hm hcons
          by_cases hp : pos < s.size
          · have hbig : ¬ n ≤ 1125899906842624 := fun h => hgo ⟨hp, h⟩
            clear hgo
            by_cases hfar : (cand s.data.toList).natAbs ≤ 1125899906842624
            · have hv := inRB_abs hfar
              rw [HC.out] at hv
              have HV := Lib.hid hv
              obtain ⟨t, ht⟩ : ∃ t : ByteArray, t.data.toList = formS (n : Int) k := ⟨⟨(formS (n : Int) k).toArray⟩, by simp⟩
              have HT := Lib.hid ht
              by_cases hf : t.data.toList = s.data.toList
              · have e : parseL s.data.toList k = ((n : Int), 0) := by
                  rw [parseL_yes hfar (by rw [HC.out, ← ht, hf]), HC.out]
                have HE := Lib.hid e
                have hts : (t.toList == s.toList) = true := by rw [ByteArray.toList_eq, ByteArray.toList_eq, hf]; simp
                clear e hf ht hv hfar
                go_wp2_with (go_at_call 29; refine (rFormat_is (n : Int) k _ HV.out hk6 t HT.out).mono ?_; rintro e w2 ⟨rfl, hb2⟩)
                go_ret2
                exact ⟨by rw [HE.out]; rfl, hb2⟩
              · have e : parseL s.data.toList k = (0, 3) := parseL_no (by rw [HC.out, ← ht]; exact hf)
                have HE := Lib.hid e
                have hts : (t.toList == s.toList) = false := by rw [ByteArray.toList_eq, ByteArray.toList_eq]; simpa using hf
                clear e hf ht hv hfar
                go_wp2_with (go_at_call 29; refine (rFormat_is (n : Int) k _ HV.out hk6 t HT.out).mono ?_; rintro e w2 ⟨rfl, hb2⟩)
                go_ret2
                exact ⟨by rw [HE.out]; rfl, hb2⟩
            · have hv : inRB (n : Int) = false := by rw [HC.out] at hfar; rw [inRB_false]; omega
              have HV := Lib.hid hv
              have HE := Lib.hid (parseL_far (p := k) hfar)
              clear hv hfar
              go_wp2_with (go_at_call 29; refine (rFormat_range (n : Int) k _ HV.out).mono ?_; rintro e w2 ⟨rfl, hb2⟩)
              go_ret2
              exact ⟨by rw [HE.out]; rfl, hb2⟩
          · clear hgo
            by_cases hfar : (cand s.data.toList).natAbs ≤ 1125899906842624
            · have hv := inRB_abs hfar
              rw [HC.out] at hv
              have HV := Lib.hid hv
              obtain ⟨t, ht⟩ : ∃ t : ByteArray, t.data.toList = formS (n : Int) k := ⟨⟨(formS (n : Int) k).toArray⟩, by simp⟩
              have HT := Lib.hid ht
              by_cases hf : t.data.toList = s.data.toList
              · have e : parseL s.data.toList k = ((n : Int), 0) := by
                  rw [parseL_yes hfar (by rw [HC.out, ← ht, hf]), HC.out]
                have HE := Lib.hid e
                have hts : (t.toList == s.toList) = true := by rw [ByteArray.toList_eq, ByteArray.toList_eq, hf]; simp
                clear e hf ht hv hfar
                go_wp2_with (go_at_call 29; refine (rFormat_is (n : Int) k _ HV.out hk6 t HT.out).mono ?_; rintro e w2 ⟨rfl, hb2⟩)
                go_ret2
                exact ⟨by rw [HE.out]; rfl, hb2⟩
              · have e : parseL s.data.toList k = (0, 3) := parseL_no (by rw [HC.out, ← ht]; exact hf)
                have HE := Lib.hid e
                have hts : (t.toList == s.toList) = false := by rw [ByteArray.toList_eq, ByteArray.toList_eq]; simpa using hf
                clear e hf ht hv hfar
                go_wp2_with (go_at_call 29; refine (rFormat_is (n : Int) k _ HV.out hk6 t HT.out).mono ?_; rintro e w2 ⟨rfl, hb2⟩)
                go_ret2
                exact ⟨by rw [HE.out]; rfl, hb2⟩
            · have hv : inRB (n : Int) = false := by rw [HC.out] at hfar; rw [inRB_false]; omega
              have HV := Lib.hid hv
              have HE := Lib.hid (parseL_far (p := k) hfar)
              clear hv hfar
              go_wp2_with (go_at_call 29; refine (rFormat_range (n : Int) k _ HV.out).mono ?_; rintro e w2 ⟨rfl, hb2⟩)
              go_ret2
              exact ⟨by rw [HE.out]; rfl, hb2⟩
      · have hnil := drop_end s 0 h0
        rw [List.drop_zero] at hnil
        have hE : s.toList.isEmpty = true := by rw [ByteArray.toList_eq, hnil]; rfl
        have hc : cand s.data.toList = (n : Int) := by
          unfold cand; rw [HF.out, hnil]; simp
        have HC := Lib.hid hc
        have hp : ¬ pos < s.size := by omega
        clear hc hnil hgo
        by_cases hfar : (cand s.data.toList).natAbs ≤ 1125899906842624
        · have hv := inRB_abs hfar
          rw [HC.out] at hv
          have HV := Lib.hid hv
          obtain ⟨t, ht⟩ : ∃ t : ByteArray, t.data.toList = formS (n : Int) k := ⟨⟨(formS (n : Int) k).toArray⟩, by simp⟩
          have HT := Lib.hid ht
          by_cases hf : t.data.toList = s.data.toList
          · have e : parseL s.data.toList k = ((n : Int), 0) := by
              rw [parseL_yes hfar (by rw [HC.out, ← ht, hf]), HC.out]
            have HE := Lib.hid e
            have hts : (t.toList == s.toList) = true := by rw [ByteArray.toList_eq, ByteArray.toList_eq, hf]; simp
            clear e hf ht hv hfar
            go_wp2_with (go_at_call 29; refine (rFormat_is (n : Int) k _ HV.out hk6 t HT.out).mono ?_; rintro e w2 ⟨rfl, hb2⟩)
            go_ret2
            exact ⟨by rw [HE.out]; rfl, hb2⟩
          · have e : parseL s.data.toList k = (0, 3) := parseL_no (by rw [HC.out, ← ht]; exact hf)
            have HE := Lib.hid e
            have hts : (t.toList == s.toList) = false := by rw [ByteArray.toList_eq, ByteArray.toList_eq]; simpa using hf
            clear e hf ht hv hfar
            go_wp2_with (go_at_call 29; refine (rFormat_is (n : Int) k _ HV.out hk6 t HT.out).mono ?_; rintro e w2 ⟨rfl, hb2⟩)
            go_ret2
            exact ⟨by rw [HE.out]; rfl, hb2⟩
        · have hv : inRB (n : Int) = false := by rw [HC.out] at hfar; rw [inRB_false]; omega
          have HV := Lib.hid hv
          have HE := Lib.hid (parseL_far (p := k) hfar)
          clear hv hfar
          go_wp2_with (go_at_call 29; refine (rFormat_range (n : Int) k _ HV.out).mono ?_; rintro e w2 ⟨rfl, hb2⟩)
          go_ret2
          exact ⟨by rw [HE.out]; rfl, hb2⟩
end Go.Proofs.Ytejokpbmdhmhfaa
