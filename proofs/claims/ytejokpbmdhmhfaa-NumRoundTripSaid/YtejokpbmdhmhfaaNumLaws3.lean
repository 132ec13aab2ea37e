/-
  The walk of NumRoundTrip.
-/
import Derived.Test.YtejokpbmdhmhfaaNumLaws2
namespace Go.Proofs.Ytejokpbmdhmhfaa
open Go.RowKit

set_option maxRecDepth 100000 in
set_option maxHeartbeats 1000000 in
theorem rt_A1_Fail (n p : Int) (s : ByteArray) (w : World) (hs : s.size ≤ 9223372036854775807) (h1 : inRB n = false) (e : Int) (he : e ≠ 0) (hp : parseS s.data.toList p = (0, e)) :
    Calls Try.prog 11 #[.int .i64 n, .int .i64 p, .string s] w fun e w' => e = .returned (.bool true) ∧ Below w.heap.size w w' := by
  have HF := Lib.hid (fmtS_bad (n := n) (p := p) (by simp [h1]))
  have H1 := Lib.hid h1
  clear h1
  have HP := Lib.hid hp
  have he' : (e != 0) = true := by simp [he]
  clear he hp
  go_enter Try.func11, Try.ntmps11
  go_wp2_with fail
  refine (format_val HF.out _).mono ?_
  rintro e w1 ⟨rfl, hb1⟩
  unfold str
  go_wp2_with fail
  refine (rIn_no n _ H1.out).mono ?_
  rintro e w' ⟨rfl, rfl⟩
  go_wp2_with fail
  refine (parse_is hs HP.out _).mono ?_
  rintro r w2 ⟨rfl, hb2⟩
  go_wp2_with fail
  refine (awake_any _).mono ?_
  rintro r w3 ⟨rfl, hb3⟩
  go_wp2
  go_ret
  have c0 := hb1
  have c1 := c0.trans (hb2.mono c0.size)
  have c2 := c1.trans (hb3.mono c1.size)
  exact ⟨rfl, c2⟩

set_option maxRecDepth 100000 in
set_option maxHeartbeats 1000000 in
theorem rt_A1_Good (n p : Int) (s : ByteArray) (w : World) (hs : s.size ≤ 9223372036854775807) (h1 : inRB n = false) (m : Int) (hp : parseS s.data.toList p = (m, 0)) (hm : inRB m = true) (hp0 : 0 ≤ p ∧ p ≤ 6) (hf : formS m p.toNat = s.data.toList) :
    Calls Try.prog 11 #[.int .i64 n, .int .i64 p, .string s] w fun e w' => e = .returned (.bool true) ∧ Below w.heap.size w w' := by
  have HF := Lib.hid (fmtS_bad (n := n) (p := p) (by simp [h1]))
  have H1 := Lib.hid h1
  clear h1
  have HP := Lib.hid hp
  have HM := Lib.hid hm
  have HS := Lib.hid hf
  have HP0 := Lib.hid hp0
  have hse : (s.toList == s.toList) = true := by simp
  clear hp hm hf hp0
  go_enter Try.func11, Try.ntmps11
  go_wp2_with fail
  refine (format_val HF.out _).mono ?_
  rintro e w1 ⟨rfl, hb1⟩
  unfold str
  go_wp2_with fail
  refine (rIn_no n _ H1.out).mono ?_
  rintro e w' ⟨rfl, rfl⟩
  go_wp2_with fail
  refine (parse_is hs HP.out _).mono ?_
  rintro r w2 ⟨rfl, hb2⟩
  go_wp2_with fail
  refine (format_str HM.out HP0.out HS.out.symm _).mono ?_
  rintro r w5 ⟨rfl, hb5⟩
  go_wp2_with fail
  refine (awake_any _).mono ?_
  rintro r w3 ⟨rfl, hb3⟩
  go_wp2
  go_ret
  have c0 := hb1
  have c1 := c0.trans (hb2.mono c0.size)
  have c2 := c1.trans (hb5.mono c1.size)
  have c3 := c2.trans (hb3.mono c2.size)
  exact ⟨rfl, c3⟩

set_option maxRecDepth 100000 in
set_option maxHeartbeats 1000000 in
theorem rt_A2_Fail (n p : Int) (s : ByteArray) (w : World) (hs : s.size ≤ 9223372036854775807) (h1 : inRB n = true) (h2 : p < 0) (e : Int) (he : e ≠ 0) (hp : parseS s.data.toList p = (0, e)) :
    Calls Try.prog 11 #[.int .i64 n, .int .i64 p, .string s] w fun e w' => e = .returned (.bool true) ∧ Below w.heap.size w w' := by
  have HF := Lib.hid (fmtS_bad (n := n) (p := p) (by have := okPlaces_false.2 (.inl h2 : p < 0 ∨ 6 < p); simp [this]))
  have H1 := Lib.hid h1
  have h3 : ¬ 0 ≤ p := by omega
  clear h1
  have HP := Lib.hid hp
  have he' : (e != 0) = true := by simp [he]
  clear he hp
  go_enter Try.func11, Try.ntmps11
  go_wp2_with fail
  refine (format_val HF.out _).mono ?_
  rintro e w1 ⟨rfl, hb1⟩
  unfold str
  go_wp2_with fail
  refine (rIn_yes n _ H1.out).mono ?_
  rintro e w' ⟨rfl, rfl⟩
  go_wp2_with fail
  refine (parse_is hs HP.out _).mono ?_
  rintro r w2 ⟨rfl, hb2⟩
  go_wp2_with fail
  refine (awake_any _).mono ?_
  rintro r w3 ⟨rfl, hb3⟩
  go_wp2
  go_ret
  have c0 := hb1
  have c1 := c0.trans (hb2.mono c0.size)
  have c2 := c1.trans (hb3.mono c1.size)
  exact ⟨rfl, c2⟩

set_option maxRecDepth 100000 in
set_option maxHeartbeats 1000000 in
theorem rt_A3_Fail (n p : Int) (s : ByteArray) (w : World) (hs : s.size ≤ 9223372036854775807) (h1 : inRB n = true) (h2 : 6 < p) (e : Int) (he : e ≠ 0) (hp : parseS s.data.toList p = (0, e)) :
    Calls Try.prog 11 #[.int .i64 n, .int .i64 p, .string s] w fun e w' => e = .returned (.bool true) ∧ Below w.heap.size w w' := by
  have HF := Lib.hid (fmtS_bad (n := n) (p := p) (by have := okPlaces_false.2 (.inr h2 : p < 0 ∨ 6 < p); simp [this]))
  have H1 := Lib.hid h1
  have h3 : 0 ≤ p := by omega
  clear h1
  have HP := Lib.hid hp
  have he' : (e != 0) = true := by simp [he]
  clear he hp
  go_enter Try.func11, Try.ntmps11
  go_wp2_with fail
  refine (format_val HF.out _).mono ?_
  rintro e w1 ⟨rfl, hb1⟩
  unfold str
  go_wp2_with fail
  refine (rIn_yes n _ H1.out).mono ?_
  rintro e w' ⟨rfl, rfl⟩
  go_wp2_with fail
  refine (parse_is hs HP.out _).mono ?_
  rintro r w2 ⟨rfl, hb2⟩
  go_wp2_with fail
  refine (awake_any _).mono ?_
  rintro r w3 ⟨rfl, hb3⟩
  go_wp2
  go_ret
  have c0 := hb1
  have c1 := c0.trans (hb2.mono c0.size)
  have c2 := c1.trans (hb3.mono c1.size)
  exact ⟨rfl, c2⟩

set_option maxRecDepth 100000 in
set_option maxHeartbeats 1000000 in
theorem rt_B_Fail (n p : Int) (s : ByteArray) (w : World) (hs : s.size ≤ 9223372036854775807) (h1 : inRB n = true) (h2 : 0 ≤ p ∧ p ≤ 6) (e : Int) (he : e ≠ 0) (hp : parseS s.data.toList p = (0, e)) :
    Calls Try.prog 11 #[.int .i64 n, .int .i64 p, .string s] w fun e w' => e = .returned (.bool true) ∧ Below w.heap.size w w' := by
  obtain ⟨t, ht⟩ : ∃ t : ByteArray, t.data.toList = formS n p.toNat := ⟨⟨(formS n p.toNat).toArray⟩, by simp⟩
  have HT := Lib.hid ht
  have htp : parseS t.data.toList p = (n, 0) := by
    rw [ht]
    have bn := inRB_true.1 h1
    simp only [parseS, okPlaces_true.2 h2, if_true]
    exact parse_form n p.toNat (by omega)
  have HTP := Lib.hid htp
  have hts : t.size ≤ 9223372036854775807 := by
    have bn := inRB_true.1 h1
    have h3 := fmt_size n p.toNat
    have h4 := wid_le (p := p.toNat) (m := n.natAbs) (by omega) (by omega)
    have h5 := size_of ht
    omega
  have H1 := Lib.hid h1
  obtain ⟨h2a, h2b⟩ := h2
  clear h1 ht htp
  have HP := Lib.hid hp
  have he' : (e != 0) = true := by simp [he]
  clear he hp
  go_enter Try.func11, Try.ntmps11
  go_wp2_with fail
  refine (format_str H1.out ⟨h2a, h2b⟩ HT.out _).mono ?_
  rintro e w1 ⟨rfl, hb1⟩
  go_wp2_with fail
  refine (rIn_yes n _ H1.out).mono ?_
  rintro e w' ⟨rfl, rfl⟩
  go_wp2_with fail
  refine (parse_is hts HTP.out _).mono ?_
  rintro e w4 ⟨rfl, hb4⟩
  go_wp2_with fail
  refine (parse_is hs HP.out _).mono ?_
  rintro r w2 ⟨rfl, hb2⟩
  go_wp2_with fail
  refine (awake_any _).mono ?_
  rintro r w3 ⟨rfl, hb3⟩
  go_wp2
  go_ret
  have c0 := hb1
  have c1 := c0.trans (hb4.mono c0.size)
  have c2 := c1.trans (hb2.mono c1.size)
  have c3 := c2.trans (hb3.mono c2.size)
  exact ⟨rfl, c3⟩

set_option maxRecDepth 100000 in
set_option maxHeartbeats 1000000 in
theorem rt_B_Good (n p : Int) (s : ByteArray) (w : World) (hs : s.size ≤ 9223372036854775807) (h1 : inRB n = true) (h2 : 0 ≤ p ∧ p ≤ 6) (m : Int) (hp : parseS s.data.toList p = (m, 0)) (hm : inRB m = true) (hp0 : 0 ≤ p ∧ p ≤ 6) (hf : formS m p.toNat = s.data.toList) :
    Calls Try.prog 11 #[.int .i64 n, .int .i64 p, .string s] w fun e w' => e = .returned (.bool true) ∧ Below w.heap.size w w' := by
  obtain ⟨t, ht⟩ : ∃ t : ByteArray, t.data.toList = formS n p.toNat := ⟨⟨(formS n p.toNat).toArray⟩, by simp⟩
  have HT := Lib.hid ht
  have htp : parseS t.data.toList p = (n, 0) := by
    rw [ht]
    have bn := inRB_true.1 h1
    simp only [parseS, okPlaces_true.2 h2, if_true]
    exact parse_form n p.toNat (by omega)
  have HTP := Lib.hid htp
  have hts : t.size ≤ 9223372036854775807 := by
    have bn := inRB_true.1 h1
    have h3 := fmt_size n p.toNat
    have h4 := wid_le (p := p.toNat) (m := n.natAbs) (by omega) (by omega)
    have h5 := size_of ht
    omega
  have H1 := Lib.hid h1
  obtain ⟨h2a, h2b⟩ := h2
  clear h1 ht htp
  have HP := Lib.hid hp
  have HM := Lib.hid hm
  have HS := Lib.hid hf
  have HP0 := Lib.hid hp0
  have hse : (s.toList == s.toList) = true := by simp
  clear hp hm hf hp0
  go_enter Try.func11, Try.ntmps11
  go_wp2_with fail
  refine (format_str H1.out ⟨h2a, h2b⟩ HT.out _).mono ?_
  rintro e w1 ⟨rfl, hb1⟩
  go_wp2_with fail
  refine (rIn_yes n _ H1.out).mono ?_
  rintro e w' ⟨rfl, rfl⟩
  go_wp2_with fail
  refine (parse_is hts HTP.out _).mono ?_
  rintro e w4 ⟨rfl, hb4⟩
  go_wp2_with fail
  refine (parse_is hs HP.out _).mono ?_
  rintro r w2 ⟨rfl, hb2⟩
  go_wp2_with fail
  refine (format_str HM.out HP0.out HS.out.symm _).mono ?_
  rintro r w5 ⟨rfl, hb5⟩
  go_wp2_with fail
  refine (awake_any _).mono ?_
  rintro r w3 ⟨rfl, hb3⟩
  go_wp2
  go_ret
  have c0 := hb1
  have c1 := c0.trans (hb4.mono c0.size)
  have c2 := c1.trans (hb2.mono c1.size)
  have c3 := c2.trans (hb5.mono c2.size)
  have c4 := c3.trans (hb3.mono c3.size)
  exact ⟨rfl, c4⟩

theorem numRoundTrip_walk (n p : Int) (s : ByteArray) (w : World) (_h0 : (Lit.int .i64 n).wf = true) (_h1 : (Lit.int .i64 p).wf = true) (h2 : s.size ≤ maxLen) :
    Calls Try.prog 11 #[.int .i64 n, .int .i64 p, .string s] w fun e w' => e = .returned (.bool true) ∧ Below w.heap.size w w' := by
  unfold maxLen at h2
  cases h1 : inRB n
  · rcases parse_cases s.data.toList p with h | h | ⟨m, h, hm, hp0, hp6, hf⟩
    · exact rt_A1_Fail n p s w h2 h1 1 (by decide) h
    · exact rt_A1_Fail n p s w h2 h1 3 (by decide) h
    · exact rt_A1_Good n p s w h2 h1 m h hm ⟨hp0, hp6⟩ hf
  · by_cases ha : p < 0
    · rcases parse_cases s.data.toList p with h | h | ⟨m, h, hm, hp0, hp6, hf⟩
      · exact rt_A2_Fail n p s w h2 h1 ha 1 (by decide) h
      · exact rt_A2_Fail n p s w h2 h1 ha 3 (by decide) h
      · omega
    · by_cases hb : 6 < p
      · rcases parse_cases s.data.toList p with h | h | ⟨m, h, hm, hp0, hp6, hf⟩
        · exact rt_A3_Fail n p s w h2 h1 hb 1 (by decide) h
        · exact rt_A3_Fail n p s w h2 h1 hb 3 (by decide) h
        · omega
      · rcases parse_cases s.data.toList p with h | h | ⟨m, h, hm, hp0, hp6, hf⟩
        · exact rt_B_Fail n p s w h2 h1 ⟨by omega, by omega⟩ 1 (by decide) h
        · exact rt_B_Fail n p s w h2 h1 ⟨by omega, by omega⟩ 3 (by decide) h
        · exact rt_B_Good n p s w h2 h1 ⟨by omega, by omega⟩ m h hm ⟨hp0, hp6⟩ hf
end Go.Proofs.Ytejokpbmdhmhfaa
