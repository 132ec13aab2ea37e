/-
  Walks over package clock: readTime, Parse.
-/
import Derived.Test.YtjmbbhhfbdjbdaaDoorClkS
import Derived.Test.YtjmbbhhfbdjbdaaDoorClkI
namespace Go.Proofs.YtjmbbhhfbdjbdaaDoor
open Go.RowKit

theorem unit_cell {w : World} (h : Tabs w) {p : Nat} (hp : p < 4) : w.cell? ⟨0, p, none⟩ = some (.int .i64 (unitC p)) := by
  match p, hp with
  | 0, _ => exact h.u0
  | 1, _ => exact h.u1
  | 2, _ => exact h.u2
  | 3, _ => exact h.u3
theorem unit_bound (p : Nat) : 1 ≤ unitC p ∧ unitC p ≤ 86400 := by
  unfold unitC
  split <;> omega
theorem below_iter (w : World) (s : ByteArray) (pos : Nat) : Below w.heap.size w (w.iter s pos) := by
  have := (Below.refl w.heap.size w).alloc (Nat.le_refl _) (.stringIter s pos)
  exact this
theorem decode_one (s : ByteArray) (pos : Nat) (h : pos < s.size) :
    1 ≤ (Utf8.decode s pos).2 ∧ (Utf8.decode s pos).1 ≤ 2147483647 ∧ (((Utf8.decode s pos).1 < 128 ∧ (Utf8.decode s pos).1 = (s[pos]'h).toNat ∧ (Utf8.decode s pos).2 = 1) ∨ (128 ≤ (Utf8.decode s pos).1 ∧ 128 ≤ (s[pos]'h).toNat)) := by
  by_cases ha : (s[pos]'h).toNat < 128
  · rw [decode_ascii s pos h ha]
    exact ⟨Nat.le_refl _, by simp only []; omega, Or.inl ⟨ha, rfl, rfl⟩⟩
  · have := decode_high s pos h (by omega)
    exact ⟨this.2, decode_le s pos, Or.inr ⟨this.1, by omega⟩⟩

theorem rdT_end (s : ByteArray) (pos : Nat) (h : ¬ pos < s.size) (t n : Int) (p : Nat) : rdT (s.data.toList.drop pos) t n p = t + n * unitC p := by
  rw [tail_end s pos h]; rfl

set_option maxRecDepth 100000 in
set_option maxHeartbeats 8000000 in
theorem readTime_any (s : ByteArray) (w : World) (hT : Tabs w) :
    Calls Tryd.prog 35 #[.string s] w fun e w' => e = .returned (.int .i64 (rdT s.data.toList 0 0 0)) ∧ Below w.heap.size w w' := by
  have HT := Lib.hid (fun pos p (hp : p < 4) => unit_cell (hT.on (below_iter w s pos)) hp)
  clear hT
  obtain ⟨R, hR⟩ : ∃ R, rdT s.data.toList 0 0 0 = R := ⟨_, rfl⟩
  have HR := Lib.hid hR
  rw [hR]
  clear hR
  go_enter Tryd.func35, Tryd.ntmps35
  go_wp2
  go_step3
  go_wp2
  go_step3
  go_wp2
  go_loopw [3, 4, 5, 7] (fun a3 a4 a5 _ wr => ∃ (pos p : Nat) (t n : Int), wr = w.iter s pos ∧ a3 = .int .i64 t ∧ a4 = .int .i64 n ∧ a5 = .int .i64 p ∧ p ≤ 3 ∧ 0 ≤ t ∧ t ≤ 40000000000 * p ∧ 0 ≤ n ∧ n ≤ 365249 ∧ Hid (rdT (s.data.toList.drop pos) t n p = R)) (fun _ _ _ _ wr => s.size - wr.iterPos w.heap.size)
  case atStart => exact ⟨0, 0, 0, 0, rfl, rfl, rfl, rfl, by omega, by omega, by omega, by omega, by omega, HR⟩
  case round =>
    obtain ⟨pos, p, t, n, rfl, rfl, rfl, rfl, hp3, t0, t1, n0, n1, Hrd⟩ := hrel
    obtain ⟨U, hU⟩ : ∃ U, unitC p = U := ⟨_, rfl⟩
    have bU := unit_bound p
    rw [hU] at bU
    obtain ⟨bU1, bU2⟩ := bU
    obtain ⟨V, hV⟩ : ∃ V, n * U = V := ⟨_, rfl⟩
    have v0 : 0 ≤ V := by rw [← hV]; exact Int.mul_nonneg n0 (by omega)
    have v1 : V ≤ 40000000000 := by
      have : n * U ≤ 365249 * 86400 := Int.mul_le_mul n1 bU2 (by omega) (by omega)
      omega
    have HVU := Lib.hid (show n * unitC p = V by rw [hU, hV])
    have p0 : (0 : Int) ≤ (p : Int) := by omega
    have p1 : (p : Int) < 4 := by omega
    by_cases hp : pos < s.size
    · have hnx : ∀ ty, (Instr.next (.pointer (some ⟨w.heap.size, 0, none⟩)) true ty).run Tryd.prog (w.iter s pos) = _ := fun ty => run_next_any w s pos ty hp
      have hone := decode_one s pos hp
      have hcell := HT.out (pos + (Utf8.decode s pos).2) p (by omega)
      rw [hU] at hcell
      have Htail := Lib.hid (tail_at s pos hp)
      obtain ⟨c, hc⟩ : ∃ c, s[pos] = c := ⟨_, rfl⟩
      rw [hc] at hone Htail
      have Hrd2 := Lib.hid (show rdT (c :: s.data.toList.drop (pos + 1)) t n p = R by rw [← Htail.out]; exact Hrd.out)
      obtain ⟨⟨r, wd⟩, hd⟩ : ∃ z, Utf8.decode s pos = z := ⟨_, rfl⟩
      rw [hd] at hnx hone hcell
      simp only [] at hnx hone hcell
      obtain ⟨hw1, hr1, hcase⟩ := hone
      have hwd1 : 48 ≤ c.toNat ∧ c.toNat ≤ 57 ∨ c.toNat = 32 ∨ c.toNat = 58 → r = c.toNat ∧ wd = 1 := by omega
      have hrc : r = 32 ∨ r = 58 ∨ (48 ≤ r ∧ r ≤ 57) → r = c.toNat := by omega
      have Hcr := Lib.hid (show c.toNat = r ∨ (128 ≤ r ∧ 128 ≤ c.toNat) by omega)
      clear hc hd hU hcase
      by_cases h1 : 48 ≤ r ∧ r ≤ 57
      · obtain ⟨h1a, h1b⟩ := h1
        have hcr := hrc (by omega)
        have hwd := (hwd1 (by omega)).2
        subst hwd
        clear hwd1 hrc
        have g1 : (48 : Int) ≤ (r : Int) := by omega
        have g2 : (r : Int) ≤ 57 := by omega
        by_cases h3 : n ≤ 36524
        · have E := Lib.hid (show rdT (s.data.toList.drop (pos + 1)) t (10 * n + ((r : Int) - 48)) p = R by
            have := Hrd2.out
            rw [rdT_digit ⟨by omega, by omega, h3⟩, ← hcr] at this
            exact this)
          clear hcr
          go_wp2
          go_roundw
          case rel => exact ⟨pos + 1, p, t, 10 * n + ((r : Int) - 48), rfl, rfl, by go_num, rfl, hp3, t0, t1, by omega, by omega, E.out⟩
          case measure => simp; omega
        · have E := Lib.hid (show t + V = R by
            have := Hrd2.out
            rw [rdT_stop (by omega) (by omega), HVU.out] at this
            exact this)
          have h3' : decide (n ≤ 36524) = false := by simpa using h3
          have e1 : ((r : Int) == 32) = false := by simp; omega
          have e2 : ((r : Int) == 58) = false := by simp; omega
          clear h3 hcr
          go_wp2
          rw [Exit.noGoto_ret]
          go_ret
          exact ⟨by rw [← E.out]; rfl, below_iter w s _⟩
      · by_cases h4 : r = 32 ∨ r = 58
        · have hcr := hrc (by omega)
          have hwd := (hwd1 (by omega)).2
          subst hwd
          clear hwd1 hrc
          by_cases h6 : p < 3
          · have q1 : (p : Int) + 1 < 4 := by omega
            have E := Lib.hid (show rdT (s.data.toList.drop (pos + 1)) (t + V) 0 (p + 1) = R by
              have := Hrd2.out
              rw [rdT_sep (by omega) (by omega), HVU.out] at this
              exact this)
            rcases h4 with h4 | h4
            · have g1 : decide ((48 : Int) ≤ (r : Int)) = false := by simp; omega
              have e1 : ((r : Int) == 32) = true := by simp; omega
              clear h1 h4 hcr
              go_wp2
              go_roundw
              case rel => exact ⟨pos + 1, p + 1, t + V, 0, rfl, rfl, rfl, by go_num, by omega, by omega, by omega, by omega, by omega, E.out⟩
              case measure => simp; omega
            · have g1 : (48 : Int) ≤ (r : Int) := by omega
              have g2 : decide ((r : Int) ≤ 57) = false := by simp; omega
              have e1 : ((r : Int) == 32) = false := by simp; omega
              have e2 : ((r : Int) == 58) = true := by simp; omega
              clear h1 h4 hcr
              go_wp2
              go_roundw
              case rel => exact ⟨pos + 1, p + 1, t + V, 0, rfl, rfl, rfl, by go_num, by omega, by omega, by omega, by omega, by omega, E.out⟩
              case measure => simp; omega
          · have q1 : decide ((p : Int) + 1 < 4) = false := by simp; omega
            have E := Lib.hid (show t + V = R by
              have := Hrd2.out
              rw [rdT_stop (by omega) (by omega), HVU.out] at this
              exact this)
            rcases h4 with h4 | h4
            · have g1 : decide ((48 : Int) ≤ (r : Int)) = false := by simp; omega
              have e1 : ((r : Int) == 32) = true := by simp; omega
              clear h1 h4 hcr
              go_wp2
              rw [Exit.noGoto_ret]
              go_ret
              exact ⟨by rw [← E.out]; rfl, below_iter w s _⟩
            · have g1 : (48 : Int) ≤ (r : Int) := by omega
              have g2 : decide ((r : Int) ≤ 57) = false := by simp; omega
              have e1 : ((r : Int) == 32) = false := by simp; omega
              have e2 : ((r : Int) == 58) = true := by simp; omega
              clear h1 h4 hcr
              go_wp2
              rw [Exit.noGoto_ret]
              go_ret
              exact ⟨by rw [← E.out]; rfl, below_iter w s _⟩
        · have E := Lib.hid (show t + V = R by
            have := Hrd2.out
            rw [rdT_stop (by omega) (by omega), HVU.out] at this
            exact this)
          clear hwd1 hrc
          by_cases h5 : 48 ≤ r
          · have g1 : (48 : Int) ≤ (r : Int) := by omega
            have g2 : decide ((r : Int) ≤ 57) = false := by simp; omega
            have e1 : ((r : Int) == 32) = false := by simp; omega
            have e2 : ((r : Int) == 58) = false := by simp; omega
            clear h1 h4 h5 Hcr
            go_wp2
            rw [Exit.noGoto_ret]
            go_ret
            exact ⟨by rw [← E.out]; rfl, below_iter w s _⟩
          · have g1 : decide ((48 : Int) ≤ (r : Int)) = false := by simp; omega
            have e1 : ((r : Int) == 32) = false := by simp; omega
            have e2 : ((r : Int) == 58) = false := by simp; omega
            clear h1 h4 h5 Hcr
            go_wp2
            rw [Exit.noGoto_ret]
            go_ret
            exact ⟨by rw [← E.out]; rfl, below_iter w s _⟩
    · have hnx : ∀ ty, (Instr.next (.pointer (some ⟨w.heap.size, 0, none⟩)) true ty).run Tryd.prog (w.iter s pos) = _ := fun ty => run_next_end w s pos ty hp
      have hcell := HT.out pos p (by omega)
      rw [hU] at hcell
      have E := Lib.hid (show t + V = R by
        have := Hrd.out
        rw [rdT_end s pos hp, HVU.out] at this
        exact this)
      clear hU
      go_wp2
      rw [Exit.noGoto_ret]
      go_ret
      exact ⟨by rw [← E.out]; rfl, below_iter w s _⟩

set_option maxRecDepth 20000 in
set_option maxHeartbeats 2000000 in
theorem parse_any (s : ByteArray) (w : World) (hT : Tabs w) :
    Calls Tryd.prog 19 #[.string s] w fun e w' => e = .returned (.tuple #[.int .i64 (parseC s.data.toList).1, .int .i64 (parseC s.data.toList).2]) ∧ Below w.heap.size w w' := by
  have hread := readTime_any s w hT
  have honly : ∀ t', mB t' = true → fmtC t' = s.data.toList → rdT s.data.toList 0 0 0 = t' := fun t' h1 h2 => by rw [← h2, rdT_fmt h1]
  obtain ⟨R, hR⟩ : ∃ R, rdT s.data.toList 0 0 0 = R := ⟨_, rfl⟩
  rw [hR] at hread honly
  have HO := Lib.hid honly
  clear hR honly
  have Hread := Lib.hid hread
  clear hread
  cases hm : mB R
  · have e : parseC s.data.toList = (0, 3) := parseC_no (fun t' h1 h2 => by
      have h3 := HO.out t' h1 h2
      rw [h3, h1] at hm
      cases hm)
    rw [e]
    have HF := Lib.hid (fun W hT => formatC_no hm ▸ format_any R W hT)
    clear hm e
    go_enter Tryd.func19, Tryd.ntmps19
    go_wp2_with fail
    refine Hread.out.mono ?_
    rintro e w1 ⟨rfl, hb1⟩
    go_wp2_with fail
    refine (HF.out _ (hT.on hb1)).mono ?_
    rintro e w2 ⟨rfl, hb2⟩
    go_wp2
    go_ret2
    exact ⟨rfl, by (repeat' first | with_reducible assumption | exact Below.refl _ _ | with_reducible refine Below.drew ?_ | with_reducible refine Below.drewN ?_ _ | with_reducible refine Below.alloc' ?_ _ | with_reducible refine Below.setCell ?_ (by first | exact Nat.le_refl _ | omega | (simp; done) | (simp; omega)) _ | with_reducible refine Below.after ?_ ‹_›)⟩
  · obtain ⟨u, hu⟩ : ∃ u : ByteArray, u.data.toList = fmtC R := ⟨⟨(fmtC R).toArray⟩, rfl⟩
    have HF := Lib.hid (show ∀ W, Tabs W → Calls Tryd.prog 17 #[.int .i64 R] W fun e w' => e = .returned (.tuple #[.string u, .int .i64 0]) ∧ Below W.heap.size W w' from fun W hT => by
      have h := format_any R W hT
      rwa [formatC_yes hm, ← str_of hu] at h)
    by_cases hf : u.data.toList = s.data.toList
    · have e : parseC s.data.toList = (R, 0) := parseC_yes hm (by rw [← hu, hf])
      rw [e]
      have hts : (u.toList == s.toList) = true := by rw [ByteArray.toList_eq, ByteArray.toList_eq, hf]; simp
      clear hm e hu hf
      go_enter Tryd.func19, Tryd.ntmps19
      go_wp2_with fail
      refine Hread.out.mono ?_
      rintro e w1 ⟨rfl, hb1⟩
      go_wp2_with fail
      refine (HF.out _ (hT.on hb1)).mono ?_
      rintro e w2 ⟨rfl, hb2⟩
      go_wp2
      go_ret2
      exact ⟨rfl, by (repeat' first | with_reducible assumption | exact Below.refl _ _ | with_reducible refine Below.drew ?_ | with_reducible refine Below.drewN ?_ _ | with_reducible refine Below.alloc' ?_ _ | with_reducible refine Below.setCell ?_ (by first | exact Nat.le_refl _ | omega | (simp; done) | (simp; omega)) _ | with_reducible refine Below.after ?_ ‹_›)⟩
    · have e : parseC s.data.toList = (0, 3) := parseC_no (fun t' h1 h2 => by
        have h3 := HO.out t' h1 h2
        rw [h3, h2] at hu
        exact hf hu)
      rw [e]
      have hts : (u.toList == s.toList) = false := by rw [ByteArray.toList_eq, ByteArray.toList_eq]; simpa using hf
      clear hm e hu hf
      go_enter Tryd.func19, Tryd.ntmps19
      go_wp2_with fail
      refine Hread.out.mono ?_
      rintro e w1 ⟨rfl, hb1⟩
      go_wp2_with fail
      refine (HF.out _ (hT.on hb1)).mono ?_
      rintro e w2 ⟨rfl, hb2⟩
      go_wp2
      go_ret2
      exact ⟨rfl, by (repeat' first | with_reducible assumption | exact Below.refl _ _ | with_reducible refine Below.drew ?_ | with_reducible refine Below.drewN ?_ _ | with_reducible refine Below.alloc' ?_ _ | with_reducible refine Below.setCell ?_ (by first | exact Nat.le_refl _ | omega | (simp; done) | (simp; omega)) _ | with_reducible refine Below.after ?_ ‹_›)⟩
end Go.Proofs.YtjmbbhhfbdjbdaaDoor
