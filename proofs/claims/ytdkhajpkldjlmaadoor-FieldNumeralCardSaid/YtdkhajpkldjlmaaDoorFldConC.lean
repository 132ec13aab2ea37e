/-
  The contracts of the landed package field: readQuoted, readField.
-/
import Derived.Test.YtdkhajpkldjlmaaDoorFldConB
namespace Go.Proofs.YtdkhajpkldjlmaaDoor
set_option linter.unusedVariables false
set_option linter.unusedSimpArgs false
open Go.RowKit

def GivesTwo (w : World) (r : List UInt8 × List UInt8) (e : Ending) (w' : World) : Prop := e = .returned (.tuple #[.string (ofL r.1), .string (ofL r.2)]) ∧ Below w.heap.size w w'
theorem trim_is {t : ByteArray} {r : List UInt8} (h : trimSp t.data.toList = r) (w : World) :
    Calls Tryd.prog 37 #[.string t, .string ⟨#[32]⟩] w fun e w' => e = .returned (.string (ofL r)) ∧ w' = w := by
  refine (trim_any t w).mono ?_
  rintro e w' ⟨rfl, rfl⟩
  exact ⟨by rw [h], rfl⟩

set_option maxRecDepth 20000 in
set_option maxHeartbeats 8000000 in
theorem readQ_any (s : ByteArray) (w : World) (hs : s.size ≤ 900000) :
    Calls Tryd.prog 27 #[.string s] w (GivesTwo w ((rq false s.data.toList).1, trimSp (rq false s.data.toList).2)) := by
  obtain ⟨R, hR⟩ : ∃ R, rq false s.data.toList = R := ⟨_, rfl⟩
  have HR := Lib.hid hR
  rw [hR]
  clear hR
  go_enter Tryd.func27, Tryd.ntmps27
  go_wp2
  go_step3
  go_wp2
  go_step3
  go_wp2
  go_loopw [4, 5, 6, 7, 8, 11] (fun x f r _ _ i wr => ∃ (k m : Nat) (e : Bool) (acc : List UInt8), k ≤ s.size ∧ i = .int .i64 k ∧ f = .bool e ∧ r = .string ⟨#[]⟩ ∧ m ≤ k ∧ Hid (acc.length = m) ∧ wr.ownsRow w.heap.size 5 1 x m (bytV acc) ∧ Hid (R = (acc ++ (rq e (s.data.toList.drop k)).1, (rq e (s.data.toList.drop k)).2)) ∧ Below w.heap.size w wr) (fun _ _ _ _ _ i _ => s.size - (intOf i).toNat)
  case atStart => exact ⟨0, 0, false, [], Nat.zero_le _, rfl, rfl, rfl, Nat.le_refl _, rfl, World.ownsRow_nil _ _ _ _, HR.out.symm, Below.refl _ _⟩
  case round =>
    obtain ⟨k, m, e, acc, hk, rfl, rfl, rfl, hm, Hm, own, Hq, hb0⟩ := hrel
    have hsz := hb0.size
    by_cases hlt : k < s.size
    · have Ht := Lib.hid (tail_at s k hlt)
      obtain ⟨c, hc⟩ : ∃ c, s[k]'hlt = c := ⟨_, rfl⟩
      rw [hc] at Ht
      have hu : c.toNat < 256 := c.toNat_lt
      cases e
      · by_cases h1 : c.toNat = 34
        · have n1 : ((c.toNat : Int) == 34) = true := by simp; omega
          obtain ⟨t, ht, hzt, hst⟩ := slice_from s k 1 1 rfl (by omega)
          have E := Lib.hid (show R = (acc, s.data.toList.drop (k + 1)) by rw [Hq.out, Ht.out, rq_quote h1]; simp)
          have HT := Lib.hid (show trimSp t.data.toList = trimSp R.2 by rw [ht, E.out])
          obtain ⟨p, cap, rfl, hlen, hrd, -⟩ := own_reads own
          have hcv : ∀ q, (convert 45 9 (.slice p m cap)).run Tryd.prog (wr.drewN q) = .ok (.string (ofL acc)) (wr.drewN q) := fun q => run_string_bytes (P := Tryd.prog) Tryd.underlying45 Tryd.underlying5 Tryd.underlying9 (wr.drewN q) p _ m cap Hm.out (hrd.drewN q)
          have hwr : IntKind.i64.wrap ((k : Int) + 1) = (k : Int) + 1 := IntWalk.i64_in _ (by omega)
          clear h1 ht hzt hlen hrd own hwr
          go_wp2
          go_quiet ((go_at_call 37; exact Calls.quiet_of_same (trim_is HT.out _)))
          go_wp2
          rw [Exit.noGoto_ret]
          go_ret2
          exact ⟨by rw [E.out]; rfl, by (repeat' first | with_reducible assumption | exact Below.refl _ _ | with_reducible refine Below.drew ?_ | with_reducible refine Below.drewN ?_ _ | with_reducible refine Below.alloc' ?_ _ | with_reducible refine Below.setCell ?_ (by first | exact Nat.le_refl _ | omega | (simp; done) | (simp; omega)) _ | with_reducible refine Below.after ?_ ‹_›)⟩
        · have n1 : ((c.toNat : Int) == 34) = false := by simp; omega
          by_cases h2 : c.toNat = 92
          · have n2 : ((c.toNat : Int) == 92) = true := by simp; omega
            have E := Lib.hid (show R = (acc ++ (rq true (s.data.toList.drop (k + 1))).1, (rq true (s.data.toList.drop (k + 1))).2) by rw [Hq.out, Ht.out, rq_back h2])
            clear h1 h2
            go_wp2
            go_roundw
            case rel => exact ⟨k + 1, m, true, acc, by omega, by go_num, rfl, rfl, by omega, Hm.out, own, E.out, hb0⟩
            case measure => simp [intOf]; omega
          · have n2 : ((c.toNat : Int) == 92) = false := by simp; omega
            have E := Lib.hid (show R = ((acc ++ [c]) ++ (rq false (s.data.toList.drop (k + 1))).1, (rq false (s.data.toList.drop (k + 1))).2) by rw [Hq.out, Ht.out, rq_else h1 h2]; simp)
            have Hm2 := Lib.hid (show (acc ++ [c]).length = m + 1 by rw [List.length_append, Hm.out]; rfl)
            clear h1 h2
            go_wp2_with (at_builtin; refine wpList_append_reads rfl (.tmp 17) (.tmp 19) Tryd.underlying45 info_byt rfl (by omega) rfl w.heap.size _ m (bytV acc) rfl (own.alloc _) (some ⟨_, 0, none⟩) 1 1 (bytV [c]) rfl rfl (reads_lit _ (bytV [c]) _ rfl) (bytV_one _) (by omega) (by simp; omega) ?_; intro v2 w2 o2 g2 e3)
            have hb2 := below_based hb0 g2 hsz (own_base own)
            rw [← bytV_append] at o2
            go_roundw
            case rel => exact ⟨k + 1, m + 1, false, acc ++ [c], by omega, by go_num, rfl, rfl, by omega, Hm2.out, o2, E.out, hb2⟩
            case measure => simp [intOf]; omega
      · have E := Lib.hid (show R = ((acc ++ [c]) ++ (rq false (s.data.toList.drop (k + 1))).1, (rq false (s.data.toList.drop (k + 1))).2) by rw [Hq.out, Ht.out, rq_esc]; simp)
        have Hm2 := Lib.hid (show (acc ++ [c]).length = m + 1 by rw [List.length_append, Hm.out]; rfl)
        have key : (((c.toNat : Int) == 34) = true ∧ ((c.toNat : Int) == 92) = false) ∨ (((c.toNat : Int) == 34) = false ∧ ((c.toNat : Int) == 92) = true) ∨ (((c.toNat : Int) == 34) = false ∧ ((c.toNat : Int) == 92) = false) := by
          by_cases h1 : c.toNat = 34
          · left; exact ⟨by simp; omega, by simp; omega⟩
          · by_cases h2 : c.toNat = 92
            · right; left; exact ⟨by simp; omega, by simp; omega⟩
            · right; right; exact ⟨by simp; omega, by simp; omega⟩
        rcases key with ⟨n1, n2⟩ | ⟨n1, n2⟩ | ⟨n1, n2⟩
        all_goals
          go_wp2_with (at_builtin; refine wpList_append_reads rfl (.tmp 17) (.tmp 19) Tryd.underlying45 info_byt rfl (by omega) rfl w.heap.size _ m (bytV acc) rfl (own.alloc _) (some ⟨_, 0, none⟩) 1 1 (bytV [c]) rfl rfl (reads_lit _ (bytV [c]) _ rfl) (bytV_one _) (by omega) (by simp; omega) ?_; intro v2 w2 o2 g2 e3)
          have hb2 := below_based hb0 g2 hsz (own_base own)
          rw [← bytV_append] at o2
          go_roundw
          case rel => exact ⟨k + 1, m + 1, false, acc ++ [c], by omega, by go_num, rfl, rfl, by omega, Hm2.out, o2, E.out, hb2⟩
          case measure => simp [intOf]; omega
    · have E := Lib.hid (show R = (acc, []) by rw [Hq.out, tail_end s k hlt, rq_nil]; simp)
      have HT := Lib.hid (show trimSp (⟨#[]⟩ : ByteArray).data.toList = trimSp R.2 by rw [E.out])
      obtain ⟨p, cap, rfl, hlen, hrd, -⟩ := own_reads own
      have hcv : ∀ q, (convert 45 9 (.slice p m cap)).run Tryd.prog (wr.drewN q) = .ok (.string (ofL acc)) (wr.drewN q) := fun q => run_string_bytes (P := Tryd.prog) Tryd.underlying45 Tryd.underlying5 Tryd.underlying9 (wr.drewN q) p _ m cap Hm.out (hrd.drewN q)
      clear hlen hrd own
      go_wp2
      go_quiet ((go_at_call 37; exact Calls.quiet_of_same (trim_is HT.out _)))
      go_wp2
      go_ret2
      exact ⟨by rw [E.out]; rfl, by (repeat' first | with_reducible assumption | exact Below.refl _ _ | with_reducible refine Below.drew ?_ | with_reducible refine Below.drewN ?_ _ | with_reducible refine Below.alloc' ?_ _ | with_reducible refine Below.setCell ?_ (by first | exact Nat.le_refl _ | omega | (simp; done) | (simp; omega)) _ | with_reducible refine Below.after ?_ ‹_›)⟩

theorem readL_quote (s : ByteArray) (h : 0 < s.size) (h0 : (s[0]'h).toNat = 34) : readL s.data.toList = ((rq false (s.data.toList.drop 1)).1, trimSp (rq false (s.data.toList.drop 1)).2) := by
  have e := tail_at s 0 h
  rw [List.drop_zero] at e
  rw [e]
  unfold readL
  simp only []
  rw [if_pos h0]
  rfl
theorem readL_plain (s : ByteArray) (h : 0 < s.size) (h0 : (s[0]'h).toNat ≠ 34) : readL s.data.toList = (s.data.toList.takeWhile notSp, (s.data.toList.dropWhile notSp).tail) := by
  have e := tail_at s 0 h
  rw [List.drop_zero] at e
  rw [e]
  unfold readL
  simp only []
  rw [if_neg h0]
theorem readQ_is {t : ByteArray} {r : List UInt8 × List UInt8} (h : ((rq false t.data.toList).1, trimSp (rq false t.data.toList).2) = r) (w : World) (hs : t.size ≤ 900000) :
    Calls Tryd.prog 27 #[.string t] w (GivesTwo w r) := by
  have := readQ_any t w hs
  rwa [h] at this
theorem cut_is {c : UInt8} {s : ByteArray} {x y : ByteArray} (hx : ofL (s.data.toList.takeWhile (notB c)) = x) (hy : ofL (s.data.toList.dropWhile (notB c)).tail = y) (w : World) (hs : s.size ≤ 1000000) :
    Calls Tryd.prog 21 #[.string s, .string ⟨#[c]⟩] w fun e w' => ∃ b : Bool, e = .returned (.tuple #[.string x, .string y, .bool b]) ∧ Below w.heap.size w w' := by
  have := cut_any c s w hs
  unfold CutOf at this
  rwa [hx, hy] at this

set_option maxRecDepth 20000 in
set_option maxHeartbeats 4000000 in
theorem readF_any (s : ByteArray) (w : World) (h0 : 0 < s.size) (hs : s.size ≤ 900000) :
    Calls Tryd.prog 17 #[.string s] w (GivesTwo w (readL s.data.toList)) := by
  obtain ⟨R, hR⟩ : ∃ R, readL s.data.toList = R := ⟨_, rfl⟩
  have HR := Lib.hid hR
  rw [hR]
  clear hR
  obtain ⟨y, hy⟩ : ∃ y : Nat, (s[0]'h0).toNat = y := ⟨_, rfl⟩
  by_cases hq : y = 34
  · have n1 : ((y : Int) == 34) = true := by simp; omega
    obtain ⟨t, ht, hzt, hst0⟩ := slice_drop s 1 (by omega)
    have hst : ∀ W, (Instr.slice 9 (.string s) (some (.int .i64 1)) none none).run Tryd.prog W = .ok (.string t) W := hst0
    clear hst0
    have i1 : decide ((s.size : Int) < 1) = false := decide_eq_false (by omega)
    have i2 : (1 : Int) ≤ (s.size : Int) := by omega
    have HQ := Lib.hid (readQ_is (t := t) (r := R) (by rw [ht, ← HR.out, readL_quote s h0 (by rw [hy]; exact hq)]) w (by omega))
    clear hq ht hzt
    go_enter Tryd.func17, Tryd.ntmps17
    go_wp2_with fail
    ((with_reducible refine HQ.out.mono ?_))
    rintro e w1 ⟨rfl, hb⟩
    go_wp2
    go_ret2
    exact ⟨rfl, hb⟩
  · have n1 : ((y : Int) == 34) = false := by simp; omega
    have E := Lib.hid (show R = (s.data.toList.takeWhile notSp, (s.data.toList.dropWhile notSp).tail) by rw [← HR.out, readL_plain s h0 (by rw [hy]; exact hq)])
    obtain ⟨x, hx⟩ : ∃ x, ofL (s.data.toList.takeWhile (notB 32)) = x := ⟨_, rfl⟩
    obtain ⟨z, hz⟩ : ∃ z, ofL (s.data.toList.dropWhile (notB 32)).tail = z := ⟨_, rfl⟩
    have HC := Lib.hid (cut_is hx hz w (by omega))
    have hxs : x.size ≤ s.size := by
      rw [← hx, ofL_size]
      exact (span_len (notB 32) s.data.toList).1
    have E2 := Lib.hid (show (⟨x.data.toList, z.data.toList⟩ : List UInt8 × List UInt8) = R by rw [E.out, ← hx, ← hz, notB_sp]; rfl)
    clear hq hx hz
    go_enter Tryd.func17, Tryd.ntmps17
    go_wp2_with fail
    refine HC.out.mono ?_
    rintro e w1 ⟨b, rfl, hb⟩
    go_wp2_with fail
    refine (clone_any x w1 (by omega)).mono ?_
    rintro e w2 ⟨rfl, hb2⟩
    go_wp2
    go_ret2
    exact ⟨by rw [← E2.out]; rfl, by (repeat' first | with_reducible assumption | exact Below.refl _ _ | with_reducible refine Below.drew ?_ | with_reducible refine Below.drewN ?_ _ | with_reducible refine Below.alloc' ?_ _ | with_reducible refine Below.setCell ?_ (by first | exact Nat.le_refl _ | omega | (simp; done) | (simp; omega)) _ | with_reducible refine Below.after ?_ ‹_›)⟩
end Go.Proofs.YtdkhajpkldjlmaaDoor
