/-
  The contracts of the landed table: New.
-/
import Derived.Test.YteemacgknmidaaaIdConB
namespace Go.Proofs.Yteemacgknmidaaa
set_option linter.unusedVariables false
set_option linter.unusedSimpArgs false
open Go.RowKit

set_option maxRecDepth 20000 in
set_option maxHeartbeats 4000000 in
theorem new_tab (a : Option Addr) (l : List ByteArray) (n cap : Nat) (w : World) (hn : l.length = n) (hb : n ≤ 1000) (hl : Strs w a l) (hsz : ∀ s ∈ l, s.size ≤ 9223372036854775807) :
    Calls Try.prog 14 #[.slice a n cap] w (GivesTab TabOf w (newS [] l)) := by
  have Hn := Lib.hid hn
  have Hsz := Lib.hid hsz
  clear hn hsz
  have hmm := @run_makeMap Try.prog
  go_enter Try.func14, Try.ntmps14
  go_wp2
  have h0 : TabAt ((w.alloc (.map #[] 0)).alloc (.cells #[.slice none 0 0, .map (some w.heap.size)] 59)) (w.heap.size + 1) w.heap.size (.slice none 0 0) [] (.map []) :=
    ⟨by simp [go_sem], by simp [go_sem], by simp [go_sem], by simp [go_sem], World.ownsRow_nil _ _ _ _, (World.ownsMap_made w _ _ _).alloc _, mapOf_nil, by omega, by simp [Value.ownBlock], by simp [Value.ownBlock]⟩
  go_loopw [6, 7, 8, 14] (fun _ _ _ i wr => ∃ (k : Nat) (acc : List ByteArray) (F : Nat → Prop), k ≤ n ∧ i = .int .i64 k ∧ acc.length ≤ k ∧ Hid (newS acc (l.drop k) = newS [] l) ∧ TabOf wr ⟨w.heap.size + 1, 0, none⟩ acc F ∧ (∀ b, F b → w.heap.size ≤ b) ∧ Below w.heap.size w wr) (fun _ _ _ i _ => n - (intOf i).toNat)
  case atStart =>
    refine ⟨0, [], _, Nat.zero_le _, rfl, Nat.le_refl _, rfl, ⟨_, _, _, _, rfl, rfl, h0⟩, ?_, by (repeat' first | with_reducible assumption | exact Below.refl _ _ | with_reducible refine Below.drew ?_ | with_reducible refine Below.drewN ?_ _ | with_reducible refine Below.alloc' ?_ _ | with_reducible refine Below.setCell ?_ (by first | exact Nat.le_refl _ | omega | (simp; done) | (simp; omega)) _ | with_reducible refine Below.after ?_ ‹_›)⟩
    rintro b (rfl | rfl | hb)
    · omega
    · omega
    · simp [Value.ownBlock] at hb
  case round =>
    obtain ⟨k, acc, F, hk, rfl, hacc, Hnew, hT, hF, hbr⟩ := hrel
    by_cases hlt : k < n
    · obtain ⟨b', off, rfl, hc⟩ := (hl.kept hbr).at_ (k := k) (by rw [Hn.out]; exact hlt)
      have Hs := Lib.hid (newS_step acc l k (by rw [Hn.out]; exact hlt))
      have hu1 := Hsz.out (l[k]?.getD ByteArray.empty) (by
        have hk' : k < l.length := by rw [Hn.out]; exact hlt
        rw [List.getElem?_eq_getElem hk']
        exact List.getElem_mem hk')
      obtain ⟨u, hu⟩ : ∃ u, l[k]?.getD ByteArray.empty = u := ⟨_, rfl⟩
      rw [hu] at hc Hs hu1
      clear hu
      have hlen := addS_len acc u
      have hadd := add_tab _ acc F u wr hT (by omega) hu1
      obtain ⟨⟨r, i, x⟩, hy⟩ : ∃ y, addS acc u = y := ⟨_, rfl⟩
      rw [hy] at Hs hlen hadd
      simp only [] at hlen
      have HA := Lib.hid hadd
      clear hadd hy
      go_wp2_with fail
      refine HA.out.mono ?_
      rintro e w1 ⟨rfl, ⟨F', hT', hF'⟩, ho⟩
      have hb1 : Below w.heap.size wr w1 := ho.below hbr.size hF
      by_cases hx : x = 0
      · subst hx
        have E := Lib.hid (show newS r (l.drop (k + 1)) = newS [] l by rw [← Hnew.out, Hs.out, if_pos rfl])
        go_wp2
        go_roundw
        case rel => exact ⟨k + 1, r, F', by omega, by go_num, by omega, E, hT', (fun b hb => by rcases hF' b hb with h | h; exact hF b h; have := hbr.size; omega), hbr.trans hb1⟩
        case measure => simp [intOf]; omega
      · have E := Lib.hid (show newS [] l = ([], x) by rw [← Hnew.out, Hs.out, if_neg hx])
        have hx0 : (x != 0) = true := by simpa using hx
        go_wp2
        go_ret2
        rw [E.out]
        exact ⟨hbr.trans hb1, Or.inr ⟨hx, rfl⟩⟩
    · have E := Lib.hid (show newS [] l = (acc, 0) by rw [← Hnew.out, newS_end acc l k (by rw [Hn.out]; exact hlt)])
      go_wp2
      go_ret2
      rw [E.out]
      exact ⟨hbr, Or.inl ⟨rfl, _, F, rfl, hT, hF⟩⟩
end Go.Proofs.Yteemacgknmidaaa
