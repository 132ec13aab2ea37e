/-
  Walks over the reference of package crc: Frame.
-/
import Derived.Test.YtedgcgdgdjilhaaCrcA
import Derived.Test.YtedgcgdgdjilhaaWirB0
namespace Go.Proofs.Ytedgcgdgdjilhaa
set_option linter.unusedVariables false
set_option linter.unusedSimpArgs false
open Go.RowKit

def frameS (l : List UInt8) : List UInt8 × Int := if 65536 < l.length then ([], 8) else (frameL l, 0)
/-- a call that gives back bytes in new memory, and an error -/
def GivesFrame (w : World) (r : List UInt8 × Int) (e : Ending) (w' : World) : Prop := ∃ v, e = .returned (.tuple #[v, .int .i64 r.2]) ∧ w'.ownsRow w.heap.size 5 1 v r.1.length (bytV r.1) ∧ Below w.heap.size w w'

set_option maxRecDepth 20000 in
set_option maxHeartbeats 4000000 in
theorem rFrame_any (a : Option Addr) (l : List UInt8) (n cap : Nat) (w : World) (hn : l.length = n) (hb : n ≤ 900000) (hl : Bytes w a l) :
    Calls Try.prog 18 #[.slice a n cap] w (GivesFrame w (frameS l)) := by
  have Hn := Lib.hid hn
  have HL := Lib.hid hl
  obtain ⟨R, hR⟩ : ∃ R, frameS l = R := ⟨_, rfl⟩
  rw [hR]
  by_cases h : 65536 < n
  · have E := Lib.hid (show R = ([], 8) by rw [← hR, frameS, if_pos (by omega)])
    clear hR hn hl
    go_enter Try.func18, Try.ntmps18
    go_wp2
    go_ret2
    exact ⟨.slice none 0 0, by rw [E.out]; rfl, by rw [E.out]; exact World.ownsRow_nil _ _ _ _, Below.refl _ _⟩
  · have E := Lib.hid (show R = (frameL l, 0) by rw [← hR, frameS, if_neg (by omega)])
    have hk := vL_le10 (v := n) (by omega)
    obtain ⟨k, hkk⟩ : ∃ k, (vL n).length = k := ⟨_, rfl⟩
    rw [hkk] at hk
    have C := Lib.hid (rPutUint_any none [] 0 0 n w rfl (by omega) (reads_nil _ _) (by omega))
    have Hk := Lib.hid hkk
    have hsl := extS_lt 0 l
    clear hR hn hl hkk
    go_enter Try.func18, Try.ntmps18
    go_wp2_with fail
    refine C.out.mono fun e w1 hr => ?_
    obtain ⟨v1, rfl, o1, hb1⟩ := hr
    rw [List.nil_append, Hk.out] at o1
    have hs1 := hb1.size
    go_wp2_with (at_builtin; refine wpList_append_reads rfl (.tmp 12) (.tmp 13) Try.underlying22 info_byte rfl (by omega) rfl w.heap.size _ k (bytV (vL n)) rfl o1 a n cap (bytV l) rfl (by rw [bytV_length]; exact Hn.out) (HL.out.kept hb1) (bytV_one l) (by omega) (by omega) ?_; intro v2 w2 o2 g2 e2)
    have hb2 : Below w.heap.size w w2 := below_own hb1 g2 (own_base o1)
    refine (rSum_any a l n cap w2 Hn.out (by omega) (HL.out.kept hb2)).mono fun e w2' hr => ?_
    obtain ⟨rfl, rfl⟩ := hr
    go_wp2_with fail
    refine (rTail_any _ w2 hsl).mono fun e w3 hr => ?_
    obtain ⟨b3, rfl, hB3, hb3⟩ := hr
    have hb23 : Below w.heap.size w w3 := hb2.trans (hb3.mono hb2.size)
    have hs3 := hb23.size
    rw [← bytV_append] at o2
    go_wp2_with (at_builtin; refine wpList_append_reads rfl (.tmp 15) (.tmp 18) Try.underlying22 info_byte rfl (by omega) rfl w.heap.size _ (k + n) (bytV (vL n ++ l)) rfl (own_kept o2 hb3) b3 4 4 (bytV (tailL (sumS l))) rfl rfl hB3 (bytV_one _) (by omega) (by omega) ?_; intro v4 w4 o4 g4 e4)
    have hb4 : Below w.heap.size w w4 := below_own hb23 g4 (own_base o2)
    rw [← bytV_append] at o4
    go_ret2
    have e6 : vL n ++ l ++ tailL (sumS l) = frameL l := by unfold frameL; rw [Hn.out]
    rw [e6] at o4
    exact ⟨v4, by rw [E.out]; rfl, by rw [E.out, frameL_length, Hn.out, Hk.out]; exact o4, hb4⟩
end Go.Proofs.Ytedgcgdgdjilhaa
