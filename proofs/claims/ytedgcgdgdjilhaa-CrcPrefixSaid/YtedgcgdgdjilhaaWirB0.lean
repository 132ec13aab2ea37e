/-
  Walks over the reference of package wire: PutUint.
-/
import Derived.Test.YtedgcgdgdjilhaaWirA
namespace Go.Proofs.Ytedgcgdgdjilhaa
set_option linter.unusedVariables false
set_option linter.unusedSimpArgs false
open Go.RowKit

/-- a call that gives back bytes in new memory -/
def GivesOwn (w : World) (l : List UInt8) (e : Ending) (w' : World) : Prop := ∃ v, e = .returned v ∧ w'.ownsRow w.heap.size 5 1 v l.length (bytV l) ∧ Below w.heap.size w w'
theorem byte_up {u : Nat} : ((u : Int) % 128 + 128) = (((UInt8.ofNat (u % 128 + 128)).toNat : Nat) : Int) := by
  rw [byte_of (by omega)]
  omega
theorem byte_low {u : Nat} (h : u < 128) : (u : Int) = (((UInt8.ofNat u).toNat : Nat) : Int) := by
  rw [byte_of (by omega)]
theorem own_made (w : World) (e : TypeId) {base m : Nat} (hm : m = w.heap.size) (hb : base ≤ w.heap.size) : (w.alloc (.cells #[] e)).ownsRow base e 1 (.slice (some ⟨m, 0, none⟩) 0 0) 0 [] := by
  subst hm
  exact World.ownsRow_made w #[] 0 hb (Nat.zero_le _) rfl

set_option maxRecDepth 20000 in
set_option maxHeartbeats 8000000 in
theorem rPutUint_any (a : Option Addr) (l : List UInt8) (n cap u : Nat) (w : World) (hn : l.length = n) (hb : n ≤ 900000) (hl : Bytes w a l) (hu : u < 18446744073709551616) :
    Calls Try.prog 28 #[.slice a n cap, .int .u64 (u : Int)] w (GivesOwn w (l ++ vL u)) := by
  have Hn := Lib.hid hn
  have hlen := (vL_le10 hu).2
  obtain ⟨R, hR⟩ : ∃ R, l ++ vL u = R := ⟨_, rfl⟩
  have HR := Lib.hid hR
  have hRl : R.length ≤ 900010 := by rw [← hR, List.length_append]; omega
  rw [hR]
  have HL := Lib.hid hl
  clear hR hn hlen hl
  go_enter Try.func28, Try.ntmps28
  go_wp2_with (at_builtin; refine wpList_append_reads rfl (.tmp 6) (.tmp 7) Try.underlying22 info_byte rfl (by omega) rfl w.heap.size (.slice (some ⟨w.heap.size, 0, none⟩) 0 0) 0 [] rfl (own_made w _ rfl (Nat.le_refl _)) a n cap (bytV l) rfl (by rw [bytV_length]; exact Hn.out) (HL.out.kept ((Below.refl _ w).alloc (Nat.le_refl _) _)) (bytV_one l) (by omega) (by simp) ?_; intro v1 w1 o1 g1 e1)
  have hb1 : Below w.heap.size w w1 := below_grown (Below.refl _ w) g1 (fun g hg => by simp [Value.ownBlock] at hg; omega)
  rw [Nat.zero_add, List.nil_append] at o1
  go_loopw [1, 5] (fun x v wr => ∃ (acc : List UInt8) (u' k : Nat), x = .int .u64 (u' : Int) ∧ u' < 18446744073709551616 ∧ Hid (acc.length = k) ∧ wr.ownsRow w.heap.size 5 1 v k (bytV acc) ∧ Hid (acc ++ vL u' = R) ∧ Below w.heap.size w wr) (fun x _ _ => (intOf x).toNat)
  case atStart => exact ⟨l, u, n, rfl, hu, Hn.out, o1, HR.out, hb1⟩
  case round =>
    obtain ⟨acc, u', k, rfl, hu', Hk, hown, Hacc, hb'⟩ := hrel
    have hkR : k ≤ 900010 := by
      have h1 := congrArg List.length Hacc.out
      have h2 := Hk.out
      rw [List.length_append] at h1
      omega
    have hbz := hb'.size
    by_cases h : 128 ≤ u'
    · have hup := byte_up (u := u')
      obtain ⟨c, hc⟩ : ∃ c : UInt8, UInt8.ofNat (u' % 128 + 128) = c := ⟨_, rfl⟩
      rw [hc] at hup
      have E := Lib.hid (show (acc ++ [c]) ++ vL (u' / 128) = R by
        rw [← Hacc.out, vL_more (show ¬ u' < 128 by omega), hc]
        simp)
      have E2 := Lib.hid (show (acc ++ [c]).length = k + 1 by rw [List.length_append, Hk.out]; rfl)
      clear hc
      go_wp2_with (at_builtin; refine wpList_append_reads rfl (.tmp 11) (.tmp 16) Try.underlying22 info_byte rfl (by omega) rfl w.heap.size _ k (bytV acc) rfl (by first | exact hown.alloc _ | skip) (some ⟨wr.heap.size, 0, none⟩) 1 1 (bytV [c]) rfl rfl (reads_lit wr (bytV [c]) _ rfl) (bytV_one [c]) (by omega) (by simp; omega) ?_; intro v3 w3 o3 g3 e3)
      have hb3 : Below w.heap.size w w3 := below_grown hb' g3 (own_base hown)
      rw [← bytV_append] at o3
      go_roundw
      case rel => exact ⟨acc ++ [c], u' / 128, k + 1, by go_num, by omega, E2.out, o3, E.out, hb3⟩
      case measure => simp [intOf]; omega
    · obtain ⟨c, rfl⟩ : ∃ c : UInt8, u' = c.toNat := ⟨UInt8.ofNat u', (byte_of (by omega)).symm⟩
      have E := Lib.hid (show acc ++ [c] = R by rw [← Hacc.out, vL_one (show c.toNat < 128 by omega), of_byte])
      have E2 := Lib.hid (show R.length = k + 1 by rw [← E.out, List.length_append, Hk.out]; rfl)
      have hlt : c.toNat < 128 := by omega
      clear h
      go_wp2_with (at_builtin; refine wpList_append_reads rfl (.tmp 20) (.tmp 23) Try.underlying22 info_byte rfl (by omega) rfl w.heap.size _ k (bytV acc) rfl (by first | exact hown.alloc _ | skip) (some ⟨wr.heap.size, 0, none⟩) 1 1 (bytV [c]) rfl rfl (reads_lit wr (bytV [c]) _ rfl) (bytV_one [c]) (by omega) (by simp; omega) ?_; intro v3 w3 o3 g3 e3)
      have hb3 : Below w.heap.size w w3 := below_grown hb' g3 (own_base hown)
      rw [← bytV_append, E.out] at o3
      go_ret
      exact ⟨v3, rfl, by rw [E2.out]; exact o3, hb3⟩

theorem GivesOwn.bytes {w w' : World} {l : List UInt8} {e : Ending} (h : GivesOwn w l e w') : ∃ b c, e = .returned (.slice b l.length c) ∧ Bytes w' b l ∧ Below w.heap.size w w' := by
  obtain ⟨v, rfl, ho, hb⟩ := h
  obtain ⟨a, c, rfl, _, hr, _⟩ := own_reads ho
  exact ⟨a, c, rfl, hr, hb⟩
theorem rPutUint_is {l R : List UInt8} {u : Nat} (h : l ++ vL u = R) (a : Option Addr) (n cap : Nat) (w : World) (hn : l.length = n) (hb : n ≤ 900000) (hl : Bytes w a l) (hu : u < 18446744073709551616) :
    Calls Try.prog 28 #[.slice a n cap, .int .u64 (u : Int)] w (GivesOwn w R) := by
  have := rPutUint_any a l n cap u w hn hb hl hu
  rwa [h] at this
end Go.Proofs.Ytedgcgdgdjilhaa
