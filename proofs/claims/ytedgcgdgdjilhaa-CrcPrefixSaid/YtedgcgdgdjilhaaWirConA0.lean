/-
  The contracts of the landed package wire: copied, appendUint, PutUint.
-/
import Derived.Test.YtedgcgdgdjilhaaWirB0
import Derived.Test.YtedgcgdgdjilhaaRoom
import Derived.Laws.Bits64b
import Derived.Laws.OwnMore
namespace Go.Proofs.Ytedgcgdgdjilhaa
set_option linter.unusedVariables false
set_option linter.unusedSimpArgs false
open Go.RowKit

set_option maxRecDepth 20000 in
set_option maxHeartbeats 4000000 in
theorem copied_any (a : Option Addr) (l : List UInt8) (n cap room : Nat) (w : World) (hn : l.length = n) (hb : n ≤ 400000) (hr : room ≤ 500000) (hl : Bytes w a l) :
    Calls Try.prog 34 #[.slice a n cap, .int .i64 (room : Int)] w (GivesOwn w l) := by
  obtain ⟨i0, hi, hz0, hz1, hz2⟩ := info_parts info_byte
  have Hn := Lib.hid hn
  have HL := Lib.hid hl
  have hsum : (n : Int) + (room : Int) = ((n + room : Nat) : Int) := by omega
  have hcs : (bytV l).length = n := by rw [bytV_length]; exact hn
  have Hcs := Lib.hid hcs
  clear hn hl hcs
  obtain ⟨m, hm⟩ : ∃ m, n + room = m := ⟨_, rfl⟩
  rw [hm] at hsum
  have hm1 : m ≤ 900000 := by omega
  have hm2 : n ≤ m := by omega
  obtain ⟨cur, hcur⟩ : ∃ cur, (madeCells #[Value.int .u8 0] m).toList = cur := ⟨_, rfl⟩
  have hcl : cur.length = m := by rw [← hcur, toList_madeCells_one, List.length_replicate]
  have HC := Lib.hid hcur
  have HCl := Lib.hid hcl
  clear hm hcur hcl
  go_enter Try.func34, Try.ntmps34
  go_wp2_with (first
    | (refine wpList_make_room _ rfl (.tmp 7) (.tmp 11) 22 rfl 5 i0 (.int .u8 0) 1 Try.underlying22 hi hz0 hz1 .i64 .i64 (n : Int) (m : Int) n m rfl rfl rfl rfl hm2 (by rw [hz2]; omega) (by unfold maxLen; omega) ?_)
    | (refine wpList_copy_splice rfl (.tmp 13) (.tmp 14) 22 22 rfl 5 Try.underlying22 (by rw [hi]; simp [hz1]) _ _ _ _ _ _ rfl rfl w.heap.size 0 cur 5 (by rw [made_heap, HC.out]) (bytV l) (by rw [Hcs.out]; exact (Nat.min_self n).symm) (fun h0 => ⟨rfl, by
        obtain ⟨ad, h1, h2⟩ := ((HL.out).kept ((Below.refl _ w).alloc (Nat.le_refl _) _)).copied h0
        exact ⟨ad, h1, h2⟩⟩) (by rw [Hcs.out, HCl.out]; omega) (bytV_one l) w.heap.size w ((Below.refl _ w).alloc (Nat.le_refl _) _) (Nat.le_refl _) ?_; intro w2 HG2 hb2))
  go_ret
  refine ⟨_, rfl, ?_, hb2⟩
  rw [Hn.out]
  exact own_spliced HG2.out (Nat.le_refl _) Hcs.out HCl.out hm2 (by unfold maxLen; omega)

theorem below_onward {base : Nat} {w w1 w2 : World} {o : Obj} {v : Value} (hb : Below base w w1) (hg : (w1.alloc o).grownBy w2 v.ownBlock) (hsz : base ≤ w1.heap.size) (hv : ∀ g, v.ownBlock = some g → base ≤ g) : Below base w w2 :=
  (hb.alloc hsz o).grown hg (by simp; omega) hv
/-- bytes appended to a slice of the call's own -/
def GivesAt (base : Nat) (w : World) (R : List UInt8) (e : Ending) (w' : World) : Prop := ∃ v, e = .returned v ∧ w'.ownsRow base 5 1 v R.length (bytV R) ∧ Below base w w' ∧ base ≤ w'.heap.size
set_option maxRecDepth 200000 in
theorem or_more (u : Nat) : bits .or .u8 ((u : Int) % 256) 128 = (((UInt8.ofNat (u % 128 + 128)).toNat : Nat) : Int) := by
  rw [byte_of (by omega)]
  obtain ⟨r, hr⟩ : ∃ r, u % 256 = r := ⟨_, rfl⟩
  have h1 : (u : Int) % 256 = (r : Int) := by omega
  have h2 : u % 128 = r % 128 := by omega
  have h3 : r < 256 := by omega
  rw [h1, h2]
  clear h1 h2 hr
  revert r
  decide

set_option maxRecDepth 20000 in
set_option maxHeartbeats 8000000 in
theorem appendUint_any (base : Nat) (v : Value) (l : List UInt8) (n u : Nat) (w : World) (hown : w.ownsRow base 5 1 v n (bytV l)) (hbase : base ≤ w.heap.size) (hb : n ≤ 900000) (hu : u < 18446744073709551616) :
    Calls Try.prog 33 #[v, .int .u64 (u : Int)] w (GivesAt base w (l ++ vL u)) := by
  have hn : l.length = n := by have := hown.1; rw [bytV_length] at this; omega
  have Hn := Lib.hid hn
  have hlen := (vL_le10 hu).2
  obtain ⟨R, hR⟩ : ∃ R, l ++ vL u = R := ⟨_, rfl⟩
  have HR := Lib.hid hR
  have hRl : R.length ≤ 900010 := by rw [← hR, List.length_append]; omega
  rw [hR]
  clear hR hn hlen
  go_enter Try.func33, Try.ntmps33
  go_wp2
  go_loopw [0, 1] (fun v x wr => ∃ (acc : List UInt8) (u' k : Nat), x = .int .u64 (u' : Int) ∧ u' < 18446744073709551616 ∧ Hid (acc.length = k) ∧ wr.ownsRow base 5 1 v k (bytV acc) ∧ Hid (acc ++ vL u' = R) ∧ Below base w wr ∧ base ≤ wr.heap.size) (fun _ x _ => (intOf x).toNat)
  case atStart => exact ⟨l, u, n, rfl, hu, Hn.out, hown, HR.out, Below.refl _ _, hbase⟩
  case round =>
    obtain ⟨acc, u', k, rfl, hu', Hk, own, Hacc, hb', hsz⟩ := hrel
    clear hown hbase
    have hkR : k ≤ 900010 := by
      have h1 := congrArg List.length Hacc.out
      have h2 := Hk.out
      rw [List.length_append] at h1
      omega
    by_cases h : 128 ≤ u'
    · have hup := or_more u'
      obtain ⟨c, hc⟩ : ∃ c : UInt8, UInt8.ofNat (u' % 128 + 128) = c := ⟨_, rfl⟩
      rw [hc] at hup
      have E := Lib.hid (show (acc ++ [c]) ++ vL (u' / 128) = R by
        rw [← Hacc.out, vL_more (show ¬ u' < 128 by omega), hc]
        simp)
      have E2 := Lib.hid (show (acc ++ [c]).length = k + 1 by rw [List.length_append, Hk.out]; rfl)
      clear hc
      go_wp2_with (at_builtin; refine wpList_append_reads rfl (.tmp 7) (.tmp 11) Try.underlying22 info_byte rfl (by omega) rfl base _ k (bytV acc) rfl (own.alloc _) (some ⟨wr.heap.size, 0, none⟩) 1 1 (bytV [c]) rfl rfl (reads_lit wr (bytV [c]) _ rfl) (bytV_one [c]) (by omega) (by simp; omega) ?_; intro v3 w3 o3 g3 e3)
      have hb3 := below_onward hb' g3 hsz (own_base own)
      have hsz3 : base ≤ w3.heap.size := Nat.le_trans hsz (Nat.le_trans (by simp) g3.size)
      rw [← bytV_append] at o3
      go_roundw
      case rel => exact ⟨acc ++ [c], u' / 128, k + 1, by go_num, by omega, E2.out, o3, E.out, hb3, hsz3⟩
      case measure => simp [intOf]; omega
    · obtain ⟨c, rfl⟩ : ∃ c : UInt8, u' = c.toNat := ⟨UInt8.ofNat u', (byte_of (by omega)).symm⟩
      have E := Lib.hid (show acc ++ [c] = R by rw [← Hacc.out, vL_one (show c.toNat < 128 by omega), of_byte])
      have E2 := Lib.hid (show R.length = k + 1 by rw [← E.out, List.length_append, Hk.out]; rfl)
      have hlt : c.toNat < 128 := by omega
      clear h
      go_wp2_with (at_builtin; refine wpList_append_reads rfl (.tmp 15) (.tmp 18) Try.underlying22 info_byte rfl (by omega) rfl base _ k (bytV acc) rfl (own.alloc _) (some ⟨wr.heap.size, 0, none⟩) 1 1 (bytV [c]) rfl rfl (reads_lit wr (bytV [c]) _ rfl) (bytV_one [c]) (by omega) (by simp; omega) ?_; intro v3 w3 o3 g3 e3)
      have hb3 := below_onward hb' g3 hsz (own_base own)
      have hsz3 : base ≤ w3.heap.size := Nat.le_trans hsz (Nat.le_trans (by simp) g3.size)
      rw [← bytV_append, E.out] at o3
      go_ret
      exact ⟨v3, rfl, by rw [E2.out]; exact o3, hb3, hsz3⟩
theorem appendUint_is {l R : List UInt8} {u : Nat} (h : l ++ vL u = R) (base : Nat) (v : Value) (n : Nat) (w : World) (hown : w.ownsRow base 5 1 v n (bytV l)) (hbase : base ≤ w.heap.size) (hb : n ≤ 900000) (hu : u < 18446744073709551616) :
    Calls Try.prog 33 #[v, .int .u64 (u : Int)] w (GivesAt base w R) := by
  have := appendUint_any base v l n u w hown hbase hb hu
  rwa [h] at this
set_option maxRecDepth 20000 in
set_option maxHeartbeats 4000000 in
theorem putUint_any (a : Option Addr) (l : List UInt8) (n cap u : Nat) (w : World) (hn : l.length = n) (hb : n ≤ 400000) (hl : Bytes w a l) (hu : u < 18446744073709551616) :
    Calls Try.prog 26 #[.slice a n cap, .int .u64 (u : Int)] w (GivesOwn w (l ++ vL u)) := by
  have HP := Lib.hid (copied_any a l n cap 10 w hn hb (by omega) hl)
  obtain ⟨R, hR⟩ : ∃ R, l ++ vL u = R := ⟨_, rfl⟩
  have HR := Lib.hid hR
  have Hn := Lib.hid hn
  rw [hR]
  clear hR hn hl
  go_enter Try.func26, Try.ntmps26
  go_wp2_with fail
  refine HP.out.mono ?_
  rintro e w1 ⟨v, rfl, ho, hb1⟩
  rw [Hn.out] at ho
  go_wp2_with fail
  refine (appendUint_is HR.out w.heap.size v n w1 ho hb1.size (by omega) hu).mono ?_
  rintro e w2 ⟨v2, rfl, o2, hb2, -⟩
  go_wp2
  go_ret
  exact ⟨v2, rfl, o2, hb1.trans hb2⟩
theorem putUint_is {l R : List UInt8} {u : Nat} (h : l ++ vL u = R) (a : Option Addr) (n cap : Nat) (w : World) (hn : l.length = n) (hb : n ≤ 400000) (hl : Bytes w a l) (hu : u < 18446744073709551616) :
    Calls Try.prog 26 #[.slice a n cap, .int .u64 (u : Int)] w (GivesOwn w R) := by
  have := putUint_any a l n cap u w hn hb hl hu
  rwa [h] at this

end Go.Proofs.Ytedgcgdgdjilhaa
