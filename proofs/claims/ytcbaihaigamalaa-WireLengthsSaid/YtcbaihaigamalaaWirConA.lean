/-
  The contracts of the landed package wire: zigzag, unzigzag, copied, appendUint.
-/
import Derived.Test.YtcbaihaigamalaaWirC
import Derived.Test.YtcbaihaigamalaaRoom
import Derived.Laws.Bits64b
import Derived.Laws.OwnMore
namespace Go.Proofs.Ytcbaihaigamalaa
set_option linter.unusedVariables false
set_option linter.unusedSimpArgs false
open Go.RowKit

theorem not_u64 (s : Nat) (hs : s < 18446744073709551616) : bits .xor .u64 IntKind.u64.max (s : Int) = ((18446744073709551615 - s : Nat) : Int) := by
  rw [show IntKind.u64.max = ((18446744073709551615 : Nat) : Int) from rfl, bits_xor_u64_nat _ _ (by decide) hs]
  have h : (BitVec.allOnes 64 ^^^ BitVec.ofNat 64 s).toNat = 18446744073709551615 - s := by
    rw [BitVec.allOnes_xor, BitVec.toNat_not, BitVec.toNat_ofNat, Nat.mod_eq_of_lt (by omega)]
  rw [BitVec.toNat_xor, BitVec.toNat_ofNat, Nat.mod_eq_of_lt (by omega)] at h
  rw [show (BitVec.allOnes 64).toNat = 18446744073709551615 from rfl] at h
  rw [h]

theorem not_i64 (s : Nat) (hs : s < 9223372036854775808) : bits .xor .i64 (-1) (s : Int) = -(s : Int) - 1 := by
  have h1 : (BitVec.ofInt 64 (-1 : Int)) = BitVec.allOnes 64 := by decide
  have h2 : (BitVec.ofInt 64 (s : Int)) = BitVec.ofNat 64 s := BitVec.ofInt_natCast ..
  show IntKind.i64.wrap ((BitVec.ofInt 64 (-1 : Int) ^^^ BitVec.ofInt 64 (s : Int)).toNat : Int) = _
  rw [h1, h2, BitVec.allOnes_xor, BitVec.toNat_not, BitVec.toNat_ofNat, Nat.mod_eq_of_lt (by omega), IntKind.wrap_i64]
  omega
theorem and_one_u64 (u : Nat) (hu : u < 18446744073709551616) : bits .and .u64 (u : Int) 1 = ((u % 2 : Nat) : Int) := by
  rw [show (1 : Int) = ((1 : Nat) : Int) from rfl, bits_and_u64_nat _ _ hu (by decide), Nat.and_one_is_mod]

set_option maxRecDepth 20000 in
set_option maxHeartbeats 4000000 in
theorem zigzag_any (x : Int) (w : World) (h1 : -9223372036854775808 ≤ x) (h2 : x ≤ 9223372036854775807) :
    Calls Try.prog 33 #[.int .i64 x] w fun e w' => e = .returned (.int .u64 (zz x : Int)) ∧ w = w' := by
  by_cases h0 : 0 ≤ x
  · obtain ⟨m, rfl⟩ := Int.eq_ofNat_of_zero_le h0
    have E := Lib.hid (show (m : Int) * 2 = (zz (m : Int) : Int) by unfold zz; rw [if_pos h0]; omega)
    go_enter Try.func33, Try.ntmps33
    go_wp2
    go_ret
    exact ⟨by rw [← E.out]; rfl, rfl⟩
  · obtain ⟨m, rfl⟩ : ∃ m : Nat, x = -(m : Int) - 1 := ⟨(-(x + 1)).toNat, by omega⟩
    have w1 : IntKind.u64.wrap (-(m : Int) - 1) = ((18446744073709551615 - m : Nat) : Int) := by rw [IntKind.wrap_u64]; omega
    have w2 : IntKind.u64.wrap (((18446744073709551615 - m : Nat) : Int) * 2) = ((18446744073709551614 - 2 * m : Nat) : Int) := by rw [IntKind.wrap_u64]; omega
    have E := Lib.hid (show bits BinOp.xor IntKind.u64 IntKind.u64.max (IntKind.u64.wrap (IntKind.u64.wrap (-(m : Int) - 1) * 2)) = (zz (-(m : Int) - 1) : Int) by
      rw [w1, w2, not_u64 _ (by omega)]; unfold zz; rw [if_neg h0]; omega)
    clear w1 w2 h0
    have h0 : -(m : Int) - 1 < 0 := by omega
    go_enter Try.func33, Try.ntmps33
    go_wp2
    go_ret
    exact ⟨by rw [← E.out]; rfl, rfl⟩
theorem zigzag_is {x : Int} {z : Nat} (h : zz x = z) (w : World) (h1 : -9223372036854775808 ≤ x) (h2 : x ≤ 9223372036854775807) :
    Calls Try.prog 33 #[.int .i64 x] w fun e w' => e = .returned (.int .u64 (z : Int)) ∧ w = w' := by
  have := zigzag_any x w h1 h2
  rwa [h] at this

set_option maxRecDepth 20000 in
set_option maxHeartbeats 4000000 in
theorem unzigzag_any (u : Nat) (w : World) (hu : u < 18446744073709551616) :
    Calls Try.prog 32 #[.int .u64 (u : Int)] w fun e w' => e = .returned (.int .i64 (unzz u)) ∧ w = w' := by
  have e1 := and_one_u64 u hu
  obtain ⟨h, hh⟩ : ∃ h, u / 2 = h := ⟨_, rfl⟩
  have hhi : (u : Int) / 2 = (h : Int) := by rw [← hh]; simp
  have hhb : h < 9223372036854775808 := by omega
  by_cases h2 : u % 2 = 1
  · have e2 : (bits BinOp.and IntKind.u64 (u : Int) 1 == 1) = true := by rw [e1, h2]; rfl
    have E := Lib.hid (show bits BinOp.xor IntKind.i64 (-1) (h : Int) = unzz u by rw [not_i64 _ hhb]; unfold unzz; rw [if_neg (by omega), hh])
    clear e1 h2 hh
    go_enter Try.func32, Try.ntmps32
    go_wp2
    go_ret
    exact ⟨by rw [← E.out]; rfl, rfl⟩
  · have e2 : (bits BinOp.and IntKind.u64 (u : Int) 1 == 1) = false := by rw [e1, show u % 2 = 0 by omega]; rfl
    have E := Lib.hid (show (h : Int) = unzz u by unfold unzz; rw [if_pos (by omega), hh])
    clear e1 h2 hh
    go_enter Try.func32, Try.ntmps32
    go_wp2
    go_ret
    exact ⟨by rw [← E.out]; rfl, rfl⟩
theorem unzigzag_is {u : Nat} {x : Int} (h : unzz u = x) (w : World) (hu : u < 18446744073709551616) :
    Calls Try.prog 32 #[.int .u64 (u : Int)] w fun e w' => e = .returned (.int .i64 x) ∧ w = w' := by
  have := unzigzag_any u w hu
  rwa [h] at this

set_option maxRecDepth 20000 in
set_option maxHeartbeats 4000000 in
theorem copied_any (a : Option Addr) (l : List UInt8) (n cap room : Nat) (w : World) (hn : l.length = n) (hb : n ≤ 400000) (hr : room ≤ 500000) (hl : Bytes w a l) :
    Calls Try.prog 31 #[.slice a n cap, .int .i64 (room : Int)] w (GivesOwn w l) := by
  obtain ⟨i0, hi, hz0, hz1, hz2⟩ := info_parts info_byte
  have Hn := Lib.hid hn
  have HL := Lib.hid hl
  have hsum : (n : Int) + (room : Int) = ((n + room : Nat) : Int) := by omega
  have hcs : (bytV l).length = n := by rw [bytV_length]; exact hn
  have Hcs := Lib.hid hcs
  clear hn hl hcs
  obtain ⟨m, hm⟩ : ∃ m, n + room = m := ⟨_, rfl⟩
  rw [hm] at hsum
  have hm1 : m ≤ 900000 := by omega
  have hm2 : n ≤ m := by omega
  obtain ⟨cur, hcur⟩ : ∃ cur, (madeCells #[Value.int .u8 0] m).toList = cur := ⟨_, rfl⟩
  have hcl : cur.length = m := by rw [← hcur, toList_madeCells_one, List.length_replicate]
  have HC := Lib.hid hcur
  have HCl := Lib.hid hcl
  clear hm hcur hcl
  go_enter Try.func31, Try.ntmps31
  go_wp2_with (first
    | (refine wpList_make_room _ rfl (.tmp 7) (.tmp 11) 22 rfl 5 i0 (.int .u8 0) 1 Try.underlying22 hi hz0 hz1 .i64 .i64 (n : Int) (m : Int) n m rfl rfl rfl rfl hm2 (by rw [hz2]; omega) (by unfold maxLen; omega) ?_)
    | (refine wpList_copy_splice rfl (.tmp 13) (.tmp 14) 22 22 rfl 5 Try.underlying22 (by rw [hi]; simp [hz1]) _ _ _ _ _ _ rfl rfl w.heap.size 0 cur 5 (by rw [made_heap, HC.out]) (bytV l) (by rw [Hcs.out]; exact (Nat.min_self n).symm) (fun h0 => ⟨rfl, by
        obtain ⟨ad, h1, h2⟩ := ((HL.out).kept ((Below.refl _ w).alloc (Nat.le_refl _) _)).copied h0
        exact ⟨ad, h1, h2⟩⟩) (by rw [Hcs.out, HCl.out]; omega) (bytV_one l) w.heap.size w ((Below.refl _ w).alloc (Nat.le_refl _) _) (Nat.le_refl _) ?_; intro w2 HG2 hb2))
  go_ret
  refine ⟨_, rfl, ?_, hb2⟩
  rw [Hn.out]
  exact own_spliced HG2.out (Nat.le_refl _) Hcs.out HCl.out hm2 (by unfold maxLen; omega)

theorem below_onward {base : Nat} {w w1 w2 : World} {o : Obj} {v : Value} (hb : Below base w w1) (hg : (w1.alloc o).grownBy w2 v.ownBlock) (hsz : base ≤ w1.heap.size) (hv : ∀ g, v.ownBlock = some g → base ≤ g) : Below base w w2 :=
  (hb.alloc hsz o).grown hg (by simp; omega) hv
/-- bytes appended to a slice of the call's own -/
def GivesAt (base : Nat) (w : World) (R : List UInt8) (e : Ending) (w' : World) : Prop := ∃ v, e = .returned v ∧ w'.ownsRow base 5 1 v R.length (bytV R) ∧ Below base w w' ∧ base ≤ w'.heap.size
set_option maxRecDepth 200000 in
theorem or_more (u : Nat) : bits .or .u8 ((u : Int) % 256) 128 = (((UInt8.ofNat (u % 128 + 128)).toNat : Nat) : Int) := by
  rw [byte_of (by omega)]
  obtain ⟨r, hr⟩ : ∃ r, u % 256 = r := ⟨_, rfl⟩
  have h1 : (u : Int) % 256 = (r : Int) := by omega
  have h2 : u % 128 = r % 128 := by omega
  have h3 : r < 256 := by omega
  rw [h1, h2]
  clear h1 h2 hr
  revert r
  decide

set_option maxRecDepth 20000 in
set_option maxHeartbeats 8000000 in
theorem appendUint_any (base : Nat) (v : Value) (l : List UInt8) (n u : Nat) (w : World) (hown : w.ownsRow base 5 1 v n (bytV l)) (hbase : base ≤ w.heap.size) (hb : n ≤ 900000) (hu : u < 18446744073709551616) :
    Calls Try.prog 30 #[v, .int .u64 (u : Int)] w (GivesAt base w (l ++ vL u)) := by
  have hn : l.length = n := by have := hown.1; rw [bytV_length] at this; omega
  have Hn := Lib.hid hn
  have hlen := (vL_le10 hu).2
  obtain ⟨R, hR⟩ : ∃ R, l ++ vL u = R := ⟨_, rfl⟩
  have HR := Lib.hid hR
  have hRl : R.length ≤ 900010 := by rw [← hR, List.length_append]; omega
  rw [hR]
  clear hR hn hlen
  go_enter Try.func30, Try.ntmps30
  go_wp2
  go_loopw [0, 1] (fun v x wr => ∃ (acc : List UInt8) (u' k : Nat), x = .int .u64 (u' : Int) ∧ u' < 18446744073709551616 ∧ Hid (acc.length = k) ∧ wr.ownsRow base 5 1 v k (bytV acc) ∧ Hid (acc ++ vL u' = R) ∧ Below base w wr ∧ base ≤ wr.heap.size) (fun _ x _ => (intOf x).toNat)
  case atStart => exact ⟨l, u, n, rfl, hu, Hn.out, hown, HR.out, Below.refl _ _, hbase⟩
  case round =>
    obtain ⟨acc, u', k, rfl, hu', Hk, own, Hacc, hb', hsz⟩ := hrel
    clear hown hbase
    have hkR : k ≤ 900010 := by
      have h1 := congrArg List.length Hacc.out
      have h2 := Hk.out
      rw [List.length_append] at h1
      omega
    by_cases h : 128 ≤ u'
    · have hup := or_more u'
      obtain ⟨c, hc⟩ : ∃ c : UInt8, UInt8.ofNat (u' % 128 + 128) = c := ⟨_, rfl⟩
      rw [hc] at hup
      have E := Lib.hid (show (acc ++ [c]) ++ vL (u' / 128) = R by
        rw [← Hacc.out, vL_more (show ¬ u' < 128 by omega), hc]
        simp)
      have E2 := Lib.hid (show (acc ++ [c]).length = k + 1 by rw [List.length_append, Hk.out]; rfl)
      clear hc
      go_wp2_with (at_builtin; refine wpList_append_reads rfl (.tmp 7) (.tmp 11) Try.underlying22 info_byte rfl (by omega) rfl base _ k (bytV acc) rfl (own.alloc _) (some ⟨wr.heap.size, 0, none⟩) 1 1 (bytV [c]) rfl rfl (reads_lit wr (bytV [c]) _ rfl) (bytV_one [c]) (by omega) (by simp; omega) ?_; intro v3 w3 o3 g3 e3)
      have hb3 := below_onward hb' g3 hsz (own_base own)
      have hsz3 : base ≤ w3.heap.size := Nat.le_trans hsz (Nat.le_trans (by simp) g3.size)
      rw [← bytV_append] at o3
      go_roundw
      case rel => exact ⟨acc ++ [c], u' / 128, k + 1, by go_num, by omega, E2.out, o3, E.out, hb3, hsz3⟩
      case measure => simp [intOf]; omega
    · obtain ⟨c, rfl⟩ : ∃ c : UInt8, u' = c.toNat := ⟨UInt8.ofNat u', (byte_of (by omega)).symm⟩
      have E := Lib.hid (show acc ++ [c] = R by rw [← Hacc.out, vL_one (show c.toNat < 128 by omega), of_byte])
      have E2 := Lib.hid (show R.length = k + 1 by rw [← E.out, List.length_append, Hk.out]; rfl)
      have hlt : c.toNat < 128 := by omega
      clear h
      go_wp2_with (at_builtin; refine wpList_append_reads rfl (.tmp 15) (.tmp 18) Try.underlying22 info_byte rfl (by omega) rfl base _ k (bytV acc) rfl (own.alloc _) (some ⟨wr.heap.size, 0, none⟩) 1 1 (bytV [c]) rfl rfl (reads_lit wr (bytV [c]) _ rfl) (bytV_one [c]) (by omega) (by simp; omega) ?_; intro v3 w3 o3 g3 e3)
      have hb3 := below_onward hb' g3 hsz (own_base own)
      have hsz3 : base ≤ w3.heap.size := Nat.le_trans hsz (Nat.le_trans (by simp) g3.size)
      rw [← bytV_append, E.out] at o3
      go_ret
      exact ⟨v3, rfl, by rw [E2.out]; exact o3, hb3, hsz3⟩
theorem appendUint_is {l R : List UInt8} {u : Nat} (h : l ++ vL u = R) (base : Nat) (v : Value) (n : Nat) (w : World) (hown : w.ownsRow base 5 1 v n (bytV l)) (hbase : base ≤ w.heap.size) (hb : n ≤ 900000) (hu : u < 18446744073709551616) :
    Calls Try.prog 30 #[v, .int .u64 (u : Int)] w (GivesAt base w R) := by
  have := appendUint_any base v l n u w hown hbase hb hu
  rwa [h] at this
end Go.Proofs.Ytcbaihaigamalaa
