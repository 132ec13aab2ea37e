/-
  The contracts of the landed package crc.
-/
import Derived.Test.YtedgcgdgdjilhaaCrcK
import Derived.Test.YtedgcgdgdjilhaaWirConA0
import Derived.Test.YtedgcgdgdjilhaaWirConB
namespace Go.Proofs.Ytedgcgdgdjilhaa
set_option linter.unusedVariables false
set_option linter.unusedSimpArgs false
open Go.RowKit

theorem and_u32 (a b : Nat) (ha : a < 4294967296) (hb : b < 4294967296) : bits .and .u32 (a : Int) (b : Int) = ((a &&& b : Nat) : Int) := by
  have hx : a &&& b < 2 ^ 32 := Nat.and_lt_two_pow _ (by omega)
  have h1 : (BitVec.ofInt 32 (a : Int)).toNat = a := by
    rw [BitVec.ofInt_natCast, BitVec.toNat_ofNat]; exact Nat.mod_eq_of_lt (by omega)
  have h2 : (BitVec.ofInt 32 (b : Int)).toNat = b := by
    rw [BitVec.ofInt_natCast, BitVec.toNat_ofNat]; exact Nat.mod_eq_of_lt (by omega)
  show IntKind.u32.wrap ((BitVec.ofInt 32 (a : Int) &&& BitVec.ofInt 32 (b : Int)).toNat : Int) = _
  rw [BitVec.toNat_and, h1, h2, wrap_u32]
  omega
theorem or_u32 (a b : Nat) (ha : a < 4294967296) (hb : b < 4294967296) : bits .or .u32 (a : Int) (b : Int) = ((a ||| b : Nat) : Int) := by
  have hx : a ||| b < 2 ^ 32 := Nat.or_lt_two_pow (by omega) (by omega)
  have h1 : (BitVec.ofInt 32 (a : Int)).toNat = a := by
    rw [BitVec.ofInt_natCast, BitVec.toNat_ofNat]; exact Nat.mod_eq_of_lt (by omega)
  have h2 : (BitVec.ofInt 32 (b : Int)).toNat = b := by
    rw [BitVec.ofInt_natCast, BitVec.toNat_ofNat]; exact Nat.mod_eq_of_lt (by omega)
  show IntKind.u32.wrap ((BitVec.ofInt 32 (a : Int) ||| BitVec.ofInt 32 (b : Int)).toNat : Int) = _
  rw [BitVec.toNat_or, h1, h2, wrap_u32]
  omega
theorem and_one (q : Nat) (h : q < 4294967296) : bits .and .u32 (q : Int) 1 = ((q % 2 : Nat) : Int) := by
  rw [← Nat.and_one_is_mod]
  exact and_u32 q 1 h (by decide)

set_option maxRecDepth 20000 in
set_option maxHeartbeats 4000000 in
theorem shifted_any (x : Nat) (w : World) (hx : x < 4294967296) :
    Calls Try.prog 25 #[.int .u32 (x : Int)] w fun e w' => e = .returned (.int .u32 (bitsS 8 x : Int)) ∧ w = w' := by
  obtain ⟨R, hR⟩ : ∃ R, bitsS 8 x = R := ⟨_, rfl⟩
  have HR := Lib.hid hR
  rw [hR]
  clear hR
  go_enter Try.func25, Try.ntmps25
  go_wp2
  go_loop [0, 4] (fun a0 i => ∃ (j q : Nat), j ≤ 8 ∧ q < 4294967296 ∧ i = .int .i64 j ∧ a0 = .int .u32 q ∧ Hid (bitsS (8 - j) q = R)) (fun _ i => 8 - (intOf i).toNat)
  case atStart => exact ⟨0, x, by omega, hx, rfl, rfl, HR⟩
  case round =>
    obtain ⟨j, q, hj, hq, rfl, rfl, Hq⟩ := hrel
    by_cases hj8 : j < 8
    · have E := Lib.hid (show bitsS (8 - (j + 1)) (bitS q) = R by
        rw [← Hq.out, show 8 - j = 8 - (j + 1) + 1 by omega]; rfl)
      have e1 := and_one q hq
      by_cases hodd : q % 2 = 1
      · have e2 := xor_u32 (q / 2) 3988292384 (by omega) (by decide)
        have E2 := Lib.hid (show bitS q = (q / 2) ^^^ 3988292384 by rw [bitS, if_pos hodd])
        have hqb : bitS q < 4294967296 := bitS_lt hq
        rw [hodd] at e1
        have e4 := Lib.hid (show bits .xor .u32 ((q : Int) / 2) 3988292384 = ((bitS q : Nat) : Int) by rw [E2.out]; exact e2)
        clear hodd e2
        go_wp2
        exact ⟨⟨j + 1, bitS q, by omega, hqb, by go_num, by rw [e4.out], E⟩, by simp [intOf]; omega⟩
      · have E2 := Lib.hid (show bitS q = q / 2 by rw [bitS, if_neg hodd])
        have h0 : q % 2 = 0 := by omega
        rw [h0] at e1
        have hqb : bitS q < 4294967296 := bitS_lt hq
        clear hodd h0
        go_wp2
        exact ⟨⟨j + 1, bitS q, by omega, hqb, by go_num, by rw [E2.out]; go_num, E⟩, by simp [intOf]; omega⟩
    · have hj8' : j = 8 := by omega
      subst hj8'
      have hqR : q = R := Hq.out
      subst hqR
      go_wp2
      go_ret
      exact ⟨rfl, rfl⟩
theorem shifted_is {x R : Nat} (h : bitsS 8 x = R) (w : World) (hx : x < 4294967296) :
    Calls Try.prog 25 #[.int .u32 (x : Int)] w fun e w' => e = .returned (.int .u32 (R : Int)) ∧ w = w' := by
  have := shifted_any x w hx
  rwa [h] at this

set_option maxRecDepth 20000 in
set_option maxHeartbeats 4000000 in
theorem extend_any (s : Nat) (a : Option Addr) (l : List UInt8) (n cap : Nat) (w : World) (hn : l.length = n) (hb : n ≤ 1000000) (hl : Bytes w a l) (hs : s < 4294967296) :
    Calls Try.prog 15 #[.int .u32 (s : Int), .slice a n cap] w fun e w' => e = .returned (.int .u32 (extS s l : Int)) ∧ w = w' := by
  have Hn := Lib.hid hn
  obtain ⟨R, hR⟩ : ∃ R, runS (4294967295 - s) l = R := ⟨_, rfl⟩
  have HR := Lib.hid hR
  have hR2 : R < 4294967296 := by rw [← hR]; exact runS_lt l (by omega)
  obtain ⟨X, hX⟩ : ∃ X, extS s l = X := ⟨_, rfl⟩
  have HX := Lib.hid (show X = 4294967295 - R by rw [← hX, ← hR]; rfl)
  rw [hX]
  clear hR hn hX
  have e0 := Lib.hid (not_u32 s hs)
  go_enter Try.func15, Try.ntmps15
  go_wp2
  go_loop [5, 12] (fun a5 i => ∃ (k x : Nat), k ≤ n ∧ x < 4294967296 ∧ i = .int .i64 k ∧ a5 = .int .u32 x ∧ Hid (runS x (l.drop k) = R)) (fun _ i => n - (intOf i).toNat)
  case atStart => exact ⟨0, 4294967295 - s, by omega, by omega, rfl, by rw [e0.out], HR⟩
  case round =>
    obtain ⟨k, x, hk, hx, rfl, rfl, Ht⟩ := hrel
    by_cases hlt : k < n
    · have hkl : k < l.length := by rw [Hn.out]; exact hlt
      obtain ⟨b, off, rfl, hc⟩ := hl.byte hkl
      have Hd := Lib.hid (byte_at hkl)
      obtain ⟨c, hcc⟩ : ∃ c, l[k]?.getD 0 = c := ⟨_, rfl⟩
      rw [hcc] at hc Hd
      obtain ⟨y, hy⟩ : ∃ y, c.toNat = y := ⟨_, rfl⟩
      have hu : y < 256 := by rw [← hy]; exact c.toNat_lt
      rw [hy] at hc
      have i0 : (0 : Int) ≤ (k : Int) := by omega
      have i1 : (k : Int) < (n : Int) := by omega
      have hxy : x ^^^ y < 4294967296 := xor_lt32 hx (by omega)
      have e1 := xor_u32 x y hx (by omega)
      obtain ⟨z, hz⟩ : ∃ z, x ^^^ y = z := ⟨_, rfl⟩
      obtain ⟨q, hq⟩ : ∃ q, bitsS 8 z = q := ⟨_, rfl⟩
      have HZ := Lib.hid (show runS q (l.drop (k + 1)) = R by rw [← Ht.out, Hd.out, runS_cons, hy, ← hq, ← hz]; rfl)
      rw [hz] at e1 hxy
      have hqb : q < 4294967296 := by rw [← hq]; exact bitsS_lt 8 hxy
      have Hq := Lib.hid hq
      clear hz hy hcc hkl hq
      go_wp2_with fail
      refine (shifted_is Hq.out w hxy).mono ?_
      rintro e w1 ⟨rfl, rfl⟩
      go_wp2
      exact ⟨⟨k + 1, q, by omega, hqb, by go_num, rfl, HZ⟩, by simp [intOf]; omega⟩
    · have i1 : (n : Int) ≤ (k : Int) := by omega
      have e3 := Lib.hid (show bits .xor .u32 IntKind.u32.max (x : Int) = (X : Int) by
        have : x = R := by rw [← Ht.out, List.drop_eq_nil_of_le (by rw [Hn.out]; omega)]; rfl
        rw [not_u32 x hx, HX.out, this])
      go_wp2
      go_ret
      exact ⟨by rw [e3.out]; rfl, rfl⟩

set_option maxRecDepth 20000 in
theorem sum_any (a : Option Addr) (l : List UInt8) (n cap : Nat) (w : World) (hn : l.length = n) (hb : n ≤ 1000000) (hl : Bytes w a l) :
    Calls Try.prog 12 #[.slice a n cap] w fun e w' => e = .returned (.int .u32 (sumS l : Int)) ∧ w = w' := by
  have C : Calls Try.prog 15 #[.int .u32 0, .slice a n cap] w fun e w' => e = .returned (.int .u32 (extS 0 l : Int)) ∧ w = w' := extend_any 0 a l n cap w hn hb hl (by omega)
  go_enter Try.func12, Try.ntmps12
  go_wp2_with fail
  refine C.mono fun e w1 hr => ?_
  obtain ⟨rfl, rfl⟩ := hr
  go_wp2
  go_ret
  exact ⟨rfl, rfl⟩

/-- four bytes as a number -/
def beL : Nat → List UInt8 → Nat
  | x, [] => x
  | x, c :: r => beL (x * 256 + c.toNat) r
theorem beL_nil (x : Nat) : beL x [] = x := rfl
theorem beL_cons (x : Nat) (c : UInt8) (r : List UInt8) : beL x (c :: r) = beL (x * 256 + c.toNat) r := rfl
theorem beL_tail {t : List UInt8} (h : t.length = 4) (s : Nat) (hs : s < 4294967296) : beL 0 t = s ↔ t = tailL s := by
  match t, h with
  | [a, b, c, d], _ =>
    simp only [beL]
    have ha := a.toNat_lt
    have hb := b.toNat_lt
    have hc := c.toNat_lt
    have hd := d.toNat_lt
    constructor
    · intro e
      subst e
      simp only [tailL, List.cons.injEq, and_true]
      refine ⟨?_, ?_, ?_, ?_⟩ <;>
        (apply UInt8.toNat_inj.1; rw [byte_of (Nat.mod_lt _ (by decide))]; omega)
    · intro e
      simp only [tailL, List.cons.injEq, and_true] at e
      obtain ⟨rfl, rfl, rfl, rfl⟩ := e
      simp only [byte_of (Nat.mod_lt _ (show 0 < 256 by decide))]
      omega
theorem shl_or {x c : Nat} (hx : x < 16777216) (hc : c < 256) : bits .or .u32 ((x : Int) * 256) (c : Int) = ((x * 256 + c : Nat) : Int) := by
  rw [show (x : Int) * 256 = ((x * 256 : Nat) : Int) by omega, or_u32 _ _ (by omega) (by omega), show x * 256 = x * 2 ^ 8 from rfl, Nat.or_comm, or_add (show c < 2 ^ 8 from hc), Nat.add_comm]

set_option maxRecDepth 20000 in
set_option maxHeartbeats 4000000 in
theorem sumAt_any (a : Option Addr) (l : List UInt8) (n cap : Nat) (w : World) (hn : l.length = n) (h4 : 4 ≤ n) (hb : n ≤ 1000000) (hcap : n ≤ cap) (hl : Bytes w a l) :
    Calls Try.prog 31 #[.slice a n cap] w fun e w' => e = .returned (.int .u32 (beL 0 (l.take 4) : Int)) ∧ w = w' := by
  obtain ⟨p, hp, hr⟩ := part_upto und_bytes7 size_bytes7 hl (n := n) (j := 4) (cap := cap) (J := 4) rfl (by rw [bytV_length]; omega) (by omega)
  rw [bytV_take] at hr
  obtain ⟨T, hT⟩ : ∃ T, l.take 4 = T := ⟨_, rfl⟩
  have hlT : T.length = 4 := by rw [← hT, List.length_take]; omega
  rw [hT] at hr ⊢
  obtain ⟨R, hR⟩ : ∃ R, beL 0 T = R := ⟨_, rfl⟩
  have HR := Lib.hid hR
  have Hn := Lib.hid hlT
  rw [hR]
  clear hR hn hT hl hlT
  go_enter Try.func31, Try.ntmps31
  go_wp2
  go_loop [3, 9] (fun a3 i => ∃ (k x : Nat), k ≤ 4 ∧ Hid (x < 256 ^ k) ∧ i = .int .i64 k ∧ a3 = .int .u32 x ∧ Hid (beL x (T.drop k) = R)) (fun _ i => 4 - (intOf i).toNat)
  case atStart => exact ⟨0, 0, by omega, (by decide : 0 < 256 ^ 0), rfl, rfl, HR⟩
  case round =>
    obtain ⟨k, x, hk, Hx, rfl, rfl, Ht⟩ := hrel
    by_cases hlt : k < 4
    · have hkl : k < T.length := by rw [Hn.out]; exact hlt
      obtain ⟨b, off, rfl, hc⟩ := hr.byte hkl
      have Hd := Lib.hid (byte_at hkl)
      obtain ⟨c, hcc⟩ : ∃ c, T[k]?.getD 0 = c := ⟨_, rfl⟩
      rw [hcc] at hc Hd
      obtain ⟨y, hy⟩ : ∃ y, c.toNat = y := ⟨_, rfl⟩
      have hu : y < 256 := by rw [← hy]; exact c.toNat_lt
      rw [hy] at hc
      have i0 : (0 : Int) ≤ (k : Int) := by omega
      have i1 : (k : Int) < 4 := by omega
      have hx24 : x < 16777216 := by
        have h1 := Hx.out
        have h2 : 256 ^ k ≤ 256 ^ 3 := Nat.pow_le_pow_right (by decide) (by omega)
        exact Nat.lt_of_lt_of_le h1 h2
      have e1 := shl_or hx24 hu
      have HZ := Lib.hid (show beL (x * 256 + y) (T.drop (k + 1)) = R by rw [← Ht.out, Hd.out, beL_cons, hy])
      have HX2 := Lib.hid (show x * 256 + y < 256 ^ (k + 1) by
        have h1 := Hx.out
        rw [Nat.pow_succ]
        have h2 : (x + 1) * 256 ≤ 256 ^ k * 256 := Nat.mul_le_mul_right _ h1
        omega)
      obtain ⟨z, hz⟩ : ∃ z, x * 256 + y = z := ⟨_, rfl⟩
      rw [hz] at e1 HZ HX2
      clear hz hy hcc hkl
      go_wp2
      exact ⟨⟨k + 1, z, by omega, HX2, by go_num, rfl, HZ⟩, by simp [intOf]; omega⟩
    · have hk4 : k = 4 := by omega
      have hxR : x = R := by rw [← Ht.out, List.drop_eq_nil_of_le (by rw [Hn.out]; omega)]; rfl
      subst hk4
      subst hxR
      go_wp2
      go_ret
      exact ⟨rfl, rfl⟩

set_option maxRecDepth 20000 in
set_option maxHeartbeats 4000000 in
theorem appendSum_any (base : Nat) (v : Value) (l : List UInt8) (n s : Nat) (w : World) (hown : w.ownsRow base 5 1 v n (bytV l)) (hbase : base ≤ w.heap.size) (hb : n ≤ 900000) (hs : s < 4294967296) :
    Calls Try.prog 27 #[v, .int .u32 (s : Int)] w fun e w' => ∃ v', e = .returned v' ∧ w'.ownsRow base 5 1 v' (n + 4) (bytV (l ++ tailL s)) ∧ Below base w w' := by
  have e : bytV (tailL s) = [.int .u8 ((s : Int) / 16777216), .int .u8 ((s : Int) / 65536 % 256), .int .u8 ((s : Int) / 256 % 256), .int .u8 ((s : Int) % 256)] := by
    simp only [bytV, tailL, List.map_cons, List.map_nil, byte_of (Nat.mod_lt _ (show 0 < 256 by decide))]
    simp
    omega
  have He := Lib.hid e
  clear e
  go_enter Try.func27, Try.ntmps27
  go_wp2_with (at_builtin; refine wpList_append_reads rfl (.tmp 5) (.tmp 17) Try.underlying22 info_byte rfl (by omega) rfl base v n (bytV l) rfl (hown.alloc _) (some ⟨w.heap.size, 0, none⟩) 4 4 (bytV (tailL s)) rfl rfl (by rw [He.out]; exact reads_lit w _ _ rfl) (bytV_one _) (by omega) (by simp; omega) ?_; intro v3 w3 o3 g3 e3)
  have hb3 := below_onward (Below.refl base w) g3 hbase (own_base hown)
  rw [← bytV_append] at o3
  go_ret
  exact ⟨v3, rfl, o3, hb3⟩
theorem appendSum_is {l R : List UInt8} {s m : Nat} (h : l ++ tailL s = R) (base : Nat) (v : Value) (n : Nat) (w : World) (hm : n + 4 = m) (hown : w.ownsRow base 5 1 v n (bytV l)) (hbase : base ≤ w.heap.size) (hb : n ≤ 900000) (hs : s < 4294967296) :
    Calls Try.prog 27 #[v, .int .u32 (s : Int)] w fun e w' => ∃ v', e = .returned v' ∧ w'.ownsRow base 5 1 v' m (bytV R) ∧ Below base w w' := by
  have := appendSum_any base v l n s w hown hbase hb hs
  rwa [h, hm] at this

set_option maxRecDepth 20000 in
set_option maxHeartbeats 4000000 in
theorem frame_any (a : Option Addr) (l : List UInt8) (n cap : Nat) (w : World) (hn : l.length = n) (hb : n ≤ 900000) (hl : Bytes w a l) :
    Calls Try.prog 17 #[.slice a n cap] w (GivesFrame w (frameS l)) := by
  have Hn := Lib.hid hn
  have HL := Lib.hid hl
  obtain ⟨R, hR⟩ : ∃ R, frameS l = R := ⟨_, rfl⟩
  rw [hR]
  by_cases h : 65536 < n
  · have E := Lib.hid (show R = ([], 8) by rw [← hR, frameS, if_pos (by omega)])
    clear hR hn hl
    go_enter Try.func17, Try.ntmps17
    go_wp2
    go_ret2
    exact ⟨.slice none 0 0, by rw [E.out]; rfl, by rw [E.out]; exact World.ownsRow_nil _ _ _ _, Below.refl _ _⟩
  · have E := Lib.hid (show R = (frameL l, 0) by rw [← hR, frameS, if_neg (by omega)])
    have hk := vL_le10 (v := n) (by omega)
    obtain ⟨k, hkk⟩ : ∃ k, (vL n).length = k := ⟨_, rfl⟩
    rw [hkk] at hk
    have C := Lib.hid (putUint_any none [] 0 0 n w rfl (by omega) (reads_nil _ _) (by omega))
    have Hk := Lib.hid hkk
    have hsl : sumS l < 4294967296 := extS_lt 0 l
    have e6 := Lib.hid (show vL n ++ l ++ tailL (sumS l) = frameL l by unfold frameL; rw [Hn.out])
    have e7 := Lib.hid (show (frameL l).length = k + n + 4 by rw [frameL_length, Hn.out, Hk.out])
    clear hR hn hl hkk
    go_enter Try.func17, Try.ntmps17
    go_wp2_with fail
    refine C.out.mono fun e w1 hr => ?_
    obtain ⟨v1, rfl, o1, hb1⟩ := hr
    rw [List.nil_append, Hk.out] at o1
    have hs1 := hb1.size
    go_wp2_with (at_builtin; refine wpList_append_reads rfl (.tmp 11) (.tmp 12) Try.underlying22 info_byte rfl (by omega) rfl w.heap.size _ k (bytV (vL n)) rfl o1 a n cap (bytV l) rfl (by rw [bytV_length]; exact Hn.out) (HL.out.kept hb1) (bytV_one l) (by omega) (by omega) ?_; intro v2 w2 o2 g2 e2)
    have hb2 : Below w.heap.size w w2 := below_own hb1 g2 (own_base o1)
    refine (sum_any a l n cap w2 Hn.out (by omega) (HL.out.kept hb2)).mono fun e w2' hr => ?_
    obtain ⟨rfl, rfl⟩ := hr
    rw [← bytV_append] at o2
    go_wp2_with fail
    refine (appendSum_is e6.out w.heap.size v2 (k + n) w2 rfl o2 hb2.size (by omega) hsl).mono ?_
    rintro e w4 ⟨v4, rfl, o4, hb4⟩
    go_wp2
    go_ret2
    exact ⟨v4, by rw [E.out]; rfl, by rw [E.out, e7.out]; exact o4, hb2.trans hb4⟩

set_option maxRecDepth 20000 in
set_option maxHeartbeats 8000000 in
theorem open_any (a : Option Addr) (l : List UInt8) (n cap : Nat) (w : World) (hn : l.length = n) (hb : n ≤ 900000) (hcap : n ≤ cap) (hl : Bytes w a l) :
    Calls Try.prog 19 #[.slice a n cap] w (GivesOpen w (openS l)) := by
  obtain ⟨i0, hi, hz0, hz1, hz2⟩ := info_parts info_byte
  obtain ⟨⟨u, k, e⟩, hr⟩ : ∃ r, takeU l = r := ⟨_, rfl⟩
  have HT := Lib.hid (takeUint_is hr a n cap w hn (by omega) hl)
  have hI : openS l = if e = 0 then (if 65536 < u then ([], 0, 8) else if l.length < k + u + 4 then ([], 0, 4) else if (l.drop (k + u)).take 4 = tailL (sumS ((l.drop k).take u)) then ((l.drop k).take u, k + u + 4, 0) else ([], 0, 15)) else ([], 0, e) := by unfold openS; rw [hr]
  obtain ⟨R, hR⟩ : ∃ R, openS l = R := ⟨_, rfl⟩
  rw [hR] at hI ⊢
  have HI := Lib.hid hI
  clear hR hI
  by_cases he : e = 0
  · subst he
    obtain ⟨-, hk0, hkl, hu64⟩ := take_back hr
    rw [hn] at hkl
    by_cases h1 : 65536 < u
    · have E := Lib.hid (show R = ([], 0, 8) by rw [HI.out, if_pos rfl, if_pos h1])
      clear hn hl hr hi hz0 hz1 hz2
      go_enter Try.func19, Try.ntmps19
      go_wp2_with fail
      refine HT.out.mono ?_
      rintro e w1 ⟨rfl, rfl⟩
      go_wp2
      go_ret3
      exact ⟨.slice none 0 0, by rw [E.out]; rfl, by rw [E.out]; exact World.ownsRow_nil _ _ _ _, Below.refl _ _⟩
    · by_cases h2 : n < k + u + 4
      · have E := Lib.hid (show R = ([], 0, 4) by rw [HI.out, if_pos rfl, if_neg h1, if_pos (by omega)])
        clear hn hl hr hi hz0 hz1 hz2
        go_enter Try.func19, Try.ntmps19
        go_wp2_with fail
        refine HT.out.mono ?_
        rintro e w1 ⟨rfl, rfl⟩
        go_wp2
        go_ret3
        exact ⟨.slice none 0 0, by rw [E.out]; rfl, by rw [E.out]; exact World.ownsRow_nil _ _ _ _, Below.refl _ _⟩
      · have HI2 := Lib.hid (show R = if (l.drop (k + u)).take 4 = tailL (sumS ((l.drop k).take u)) then ((l.drop k).take u, k + u + 4, 0) else ([], 0, 15) by rw [HI.out, if_pos rfl, if_neg h1, if_neg (by omega)])
        obtain ⟨p1, hp1, hr1⟩ := part_mid und_bytes7 size_bytes7 hl (n := n) (i := k) (j := k + u) (cap := cap) (I := (k : Int)) (J := (k : Int) + (u : Int)) rfl (by simp) (by omega) (by rw [bytV_length]; omega) (by omega)
        rw [show k + u - k = u by omega, bytV_drop, bytV_take] at hr1
        rw [show k + u - k = u by omega] at hp1
        obtain ⟨p2, hp2, hr2⟩ := part_from und_bytes7 size_bytes7 hl (n := n) (i := k + u) (cap := cap) (I := (k : Int) + (u : Int)) (by simp) (by rw [bytV_length]; omega) (by omega) hcap
        rw [bytV_drop] at hr2
        have hlD : ((l.drop k).take u).length = u := by rw [List.length_take, List.length_drop]; omega
        have hlT : ((l.drop (k + u)).take 4).length = 4 := by rw [List.length_take, List.length_drop]; omega
        have hlE : (l.drop (k + u)).length = n - (k + u) := by rw [List.length_drop]; omega
        obtain ⟨D, hD⟩ : ∃ D, (l.drop k).take u = D := ⟨_, rfl⟩
        obtain ⟨F, hF⟩ : ∃ F, l.drop (k + u) = F := ⟨_, rfl⟩
        rw [hD, hF] at HI2
        rw [hD] at hr1 hlD
        rw [hF] at hr2 hlT hlE
        have HD := Lib.hid hlD
        have HR1 := Lib.hid hr1
        have HR2 := Lib.hid hr2
        have HLE := Lib.hid hlE
        obtain ⟨cur, hcur⟩ : ∃ cur, (madeCells #[Value.int .u8 0] u).toList = cur := ⟨_, rfl⟩
        have hcl : cur.length = u := by rw [← hcur, toList_madeCells_one, List.length_replicate]
        have Hcs := Lib.hid (show (bytV D).length = u by rw [bytV_length]; exact hlD)
        have HC := Lib.hid hcur
        have HCl := Lib.hid hcl
        have hsl : sumS D < 4294967296 := extS_lt 0 D
        have hq := beL_tail hlT (sumS D) hsl
        have hu1 : u ≤ 65536 := by omega
        have h2' : k + u + 4 ≤ n := by omega
        clear hn hl hr hr1 hr2 hD hF h1 hlD hlT hlE hcur hcl h2
        obtain ⟨S, hS⟩ : ∃ S, sumS D = S := ⟨_, rfl⟩
        obtain ⟨B, hB⟩ : ∃ B, beL 0 (F.take 4) = B := ⟨_, rfl⟩
        have CS := Lib.hid (fun (b1 : Option Addr) (c1 : Nat) (W : World) (h : Bytes W b1 D) => by have := sum_any b1 D u c1 W HD.out (by omega) h; rwa [hS] at this)
        have CT := Lib.hid (fun (W : World) (h : Bytes W p2 F) => by have := sumAt_any p2 F (n - (k + u)) (cap - (k + u)) W HLE.out (by omega) (by omega) (by omega) h; rwa [hB] at this)
        rw [hS] at HI2 hq hsl
        rw [hB] at hq
        clear hS hB
        have HQ := Lib.hid hq
        clear hq
        go_enter Try.func19, Try.ntmps19
        go_wp2_with fail
        refine HT.out.mono ?_
        rintro e w1 ⟨rfl, rfl⟩
        go_wp2_with (first
          | (refine wpList_make_room _ rfl (.tmp 30) (.tmp 30) 22 rfl 5 i0 (.int .u8 0) 1 Try.underlying22 hi hz0 hz1 .u64 .u64 (u : Int) (u : Int) u u rfl rfl rfl rfl (Nat.le_refl _) (by rw [hz2]; omega) (by unfold maxLen; omega) ?_)
          | (refine wpList_copy_splice rfl (.tmp 32) (.tmp 36) 22 22 rfl 5 Try.underlying22 (by rw [hi]; simp [hz1]) _ _ _ _ _ _ rfl rfl w.heap.size 0 cur 5 (by rw [made_heap, HC.out]) (bytV D) (by rw [Hcs.out]; exact (Nat.min_self u).symm) (fun h0 => ⟨rfl, by
              obtain ⟨ad, h1, h2⟩ := ((HR1.out).kept ((Below.refl _ w).alloc (Nat.le_refl _) _)).copied h0
              exact ⟨ad, h1, h2⟩⟩) (by rw [Hcs.out, HCl.out]; omega) (bytV_one D) w.heap.size w ((Below.refl _ w).alloc (Nat.le_refl _) _) (Nat.le_refl _) ?_; intro w2 HG2 hb2))
        have O1 := Lib.hid (own_spliced HG2.out (Nat.le_refl w.heap.size) Hcs.out HCl.out (Nat.le_refl _) (by unfold maxLen; omega))
        have hs2 := hb2.size
        have HD1 : Bytes w2 (some ⟨w.heap.size, 0, none⟩) D := by
          obtain ⟨b, c, hv, -, hd, -⟩ := own_reads O1.out
          obtain ⟨rfl, -, -⟩ := Value.slice.inj hv
          exact hd
        have HF1 := Lib.hid (HR2.out.kept hb2)
        have HD2 := Lib.hid HD1
        clear HD1
        by_cases hq : F.take 4 = tailL S
        · have E := Lib.hid (show R = (D, k + u + 4, 0) by rw [HI2.out, if_pos hq])
          have hSB : B = S := HQ.out.2 hq
          subst hSB
          clear hq
          go_region_held (fun _ => True) (trivial) (first
            | (go_at_call 12; refine (CS.out _ _ _ (HD2.out.kept (by (repeat' first | with_reducible assumption | exact Below.refl _ _ | with_reducible refine Below.drew ?_ | with_reducible refine Below.drewN ?_ _ | with_reducible refine Below.alloc' ?_ _ | with_reducible refine Below.setCell ?_ (by first | exact Nat.le_refl _ | omega | (simp; done) | (simp; omega)) _ | with_reducible refine Below.after ?_ ‹_›)))).mono ?_; rintro e3 w8 ⟨rfl, rfl⟩)
            | (go_at_call 31; refine (CT.out _ (HF1.out.kept (by (repeat' first | with_reducible assumption | exact Below.refl _ _ | with_reducible refine Below.drew ?_ | with_reducible refine Below.drewN ?_ _ | with_reducible refine Below.alloc' ?_ _ | with_reducible refine Below.setCell ?_ (by first | exact Nat.le_refl _ | omega | (simp; done) | (simp; omega)) _ | with_reducible refine Below.after ?_ ‹_›)))).mono ?_; rintro e3 w8 ⟨rfl, rfl⟩))
          all_goals go_wp2_with fail
          all_goals go_ret3
          all_goals refine ⟨.slice (some ⟨w.heap.size, 0, none⟩) u u, by rw [E.out]; rfl, by rw [E.out]; show World.ownsRow _ _ _ _ _ D.length _; rw [HD.out]; exact own_kept O1.out (by (repeat' first | with_reducible assumption | exact Below.refl _ _ | with_reducible refine Below.drew ?_ | with_reducible refine Below.drewN ?_ _ | with_reducible refine Below.alloc' ?_ _ | with_reducible refine Below.setCell ?_ (by first | exact Nat.le_refl _ | omega | (simp; done) | (simp; omega)) _ | with_reducible refine Below.after ?_ ‹_›)), hb2.trans ((?_ : Below w2.heap.size w2 _).mono hb2.size)⟩
          all_goals (repeat' first | with_reducible assumption | exact Below.refl _ _ | with_reducible refine Below.drew ?_ | with_reducible refine Below.drewN ?_ _ | with_reducible refine Below.alloc' ?_ _ | with_reducible refine Below.setCell ?_ (by first | exact Nat.le_refl _ | omega | (simp; done) | (simp; omega)) _ | with_reducible refine Below.after ?_ ‹_›)
        · have E := Lib.hid (show R = ([], 0, 15) by rw [HI2.out, if_neg hq])
          have hne : ¬ B = S := fun h => hq (HQ.out.1 h)
          have e1 : ((S : Int) != (B : Int)) = true := by simpa using (by omega : ¬ (S : Int) = (B : Int))
          have e2 : ((S : Int) == (B : Int)) = false := by simpa using (by omega : ¬ (S : Int) = (B : Int))
          clear hq hne
          go_region_held (fun _ => True) (trivial) (first
            | (go_at_call 12; refine (CS.out _ _ _ (HD2.out.kept (by (repeat' first | with_reducible assumption | exact Below.refl _ _ | with_reducible refine Below.drew ?_ | with_reducible refine Below.drewN ?_ _ | with_reducible refine Below.alloc' ?_ _ | with_reducible refine Below.setCell ?_ (by first | exact Nat.le_refl _ | omega | (simp; done) | (simp; omega)) _ | with_reducible refine Below.after ?_ ‹_›)))).mono ?_; rintro e3 w8 ⟨rfl, rfl⟩)
            | (go_at_call 31; refine (CT.out _ (HF1.out.kept (by (repeat' first | with_reducible assumption | exact Below.refl _ _ | with_reducible refine Below.drew ?_ | with_reducible refine Below.drewN ?_ _ | with_reducible refine Below.alloc' ?_ _ | with_reducible refine Below.setCell ?_ (by first | exact Nat.le_refl _ | omega | (simp; done) | (simp; omega)) _ | with_reducible refine Below.after ?_ ‹_›)))).mono ?_; rintro e3 w8 ⟨rfl, rfl⟩))
          all_goals go_wp2_with fail
          all_goals go_ret3
          all_goals refine ⟨.slice none 0 0, by rw [E.out]; rfl, by rw [E.out]; exact World.ownsRow_nil _ _ _ _, hb2.trans ((?_ : Below w2.heap.size w2 _).mono hb2.size)⟩
          all_goals (repeat' first | with_reducible assumption | exact Below.refl _ _ | with_reducible refine Below.drew ?_ | with_reducible refine Below.drewN ?_ _ | with_reducible refine Below.alloc' ?_ _ | with_reducible refine Below.setCell ?_ (by first | exact Nat.le_refl _ | omega | (simp; done) | (simp; omega)) _ | with_reducible refine Below.after ?_ ‹_›)
  · have E := Lib.hid (show R = ([], 0, e) by rw [HI.out, if_neg he])
    have e0 : (e != 0) = true := by simpa using he
    clear he hn hl hr hi hz0 hz1 hz2
    go_enter Try.func19, Try.ntmps19
    go_wp2_with fail
    refine HT.out.mono ?_
    rintro e w1 ⟨rfl, rfl⟩
    go_wp2
    go_ret3
    exact ⟨.slice none 0 0, by rw [E.out]; rfl, by rw [E.out]; exact World.ownsRow_nil _ _ _ _, Below.refl _ _⟩
theorem open_is7 {l : List UInt8} {d : List UInt8} {m : Nat} {e : Int} (h : openS l = (d, m, e)) (a : Option Addr) (n cap : Nat) (w : World) (hn : l.length = n) (hb : n ≤ 900000) (hcap : n ≤ cap) (hl : Bytes w a l) :
    Calls Try.prog 19 #[.slice a n cap] w fun e' w' => ∃ v, e' = .returned (.tuple #[v, .int .i64 (m : Int), .int .i64 e]) ∧ w'.ownsRow w.heap.size 5 1 v d.length (bytV d) ∧ Below w.heap.size w w' := by
  have := open_any a l n cap w hn hb hcap hl
  unfold GivesOpen at this
  rwa [h] at this

set_option maxRecDepth 20000 in
set_option maxHeartbeats 8000000 in
theorem all_any (a : Option Addr) (l : List UInt8) (n cap : Nat) (w : World) (hn : l.length = n) (hb : n ≤ 900000) (hcap : n ≤ cap) (hl : Bytes w a l) :
    Calls Try.prog 22 #[.slice a n cap] w (GivesAll w (allS l)) := by
  have Hn := Lib.hid hn
  have HL := Lib.hid hl
  obtain ⟨R, hR⟩ : ∃ R, allS l = R := ⟨_, rfl⟩
  have HR := Lib.hid hR
  rw [hR]
  clear hn hl hR
  go_enter Try.func22, Try.ntmps22
  go_wp2
  go_loopw [4, 5, 6, 7, 8] (fun v x _ _ _ wr => ∃ (k m : Nat) (vals : List Value) (acc : List (List UInt8)), k ≤ n ∧ m ≤ k ∧ x = .int .i64 k ∧ wr.ownsRow w.heap.size 22 1 v m vals ∧ Hid (HeldR bytV wr v vals acc) ∧ Hid (R = (acc ++ (allS (l.drop k)).1, k + (allS (l.drop k)).2)) ∧ Below w.heap.size w wr) (fun _ x _ _ _ _ => n - (intOf x).toNat)
  case atStart => exact ⟨0, 0, [], [], Nat.zero_le _, Nat.le_refl _, rfl, World.ownsRow_nil _ _ _ _, heldR_nil _ _, (show R = ([] ++ (allS (l.drop 0)).1, 0 + (allS (l.drop 0)).2) by simp [HR.out]), Below.refl _ _⟩
  case round =>
    obtain ⟨k, m, vals, acc, hk, hmk, rfl, own, Hh, Ha, hb0⟩ := hrel
    have hsz := hb0.size
    obtain ⟨p, hp, hr⟩ := part_from und_bytes7 size_bytes7 (HL.out.kept hb0) (n := n) (i := k) (cap := cap) (I := (k : Int)) rfl (by rw [bytV_length]; exact Hn.out) hk hcap
    rw [bytV_drop] at hr
    obtain ⟨⟨d, q, e⟩, ho⟩ : ∃ r, openS (l.drop k) = r := ⟨_, rfl⟩
    have HO := Lib.hid ho
    have HC := Lib.hid (open_is7 ho p (n - k) (cap - k) wr (by rw [List.length_drop, Hn.out]) (by omega) (by omega) hr)
    clear ho hr
    by_cases he : e = 0
    · subst he
      have hq := open_count (l := l.drop k) (by rw [HO.out])
      rw [HO.out, List.length_drop, Hn.out] at hq
      simp only [] at hq
      have E := Lib.hid (all_next (l := []) (j := 0) Ha.out HO.out)
      go_wp2_with fail
      ((with_reducible refine HC.out.mono ?_))
      rintro e1 w1 ⟨v1, rfl, o1, hb1⟩
      obtain ⟨b1, c1, rfl, h1, h2, h3, h4⟩ := own_slice o1
      have H3 := Lib.hid h3
      have H4 := Lib.hid h4
      obtain ⟨u, hu⟩ : ∃ u, d.length = u := ⟨_, rfl⟩
      have Hu := Lib.hid hu
      rw [hu] at h2 ⊢
      have own1 := own_kept own hb1
      have hb1' : Below w.heap.size w w1 := hb0.trans (hb1.mono hb0.size)
      have hsz1 := hb1'.size
      clear h1 h3 h4 o1 hu
      go_wp2_with (at_builtin; refine wpList_append_one rfl (.tmp 21) (.tmp 23) Try.underlying36 info_rows7 rfl (by omega) rfl w.heap.size _ m vals rfl (own1.alloc _) w1.heap.size 1 (.slice b1 u c1) rfl (by simp [go_sem]) rfl (by omega) (by simp; omega) ?_; intro v3 w3 o3 g3 e3)
      have hb3 : Below w.heap.size w w3 := below_grown hb1' g3 (own_base own1)
      go_roundw
      case rel =>
        refine ⟨k + q, m + 1, _, acc ++ [d], by omega, by omega, by go_num, o3, ?_, E.out, hb3⟩
        exact HeldR.more (Hh.out.kept hb1 |>.kept ((Below.refl _ w1).alloc (Nat.le_refl _) _)) g3 e3 Hu.out h2 (H3.out.kept ((Below.refl _ w1).alloc (Nat.le_refl _) _)) (fun _ y hy => apart_new own (H4.out y hy).1)
      case measure => simp [intOf]; omega
    · have E := Lib.hid (all_end7 Ha.out HO.out he)
      have e0 : (e != 0) = true := by simpa using he
      clear he
      go_wp2_with fail
      ((with_reducible refine HC.out.mono ?_))
      rintro e1 w1 ⟨v1, rfl, o1, hb1⟩
      obtain ⟨b, c, rfl, hlen, hc, hrd, -⟩ := own_rowss (own_kept own hb1) (Hh.out.kept hb1)
      have Hlen := Lib.hid hlen
      have Hrd := Lib.hid hrd
      clear hlen hrd own o1
      go_wp2
      go_ret2
      exact ⟨b, c, by rw [E.out, Hlen.out]; rfl, by rw [E.out, Hlen.out]; exact hc, by rw [E.out]; exact Hrd.out, by (repeat' first | with_reducible assumption | exact Below.refl _ _ | with_reducible refine Below.drew ?_ | with_reducible refine Below.drewN ?_ _ | with_reducible refine Below.alloc' ?_ _ | with_reducible refine Below.setCell ?_ (by first | exact Nat.le_refl _ | omega | (simp; done) | (simp; omega)) _ | with_reducible refine Below.after ?_ ‹_›)⟩

/-- the landed package keeps what the laws' walks ask -/
theorem crcCon : CrcCon where
  sum a l n cap w hn hb hc hl := (sum_any a l n cap w hn (by omega) hl).mono (by rintro e w' ⟨rfl, rfl⟩; exact ⟨rfl, Below.refl _ _⟩)
  extend s a l n cap w hs hn hb hc hl := (extend_any s a l n cap w hn (by omega) hl hs).mono (by rintro e w' ⟨rfl, rfl⟩; exact ⟨rfl, Below.refl _ _⟩)
  frame a l n cap w hn hb hc hl := (frame_any a l n cap w hn hb hl).mono fun _ _ h => h.gives
  open_ a l n cap w hn hb hc hl := (open_any a l n cap w hn hb hc hl).mono fun _ _ h => h.gives
  all a l n cap w hn hb hc hl := all_any a l n cap w hn hb hc hl
end Go.Proofs.Ytedgcgdgdjilhaa
