/-
  Walks over the laws of package crc: Sums, Extends, Frames, Opens, Alls.
-/
import Derived.Test.YtedgcgdgdjilhaaCrcK
namespace Go.Proofs.Ytedgcgdgdjilhaa
set_option linter.unusedVariables false
set_option linter.unusedSimpArgs false
open Go.RowKit

section
variable (K : CrcCon)
include K
set_option maxRecDepth 20000 in
set_option maxHeartbeats 4000000 in
theorem crcSums_of (a : Option Addr) (l : List UInt8) (n cap : Nat) (w : World) (hn : l.length = n) (hc : n ≤ cap) (hb : n ≤ maxLen) (hl : Bytes w a l) :
    Calls Try.prog 3 #[.slice a n cap] w fun e w' => e = .returned (.bool true) ∧ Below w.heap.size w w' := by
  unfold maxLen at hb
  by_cases h : 5000 < n
  · clear hn hl
    go_enter Try.func3, Try.ntmps3
    go_wp2_with fail
    refine (crcAwake_any K _).mono ?_
    rintro e w1 ⟨rfl, hb1⟩
    go_wp2
    go_ret
    exact ⟨rfl, hb1⟩
  · obtain ⟨x, hx⟩ : ∃ x, sumS l = x := ⟨_, rfl⟩
    have C1 := Lib.hid (K.sum_is hx a n cap w hn (by omega) hc hl)
    have C2 := Lib.hid (fun W (hW : Below w.heap.size w W) => show Calls Try.prog 13 #[.slice a n cap] W fun e w' => e = .returned (.int .u32 (x : Int)) ∧ W = w' by
      have := rSum_any a l n cap W hn (by omega) (hl.kept hW)
      rwa [hx] at this)
    have hxx : ((x : Int) == (x : Int)) = true := by simp
    clear hn hl hx
    go_enter Try.func3, Try.ntmps3
    go_wp2_with fail
    ((with_reducible refine C1.out.mono ?_))
    rintro e w1 ⟨rfl, hb1⟩
    go_wp2_with fail
    ((with_reducible refine (C2.out w1 hb1).mono ?_))
    rintro e w1 ⟨rfl, rfl⟩
    go_wp2_with fail
    refine (crcAwake_any K _).mono ?_
    rintro e w2 ⟨rfl, hb2⟩
    go_wp2
    go_ret
    exact ⟨rfl, by (repeat' first | with_reducible assumption | exact Below.refl _ _ | with_reducible refine Below.drew ?_ | with_reducible refine Below.drewN ?_ _ | with_reducible refine Below.alloc' ?_ _ | with_reducible refine Below.setCell ?_ (by first | exact Nat.le_refl _ | omega | (simp; done) | (simp; omega)) _ | with_reducible refine Below.after ?_ ‹_›)⟩

set_option maxRecDepth 20000 in
set_option maxHeartbeats 8000000 in
theorem crcExtends_of (s : Nat) (a : Option Addr) (l : List UInt8) (n cap : Nat) (b : Option Addr) (m : List UInt8) (k c : Nat) (w : World) (hs : s < 4294967296) (hn : l.length = n) (hc : n ≤ cap) (hb : n ≤ maxLen) (hl : Bytes w a l)
    (hk : m.length = k) (hkc : k ≤ c) (hb2 : k ≤ maxLen) (hm : Bytes w b m) :
    Calls Try.prog 4 #[.int .u32 (s : Int), .slice a n cap, .slice b k c] w fun e w' => e = .returned (.bool true) ∧ Below w.heap.size w w' := by
  unfold maxLen at hb hb2
  by_cases h : n ≤ 5000 ∧ k ≤ 5000
  · obtain ⟨h1, h2⟩ := h
    have HL := Lib.hid hl
    have HM := Lib.hid hm
    have Hn := Lib.hid hn
    have Hk := Lib.hid hk
    obtain ⟨x, hx⟩ : ∃ x, extS s m = x := ⟨_, rfl⟩
    obtain ⟨y, hy⟩ : ∃ x, sumS l = x := ⟨_, rfl⟩
    obtain ⟨z, hz⟩ : ∃ x, sumS (l ++ m) = x := ⟨_, rfl⟩
    have HX := Lib.hid hx
    have HY := Lib.hid hy
    have HZ := Lib.hid hz
    have HE := Lib.hid (show extS y m = z by rw [← hy, ← hz, ext_sum])
    have hy32 : y < 4294967296 := by rw [← hy]; exact extS_lt 0 l
    have hxx : ((x : Int) == (x : Int)) = true := by simp
    have hzz : ((z : Int) == (z : Int)) = true := by simp
    have hss : ((s : Int) == (s : Int)) = true := by simp
    clear hn hk hl hm hx hy hz
    go_enter Try.func4, Try.ntmps4
    go_wp2_with (first
      | (at_builtin; refine wpList_append_reads rfl (.tmp 17) (.tmp 18) Try.underlying22 info_byte rfl (by omega) rfl w.heap.size (.slice (some ⟨w.heap.size, 0, none⟩) 0 0) 0 [] rfl (own_made w _ rfl (Nat.le_refl _)) a n cap (bytV l) rfl (by rw [bytV_length]; exact Hn.out) (HL.out.kept ((Below.refl _ w).alloc (Nat.le_refl _) _)) (bytV_one l) (by omega) (by simp) ?_; intro v1 w1 o1 g1 e1; have hb1 : Below w.heap.size w w1 := below_grown (Below.refl _ w) g1 (fun g hg => by simp [Value.ownBlock] at hg; omega); have hs1 := hb1.size; rw [Nat.zero_add, List.nil_append] at o1)
      | (at_builtin; refine wpList_append_reads rfl (.tmp 19) (.tmp 20) Try.underlying22 info_byte rfl (by omega) rfl w.heap.size _ n (bytV l) rfl o1 b k c (bytV m) rfl (by rw [bytV_length]; exact Hk.out) (HM.out.kept hb1) (bytV_one m) (by omega) (by omega) ?_; intro v2 w2 o2 g2 e2; have hb2 : Below w.heap.size w w2 := below_own hb1 g2 (own_base o1); rw [← bytV_append] at o2; obtain ⟨b2, c2, rfl, h2, hc2, hr2, -⟩ := own_slice o2; have HR2 := Lib.hid hr2; clear hr2 h2))
    clear o1 o2 g1 g2 e1 e2 hb1
    refine (K.extend_is HX.out b k c w2 hs Hk.out (by omega) hkc (HM.out.kept hb2)).mono ?_
    rintro e w3 ⟨rfl, hb3⟩
    have hb3' := hb2.trans (hb3.mono hb2.size)
    have HR3 := Lib.hid (HR2.out.kept hb3)
    go_wp2_with fail
    have C := rExtend_any s b m k c w3 Hk.out (by omega) (HM.out.kept hb3') hs
    rw [HX.out] at C
    refine C.mono ?_
    clear C
    rintro e w4 ⟨rfl, rfl⟩
    go_wp2_with fail
    refine (K.sum_is HY.out a n cap w3 Hn.out (by omega) hc (HL.out.kept hb3')).mono ?_
    rintro e w4 ⟨rfl, hb4⟩
    have hb4' := hb3'.trans (hb4.mono hb3'.size)
    have HR4 := Lib.hid (HR3.out.kept hb4)
    go_wp2_with fail
    refine (K.extend_is HE.out b k c w4 hy32 Hk.out (by omega) hkc (HM.out.kept hb4')).mono ?_
    rintro e w5 ⟨rfl, hb5⟩
    have hb5' := hb4'.trans (hb5.mono hb4'.size)
    have HR5 := Lib.hid (HR4.out.kept hb5)
    go_wp2_with fail
    refine (K.sum_is HZ.out b2 (n + k) c2 w5 (by rw [List.length_append, Hn.out, Hk.out]) (by omega) hc2 HR5.out).mono ?_
    rintro e w6 ⟨rfl, hb6⟩
    have hb6' := hb5'.trans (hb6.mono hb5'.size)
    go_wp2_with fail
    refine (K.extend_is (ext_nil hs) none 0 0 w6 hs rfl (by decide) (Nat.le_refl _) (reads_nil _ _)).mono ?_
    rintro e w7 ⟨rfl, hb7⟩
    have hb7' := hb6'.trans (hb7.mono hb6'.size)
    clear hb3 hb4 hb5 hb6 hb7 hb2 hb3' hb4' hb5' hb6'
    go_wp2_with fail
    refine (crcAwake_any K _).mono ?_
    rintro e w8 ⟨rfl, hb8⟩
    go_wp2
    go_ret
    exact ⟨rfl, by (repeat' first | with_reducible assumption | exact Below.refl _ _ | with_reducible refine Below.drew ?_ | with_reducible refine Below.drewN ?_ _ | with_reducible refine Below.alloc' ?_ _ | with_reducible refine Below.setCell ?_ (by first | exact Nat.le_refl _ | omega | (simp; done) | (simp; omega)) _ | with_reducible refine Below.after ?_ ‹_›)⟩
  · have h' : n ≤ 5000 → 5000 < k := fun h1 => by
      apply Classical.byContradiction
      intro h2
      exact h ⟨h1, by omega⟩
    clear h hn hk hl hm
    by_cases h1 : n ≤ 5000
    · have h2 := h' h1
      clear h'
      go_enter Try.func4, Try.ntmps4
      go_wp2_with fail
      refine (crcAwake_any K _).mono ?_
      rintro e w1 ⟨rfl, hb1⟩
      go_wp2
      go_ret
      exact ⟨rfl, hb1⟩
    · clear h'
      go_enter Try.func4, Try.ntmps4
      go_wp2_with fail
      refine (crcAwake_any K _).mono ?_
      rintro e w1 ⟨rfl, hb1⟩
      go_wp2
      go_ret
      exact ⟨rfl, hb1⟩

omit K in
theorem rFrame_is {l f : List UInt8} {e : Int} {m : Nat} (h : frameS l = (f, e)) (hm : f.length = m) (a : Option Addr) (n cap : Nat) (w : World) (hn : l.length = n) (hb : n ≤ 900000) (hl : Bytes w a l) :
    Calls Try.prog 18 #[.slice a n cap] w fun e' w' => ∃ b c, e' = .returned (.tuple #[.slice b m c, .int .i64 e]) ∧ m ≤ c ∧ Bytes w' b f ∧ Below w.heap.size w w' := by
  have := (rFrame_any a l n cap w hn hb hl).mono fun _ _ h => h.gives
  unfold GivesF at this
  subst hm
  rwa [h] at this
omit K in
theorem rOpen_gives {l d : List UInt8} {q : Nat} {e : Int} {m : Nat} (h : openS l = (d, q, e)) (hm : d.length = m) (a : Option Addr) (n cap : Nat) (w : World) (hn : l.length = n) (hb : n ≤ 900000) (hc : n ≤ cap) (hl : Bytes w a l) :
    Calls Try.prog 21 #[.slice a n cap] w fun e' w' => ∃ b c, e' = .returned (.tuple #[.slice b m c, .int .i64 (q : Int), .int .i64 e]) ∧ m ≤ c ∧ Bytes w' b d ∧ Below w.heap.size w w' := by
  have := (rOpen_any a l n cap w hn hb hc hl).mono fun _ _ h => h.gives
  unfold GivesO at this
  subst hm
  rwa [h] at this
omit K in
theorem rAll_is {l : List UInt8} {ds : List (List UInt8)} {q m : Nat} (h : allS l = (ds, q)) (hm : ds.length = m) (a : Option Addr) (n cap : Nat) (w : World) (hn : l.length = n) (hb : n ≤ 900000) (hc : n ≤ cap) (hl : Bytes w a l) :
    Calls Try.prog 23 #[.slice a n cap] w fun e' w' => ∃ b c, e' = .returned (.tuple #[.slice b m c, .int .i64 (q : Int)]) ∧ m ≤ c ∧ Bytess w' b ds ∧ Below w.heap.size w w' := by
  have := rAll_any a l n cap w hn hb hc hl
  unfold GivesAll at this
  subst hm
  rwa [h] at this
omit K in
theorem str_bytes7 {w : World} {a : Option Addr} {l : List UInt8} {n c : Nat} (hn : l.length = n) (h : Bytes w a l) : (convert 22 9 (.slice a n c)).run Try.prog w = .ok (.string ⟨l.toArray⟩) w :=
  run_string_bytes Try.underlying22 Try.underlying5 Try.underlying9 w a l n c hn h

set_option maxRecDepth 20000 in
set_option maxHeartbeats 4000000 in
theorem crcFrames_of (a : Option Addr) (l : List UInt8) (n cap : Nat) (w : World) (hn : l.length = n) (hc : n ≤ cap) (hb : n ≤ maxLen) (hl : Bytes w a l) :
    Calls Try.prog 5 #[.slice a n cap] w fun e w' => e = .returned (.bool true) ∧ Below w.heap.size w w' := by
  unfold maxLen at hb
  by_cases h : 5000 < n
  · clear hn hl
    go_enter Try.func5, Try.ntmps5
    go_wp2_with fail
    refine (crcAwake_any K _).mono ?_
    rintro e w1 ⟨rfl, hb1⟩
    go_wp2
    go_ret
    exact ⟨rfl, hb1⟩
  · obtain ⟨⟨F, e⟩, hF⟩ : ∃ r, frameS l = r := ⟨_, rfl⟩
    obtain ⟨m, hm⟩ : ∃ m, F.length = m := ⟨_, rfl⟩
    have Hm := Lib.hid hm
    have C1 := Lib.hid (K.frame_is hF hm a n cap w hn (by omega) hc hl)
    have C2 := Lib.hid (fun W (hW : Below w.heap.size w W) => rFrame_is hF hm a n cap W hn (by omega) (hl.kept hW))
    have hee : (e == e) = true := by simp
    obtain ⟨S, hS⟩ : ∃ S : ByteArray, (⟨F.toArray⟩ : ByteArray) = S := ⟨_, rfl⟩
    have HS := Lib.hid hS
    have hts : (S.toList == S.toList) = true := by simp
    clear hn hl hF hm hS
    go_enter Try.func5, Try.ntmps5
    go_wp2_with fail
    ((with_reducible refine C1.out.mono ?_))
    rintro e1 w1 ⟨b1, c1, rfl, hc1, hr1, hb1⟩
    go_wp2_with fail
    ((with_reducible refine (C2.out w1 hb1).mono ?_))
    rintro e2 w2 ⟨b2, c2, rfl, hc2, hr2, hb2⟩
    have hv1 := str_bytes7 (c := c1) Hm.out (hr1.kept hb2)
    have hv2 := str_bytes7 (c := c2) Hm.out hr2
    rw [HS.out] at hv1 hv2
    clear hr1 hr2
    go_wp2_with fail
    refine (crcAwake_any K _).mono ?_
    rintro e w3 ⟨rfl, hb3⟩
    go_wp2
    go_ret
    exact ⟨rfl, by (repeat' first | with_reducible assumption | exact Below.refl _ _ | with_reducible refine Below.drew ?_ | with_reducible refine Below.drewN ?_ _ | with_reducible refine Below.alloc' ?_ _ | with_reducible refine Below.setCell ?_ (by first | exact Nat.le_refl _ | omega | (simp; done) | (simp; omega)) _ | with_reducible refine Below.after ?_ ‹_›)⟩

set_option maxRecDepth 20000 in
set_option maxHeartbeats 4000000 in
theorem crcOpens_of (a : Option Addr) (l : List UInt8) (n cap : Nat) (w : World) (hn : l.length = n) (hc : n ≤ cap) (hb : n ≤ maxLen) (hl : Bytes w a l) :
    Calls Try.prog 7 #[.slice a n cap] w fun e w' => e = .returned (.bool true) ∧ Below w.heap.size w w' := by
  unfold maxLen at hb
  by_cases h : 5000 < n
  · clear hn hl
    go_enter Try.func7, Try.ntmps7
    go_wp2_with fail
    refine (crcAwake_any K _).mono ?_
    rintro e w1 ⟨rfl, hb1⟩
    go_wp2
    go_ret
    exact ⟨rfl, hb1⟩
  · obtain ⟨⟨F, q, e⟩, hF⟩ : ∃ r, openS l = r := ⟨_, rfl⟩
    obtain ⟨m, hm⟩ : ∃ m, F.length = m := ⟨_, rfl⟩
    have Hm := Lib.hid hm
    have C1 := Lib.hid (K.open_is hF hm a n cap w hn (by omega) hc hl)
    have C2 := Lib.hid (fun W (hW : Below w.heap.size w W) => rOpen_gives hF hm a n cap W hn (by omega) hc (hl.kept hW))
    have hee : (e == e) = true := by simp
    have hqq : ((q : Int) == (q : Int)) = true := by simp
    obtain ⟨S, hS⟩ : ∃ S : ByteArray, (⟨F.toArray⟩ : ByteArray) = S := ⟨_, rfl⟩
    have HS := Lib.hid hS
    have hts : (S.toList == S.toList) = true := by simp
    clear hn hl hF hm hS
    go_enter Try.func7, Try.ntmps7
    go_wp2_with fail
    ((with_reducible refine C1.out.mono ?_))
    rintro e1 w1 ⟨b1, c1, rfl, hc1, hr1, hb1⟩
    go_wp2_with fail
    ((with_reducible refine (C2.out w1 hb1).mono ?_))
    rintro e2 w2 ⟨b2, c2, rfl, hc2, hr2, hb2⟩
    have hv1 := str_bytes7 (c := c1) Hm.out (hr1.kept hb2)
    have hv2 := str_bytes7 (c := c2) Hm.out hr2
    rw [HS.out] at hv1 hv2
    clear hr1 hr2
    go_wp2_with fail
    refine (crcAwake_any K _).mono ?_
    rintro e w3 ⟨rfl, hb3⟩
    go_wp2
    go_ret
    exact ⟨rfl, by (repeat' first | with_reducible assumption | exact Below.refl _ _ | with_reducible refine Below.drew ?_ | with_reducible refine Below.drewN ?_ _ | with_reducible refine Below.alloc' ?_ _ | with_reducible refine Below.setCell ?_ (by first | exact Nat.le_refl _ | omega | (simp; done) | (simp; omega)) _ | with_reducible refine Below.after ?_ ‹_›)⟩

set_option maxRecDepth 20000 in
set_option maxHeartbeats 4000000 in
theorem crcAlls_of (a : Option Addr) (l : List UInt8) (n cap : Nat) (w : World) (hn : l.length = n) (hc : n ≤ cap) (hb : n ≤ maxLen) (hl : Bytes w a l) :
    Calls Try.prog 8 #[.slice a n cap] w fun e w' => e = .returned (.bool true) ∧ Below w.heap.size w w' := by
  unfold maxLen at hb
  by_cases h : 5000 < n
  · clear hn hl
    go_enter Try.func8, Try.ntmps8
    go_wp2_with fail
    refine (crcAwake_any K _).mono ?_
    rintro e w1 ⟨rfl, hb1⟩
    go_wp2
    go_ret
    exact ⟨rfl, hb1⟩
  · obtain ⟨⟨F, q⟩, hF⟩ : ∃ r, allS l = r := ⟨_, rfl⟩
    obtain ⟨m, hm⟩ : ∃ m, F.length = m := ⟨_, rfl⟩
    have hml : m ≤ 5000 := by
      have h1 := all_count (l.length + 1) l
      have h2 : allA (l.length + 1) l = (F, q) := hF
      rw [h2] at h1
      simp only [] at h1
      omega
    have Hm := Lib.hid hm
    have C1 := Lib.hid (K.all_is hF hm a n cap w hn (by omega) hc hl)
    have C2 := Lib.hid (fun W (hW : Below w.heap.size w W) => rAll_is hF hm a n cap W hn (by omega) hc (hl.kept hW))
    have hqq : ((q : Int) == (q : Int)) = true := by simp
    clear hn hl hF hm
    go_enter Try.func8, Try.ntmps8
    go_wp2_with fail
    ((with_reducible refine C1.out.mono ?_))
    rintro e1 w1 ⟨b1, c1, rfl, hc1, hr1, hb1⟩
    go_wp2_with fail
    ((with_reducible refine (C2.out w1 hb1).mono ?_))
    rintro e2 w2 ⟨b2, c2, rfl, hc2, hr2, hb2⟩
    go_wp2_with fail
    refine (rSame7_is (l := F) (m := F) (r := true) (by simp) b1 b2 m c1 m c2 w2 Hm.out Hm.out (by omega) (by omega) (hr1.kept hb2) hr2).mono ?_
    rintro e3 w3 ⟨rfl, hb3⟩
    go_wp2_with fail
    refine (crcAwake_any K _).mono ?_
    rintro e w4 ⟨rfl, hb4⟩
    go_wp2
    go_ret
    exact ⟨rfl, by (repeat' first | with_reducible assumption | exact Below.refl _ _ | with_reducible refine Below.drew ?_ | with_reducible refine Below.drewN ?_ _ | with_reducible refine Below.alloc' ?_ _ | with_reducible refine Below.setCell ?_ (by first | exact Nat.le_refl _ | omega | (simp; done) | (simp; omega)) _ | with_reducible refine Below.after ?_ ‹_›)⟩
end
end Go.Proofs.Ytedgcgdgdjilhaa
