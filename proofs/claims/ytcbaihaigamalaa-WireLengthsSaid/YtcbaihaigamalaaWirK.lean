/-
  The contracts of package wire that the laws' walks ask, gathered in one structure; the reference's Same; the laws' small and awake.
-/
import Derived.Test.YtcbaihaigamalaaWirC
namespace Go.Proofs.Ytcbaihaigamalaa
set_option linter.unusedVariables false
set_option linter.unusedSimpArgs false
open Go.RowKit

/-- a call that gives back bytes -/
def GivesBytes (w : World) (l : List UInt8) (e : Ending) (w' : World) : Prop := ∃ b c, e = .returned (.slice b l.length c) ∧ l.length ≤ c ∧ Bytes w' b l ∧ Below w.heap.size w w'
theorem GivesOwn.gives {w w' : World} {l : List UInt8} {e : Ending} (h : GivesOwn w l e w') : GivesBytes w l e w' := by
  obtain ⟨v, rfl, ho, hb⟩ := h
  rcases ho.2 with ⟨rfl, h0⟩ | ⟨g, cap, cur, rfl, _, _, hnc, _⟩
  · obtain ⟨a, c, e, _, hr, _⟩ := own_reads ho
    obtain ⟨rfl, _, rfl⟩ := Value.slice.inj e
    exact ⟨none, 0, by rw [h0], by omega, hr, hb⟩
  · obtain ⟨a, c, e, _, hr, _⟩ := own_reads ho
    obtain ⟨rfl, _, rfl⟩ := Value.slice.inj e
    exact ⟨_, cap, rfl, hnc, hr, hb⟩
theorem rPutUint_gives {l R : List UInt8} {u : Nat} (h : l ++ vL u = R) (a : Option Addr) (n cap : Nat) (w : World) (hn : l.length = n) (hb : n ≤ 900000) (hl : Bytes w a l) (hu : u < 18446744073709551616) :
    Calls Try.prog 16 #[.slice a n cap, .int .u64 (u : Int)] w (GivesBytes w R) :=
  (rPutUint_is h a n cap w hn hb hl hu).mono fun _ _ h => h.gives
theorem rPutInt_gives {l R : List UInt8} {x : Int} (h : l ++ iL x = R) (a : Option Addr) (n cap : Nat) (w : World) (hn : l.length = n) (hb : n ≤ 900000) (hl : Bytes w a l) (h1 : -9223372036854775808 ≤ x) (h2 : x ≤ 9223372036854775807) :
    Calls Try.prog 20 #[.slice a n cap, .int .i64 x] w (GivesBytes w R) :=
  (rPutInt_is h a n cap w hn hb hl h1 h2).mono fun _ _ h => h.gives
theorem rPutText_gives {l R : List UInt8} {s : ByteArray} (h : l ++ textL s.data.toList = R) (a : Option Addr) (n cap : Nat) (w : World) (hn : l.length = n) (hb : n ≤ 400000) (hl : Bytes w a l) (hs : s.size ≤ 400000) :
    Calls Try.prog 24 #[.slice a n cap, .string s] w (GivesBytes w R) := by
  subst h
  exact (rPutText_any a l n cap s w hn hb hl hs).mono fun _ _ h => h.gives
theorem rPutList_gives {l R : List UInt8} {x : List Int} (h : l ++ listL x = R) (a : Option Addr) (n cap : Nat) (b : Option Addr) (m c : Nat) (w : World) (hn : l.length = n) (hm : x.length = m) (hb : n ≤ 400000) (hb2 : m ≤ 40000) (hl : Bytes w a l) (hx : Ints w b x) (hr : ∀ y ∈ x, -9223372036854775808 ≤ y ∧ y ≤ 9223372036854775807) :
    Calls Try.prog 28 #[.slice a n cap, .slice b m c] w (GivesBytes w R) := by
  subst h
  exact (rPutList_any a l n cap b x m c w hn hm hb hb2 hl hx hr).mono fun _ _ h => h.gives
theorem rTakeText_is {l : List UInt8} {most : Int} {s : ByteArray} {k : Nat} {e : Int} (h : takeT l most = (s.data.toList, k, e)) (a : Option Addr) (n cap : Nat) (w : World) (hn : l.length = n) (hb : n ≤ 1000000) (hc : n ≤ cap) (hl : Bytes w a l) (hm : most ≤ 9223372036854775807) :
    Calls Try.prog 22 #[.slice a n cap, .int .i64 most] w fun e' w' => e' = .returned (.tuple #[.string s, .int .i64 (k : Int), .int .i64 e]) ∧ w = w' := by
  have := rTakeText_any a l n cap most w hn hb hc hl hm
  rw [h] at this
  exact this
theorem rTakeList_is {l : List UInt8} {most : Int} {r : List Int × Nat × Int} (h : takeLs l most = r) (a : Option Addr) (n cap : Nat) (w : World) (hn : l.length = n) (hb : n ≤ 900000) (hc : n ≤ cap) (hl : Bytes w a l) (hm : most ≤ 9223372036854775807) :
    Calls Try.prog 26 #[.slice a n cap, .int .i64 most] w (GivesInts w r) := by
  have := rTakeList_any a l n cap most w hn hb hc hl hm
  rwa [h] at this
/-- what the laws' walks ask of package wire -/
structure WirCon : Prop where
  putUint : ∀ (a : Option Addr) (l : List UInt8) (n cap u : Nat) (w : World) (_hn : l.length = n) (_hb : n ≤ 400000) (_hc : n ≤ cap) (_hl : Bytes w a l) (_hu : u < 18446744073709551616),
    Calls Try.prog 15 #[.slice a n cap, .int .u64 (u : Int)] w (GivesBytes w (l ++ vL u))
  takeUint : ∀ (a : Option Addr) (l : List UInt8) (n cap : Nat) (w : World) (_hn : l.length = n) (_hb : n ≤ 900000) (_hc : n ≤ cap) (_hl : Bytes w a l),
    Calls Try.prog 13 #[.slice a n cap] w fun e w' => e = .returned (.tuple #[.int .u64 ((takeU l).1 : Int), .int .i64 ((takeU l).2.1 : Int), .int .i64 (takeU l).2.2]) ∧ Below w.heap.size w w'
  putInt : ∀ (a : Option Addr) (l : List UInt8) (n cap : Nat) (x : Int) (w : World) (_hn : l.length = n) (_hb : n ≤ 400000) (_hc : n ≤ cap) (_hl : Bytes w a l) (_h1 : -9223372036854775808 ≤ x) (_h2 : x ≤ 9223372036854775807),
    Calls Try.prog 19 #[.slice a n cap, .int .i64 x] w (GivesBytes w (l ++ iL x))
  takeInt : ∀ (a : Option Addr) (l : List UInt8) (n cap : Nat) (w : World) (_hn : l.length = n) (_hb : n ≤ 900000) (_hc : n ≤ cap) (_hl : Bytes w a l),
    Calls Try.prog 17 #[.slice a n cap] w fun e w' => e = .returned (.tuple #[.int .i64 (takeI l).1, .int .i64 ((takeI l).2.1 : Int), .int .i64 (takeI l).2.2]) ∧ Below w.heap.size w w'
  putText : ∀ (a : Option Addr) (l : List UInt8) (n cap : Nat) (s : ByteArray) (w : World) (_hn : l.length = n) (_hb : n ≤ 400000) (_hc : n ≤ cap) (_hl : Bytes w a l) (_hs : s.size ≤ 400000),
    Calls Try.prog 23 #[.slice a n cap, .string s] w (GivesBytes w (l ++ textL s.data.toList))
  takeText : ∀ (a : Option Addr) (l : List UInt8) (n cap : Nat) (most : Int) (w : World) (_hn : l.length = n) (_hb : n ≤ 900000) (_hc : n ≤ cap) (_hl : Bytes w a l) (_hm0 : -9223372036854775808 ≤ most) (_hm : most ≤ 9223372036854775807),
    Calls Try.prog 21 #[.slice a n cap, .int .i64 most] w fun e w' => e = .returned (.tuple #[.string ⟨(takeT l most).1.toArray⟩, .int .i64 ((takeT l most).2.1 : Int), .int .i64 (takeT l most).2.2]) ∧ Below w.heap.size w w'
  putList : ∀ (a : Option Addr) (l : List UInt8) (n cap : Nat) (b : Option Addr) (x : List Int) (m c : Nat) (w : World) (_hn : l.length = n) (_hm : x.length = m) (_hb : n ≤ 400000) (_hb2 : m ≤ 40000) (_hc : n ≤ cap) (_hc2 : m ≤ c) (_hl : Bytes w a l) (_hx : Ints w b x) (_hr : ∀ y ∈ x, -9223372036854775808 ≤ y ∧ y ≤ 9223372036854775807),
    Calls Try.prog 27 #[.slice a n cap, .slice b m c] w (GivesBytes w (l ++ listL x))
  takeList : ∀ (a : Option Addr) (l : List UInt8) (n cap : Nat) (most : Int) (w : World) (_hn : l.length = n) (_hb : n ≤ 900000) (_hc : n ≤ cap) (_hl : Bytes w a l) (_hm0 : -9223372036854775808 ≤ most) (_hm : most ≤ 9223372036854775807),
    Calls Try.prog 25 #[.slice a n cap, .int .i64 most] w (GivesInts w (takeLs l most))

def Drawn (w : World) (v : Value) (e : Ending) (w' : World) : Prop := e = .returned v ∧ ∃ m, w' = w.drewN m
theorem take_same {α : Type} {l m : List α} {k : Nat} (h : l.take k = m.take k) (hl : l[k]? = m[k]?) : l.take (k + 1) = m.take (k + 1) := by
  rw [List.take_add_one, List.take_add_one, h, hl]
theorem getD_int {l : List Int} {k : Nat} (h : k < l.length) : l[k]? = some (l[k]?.getD 0) := by
  rw [List.getElem?_eq_getElem h]; rfl
theorem drewN_below (w : World) (m : Nat) : Below w.heap.size w (w.drewN m) := Below.drewN (Below.refl w.heap.size w) m

set_option maxRecDepth 20000 in
set_option maxHeartbeats 4000000 in
theorem rSame_any (a b : Option Addr) (l m : List Int) (n c k d : Nat) (w : World) (hn : l.length = n) (hk : m.length = k) (hb : n ≤ 1000000) (hb2 : k ≤ 1000000) (hl : Ints w a l) (hm : Ints w b m) :
    Calls Try.prog 29 #[.slice a n c, .slice b k d] w (Drawn w (.bool (decide (l = m)))) := by
  have Hn := Lib.hid hn
  have Hk := Lib.hid hk
  clear hn hk
  by_cases hnk : n = k
  · have Hnk := Lib.hid hnk
    have e1 : ((n : Int) != (k : Int)) = false := by simp; omega
    have e0 : n ≤ k := by omega
    clear hnk
    go_enter Try.func29, Try.ntmps29
    go_wp2
    go_loopw [5, 13] (fun _ i wr => ∃ j : Nat, j ≤ n ∧ i = .int .i64 j ∧ Hid (∃ q, wr = w.drewN q) ∧ Hid (l.take j = m.take j)) (fun _ i _ => n - (intOf i).toNat)
    case atStart => exact ⟨0, Nat.zero_le _, rfl, ⟨0, rfl⟩, rfl⟩
    case round =>
      obtain ⟨j, hj, rfl, Hq, Ht⟩ := hrel
      by_cases hlt : j < n
      · have hjl : j < l.length := by rw [Hn.out]; exact hlt
        have hjm : j < m.length := by rw [Hk.out]; omega
        have hl' : Ints wr a l := by obtain ⟨q, rfl⟩ := Hq.out; exact hl
        have hm' : Ints wr b m := by obtain ⟨q, rfl⟩ := Hq.out; exact hm
        obtain ⟨g, off, rfl, hc⟩ := hl'.int hjl
        obtain ⟨g2, off2, rfl, hc2⟩ := hm'.int hjm
        have G1 := Lib.hid (getD_int hjl)
        have G2 := Lib.hid (getD_int hjm)
        obtain ⟨u, hu⟩ : ∃ u, l[j]?.getD 0 = u := ⟨_, rfl⟩
        obtain ⟨v, hv⟩ : ∃ u, m[j]?.getD 0 = u := ⟨_, rfl⟩
        rw [hu] at hc G1
        rw [hv] at hc2 G2
        have i0 : (0 : Int) ≤ (j : Int) := by omega
        have i1 : (j : Int) < (n : Int) := by omega
        have i2 : (j : Int) < (k : Int) := by omega
        have i3 : j < k := by omega
        clear hu hv hl' hm' hjl hjm
        by_cases huv : u = v
        · have E := Lib.hid (show l.take (j + 1) = m.take (j + 1) from take_same Ht.out (by rw [G1.out, G2.out, huv]))
          have hts : (u != v) = false := by simpa using huv
          clear huv
          go_wp2_with fail
          go_quiet (fail)
          go_wp2
          go_roundw
          case rel => exact ⟨j + 1, by omega, by go_num, by obtain ⟨q, hq⟩ := Hq.out; exact ⟨_, by rw [hq, World.drewN_drewN]⟩, E⟩
          case measure => simp [intOf]; omega
        · have E := Lib.hid (show decide (l = m) = false from decide_eq_false (fun h => huv (by
            have h1 := G1.out
            rw [h, G2.out] at h1
            exact (Option.some.inj h1).symm)))
          have hts : (u != v) = true := by simpa using huv
          clear huv
          go_wp2_with fail
          go_quiet (fail)
          go_wp2
          go_ret
          exact ⟨by rw [E.out]; rfl, by obtain ⟨q, hq⟩ := Hq.out; exact ⟨_, by rw [hq, World.drewN_drewN]⟩⟩
      · have E := Lib.hid (show decide (l = m) = true from decide_eq_true (by
          have h := Ht.out
          rwa [List.take_of_length_le (by rw [Hn.out]; omega), List.take_of_length_le (by rw [Hk.out, ← Hnk.out]; omega)] at h))
        go_wp2
        go_ret
        exact ⟨by rw [E.out]; rfl, Hq.out⟩
  · have E := Lib.hid (show decide (l = m) = false from decide_eq_false (fun h => hnk (by rw [← Hn.out, ← Hk.out, h])))
    have e1 : ((n : Int) != (k : Int)) = true := by simpa using (by omega : ¬ (n : Int) = (k : Int))
    have e2 : ((n : Int) == (k : Int)) = false := by simpa using (by omega : ¬ (n : Int) = (k : Int))
    clear hnk
    go_enter Try.func29, Try.ntmps29
    go_wp2
    go_ret
    exact ⟨by rw [E.out]; rfl, ⟨0, rfl⟩⟩
theorem rSame_is {l m : List Int} {r : Bool} (h : decide (l = m) = r) (a b : Option Addr) (n c k d : Nat) (w : World) (hn : l.length = n) (hk : m.length = k) (hb : n ≤ 1000000) (hb2 : k ≤ 1000000) (hl : Ints w a l) (hm : Ints w b m) :
    Calls Try.prog 29 #[.slice a n c, .slice b k d] w fun e w' => e = .returned (.bool r) ∧ Below w.heap.size w w' := by
  refine (rSame_any a b l m n c k d w hn hk hb hb2 hl hm).mono ?_
  rintro e w' ⟨rfl, q, rfl⟩
  exact ⟨by rw [h], drewN_below w q⟩

def smallB (n s m : Nat) : Bool := decide (n ≤ 5000) && decide (s ≤ 5000) && decide (m ≤ 5000)
theorem small_any (a : Option Addr) (n cap : Nat) (s : ByteArray) (b : Option Addr) (m c : Nat) (w : World) (hn : n ≤ maxLen) (hs : s.size ≤ maxLen) (hm : m ≤ maxLen) :
    Calls Try.prog 11 #[.slice a n cap, .string s, .slice b m c] w fun e w' => e = .returned (.bool (smallB n s.size m)) ∧ w = w' := by
  unfold maxLen at hn hs hm
  by_cases h1 : n ≤ 5000
  · by_cases h2 : s.size ≤ 5000
    · by_cases h3 : m ≤ 5000
      · have E := Lib.hid (show smallB n s.size m = true by simp [smallB, *])
        have e3 : decide ((m : Int) ≤ 5000) = true := decide_eq_true (by omega)
        go_enter Try.func11, Try.ntmps11
        go_wp2
        go_ret
        exact ⟨by rw [E.out]; rfl, rfl⟩
      · have E := Lib.hid (show smallB n s.size m = false by simp [smallB, *])
        have e3 : decide ((m : Int) ≤ 5000) = false := decide_eq_false (by omega)
        go_enter Try.func11, Try.ntmps11
        go_wp2
        go_ret
        exact ⟨by rw [E.out]; rfl, rfl⟩
    · have E := Lib.hid (show smallB n s.size m = false by simp [smallB, *])
      go_enter Try.func11, Try.ntmps11
      go_wp2
      go_ret
      exact ⟨by rw [E.out]; rfl, rfl⟩
  · have E := Lib.hid (show smallB n s.size m = false by simp [smallB, *])
    go_enter Try.func11, Try.ntmps11
    go_wp2
    go_ret
    exact ⟨by rw [E.out]; rfl, rfl⟩
theorem small_is {n s0 m : Nat} {r : Bool} (h : smallB n s0 m = r) (a : Option Addr) (cap : Nat) (s : ByteArray) (b : Option Addr) (c : Nat) (w : World) (h0 : s.size = s0) (hn : n ≤ maxLen) (hs : s.size ≤ maxLen) (hm : m ≤ maxLen) :
    Calls Try.prog 11 #[.slice a n cap, .string s, .slice b m c] w fun e w' => e = .returned (.bool r) ∧ w = w' := by
  subst h0
  have := small_any a n cap s b m c w hn hs hm
  rwa [h] at this

section
variable (K : WirCon)
include K
theorem WirCon.takeUint_is {l : List UInt8} {u k : Nat} {e : Int} (h : takeU l = (u, k, e)) (a : Option Addr) (n cap : Nat) (w : World) (hn : l.length = n) (hb : n ≤ 900000) (hc : n ≤ cap) (hl : Bytes w a l) :
    Calls Try.prog 13 #[.slice a n cap] w fun e' w' => e' = .returned (.tuple #[.int .u64 (u : Int), .int .i64 (k : Int), .int .i64 e]) ∧ Below w.heap.size w w' := by
  have := K.takeUint a l n cap w hn hb hc hl
  rwa [h] at this
theorem WirCon.takeInt_is {l : List UInt8} {x : Int} {k : Nat} {e : Int} (h : takeI l = (x, k, e)) (a : Option Addr) (n cap : Nat) (w : World) (hn : l.length = n) (hb : n ≤ 900000) (hc : n ≤ cap) (hl : Bytes w a l) :
    Calls Try.prog 17 #[.slice a n cap] w fun e' w' => e' = .returned (.tuple #[.int .i64 x, .int .i64 (k : Int), .int .i64 e]) ∧ Below w.heap.size w w' := by
  have := K.takeInt a l n cap w hn hb hc hl
  rwa [h] at this
theorem WirCon.takeText_is {l : List UInt8} {most : Int} {s : ByteArray} {k : Nat} {e : Int} (h : takeT l most = (s.data.toList, k, e)) (a : Option Addr) (n cap : Nat) (w : World) (hn : l.length = n) (hb : n ≤ 900000) (hc : n ≤ cap) (hl : Bytes w a l) (hm0 : -9223372036854775808 ≤ most) (hm : most ≤ 9223372036854775807) :
    Calls Try.prog 21 #[.slice a n cap, .int .i64 most] w fun e' w' => e' = .returned (.tuple #[.string s, .int .i64 (k : Int), .int .i64 e]) ∧ Below w.heap.size w w' := by
  have := K.takeText a l n cap most w hn hb hc hl hm0 hm
  rw [h] at this
  exact this
theorem WirCon.takeList_is {l : List UInt8} {most : Int} {r : List Int × Nat × Int} (h : takeLs l most = r) (a : Option Addr) (n cap : Nat) (w : World) (hn : l.length = n) (hb : n ≤ 900000) (hc : n ≤ cap) (hl : Bytes w a l) (hm0 : -9223372036854775808 ≤ most) (hm : most ≤ 9223372036854775807) :
    Calls Try.prog 25 #[.slice a n cap, .int .i64 most] w (GivesInts w r) := by
  have := K.takeList a l n cap most w hn hb hc hl hm0 hm
  rwa [h] at this
theorem WirCon.putUint_is {l R : List UInt8} {u : Nat} (h : l ++ vL u = R) (a : Option Addr) (n cap : Nat) (w : World) (hn : l.length = n) (hb : n ≤ 400000) (hc : n ≤ cap) (hl : Bytes w a l) (hu : u < 18446744073709551616) :
    Calls Try.prog 15 #[.slice a n cap, .int .u64 (u : Int)] w (GivesBytes w R) := by
  have := K.putUint a l n cap u w hn hb hc hl hu
  rwa [h] at this

set_option maxRecDepth 100000 in
set_option maxHeartbeats 4000000 in
theorem wirAwake_any (w : World) :
    Calls Try.prog 12 #[] w fun e w' => e = .returned (.bool true) ∧ Below w.heap.size w w' := by
  have E1 := Lib.hid (show takeU [172, 2, 9] = (300, 2, 0) by decide +kernel)
  have E2 := Lib.hid (show takeI [129, 1] = (-65, 2, 0) by decide +kernel)
  have E3 := Lib.hid (show takeT [2, 97, 98] 2 = ((⟨#[97, 98]⟩ : ByteArray).data.toList, 3, 0) by decide +kernel)
  have E4 := Lib.hid (show takeLs [2, 10, 1] 5 = ([5, -1], 3, 0) by decide +kernel)
  have E5 := Lib.hid (show [] ++ vL 300 = [172, 2] by rw [vL_more (by decide), vL_one (by decide)]; rfl)
  go_enter Try.func12, Try.ntmps12
  go_wp2_with fail
  refine (K.takeUint_is E1.out _ 3 3 _ rfl (by decide) (Nat.le_refl _) (reads_lit w (bytV [172, 2, 9]) 5 rfl)).mono ?_
  rintro e w1 ⟨rfl, hb1⟩
  go_wp2_with fail
  refine (K.takeInt_is E2.out _ 2 2 _ rfl (by decide) (Nat.le_refl _) (reads_lit w1 (bytV [129, 1]) 5 rfl)).mono ?_
  rintro e w2 ⟨rfl, hb2⟩
  go_wp2_with fail
  refine (K.takeText_is (s := ⟨#[97, 98]⟩) E3.out _ 3 3 _ rfl (by decide) (Nat.le_refl _) (reads_lit w2 (bytV [2, 97, 98]) 5 rfl) (by decide) (by decide)).mono ?_
  rintro e w3 ⟨rfl, hb3⟩
  go_wp2_with fail
  refine (K.takeList_is E4.out _ 3 3 _ rfl (by decide) (Nat.le_refl _) (reads_lit w3 (bytV [2, 10, 1]) 5 rfl) (by decide) (by decide)).mono ?_
  rintro e w4 ⟨b4, c4, rfl, -, hi4, hb4⟩
  go_wp2_with fail
  refine (K.putUint_is (u := 300) E5.out none 0 0 _ rfl (by decide) (Nat.le_refl _) (reads_nil _ _) (by decide)).mono ?_
  rintro e w5 ⟨b5, c5, rfl, -, hi5, hb5⟩
  have hcv := run_string_bytes Try.underlying22 Try.underlying5 Try.underlying9 w5 b5 [172, 2] 2 c5 rfl hi5
  go_wp2_with fail
  refine (rSame_is (l := [5, -1]) (m := [5, -1]) (r := true) (by decide) b4 _ 2 c4 2 2 _ rfl rfl (by decide) (by decide) ((hi4.kept hb5).kept (by (repeat' first | with_reducible assumption | exact Below.refl _ _ | with_reducible refine Below.drew ?_ | with_reducible refine Below.drewN ?_ _ | with_reducible refine Below.alloc' ?_ _ | with_reducible refine Below.setCell ?_ (by first | exact Nat.le_refl _ | omega | (simp; done) | (simp; omega)) _ | with_reducible refine Below.after ?_ ‹_›))) (reads_lit w5 (intV [5, -1]) 3 rfl)).mono ?_
  rintro e w6 ⟨rfl, hb6⟩
  go_wp2
  go_ret
  exact ⟨rfl, by (repeat' first | with_reducible assumption | exact Below.refl _ _ | with_reducible refine Below.drew ?_ | with_reducible refine Below.drewN ?_ _ | with_reducible refine Below.alloc' ?_ _ | with_reducible refine Below.setCell ?_ (by first | exact Nat.le_refl _ | omega | (simp; done) | (simp; omega)) _ | with_reducible refine Below.after ?_ ‹_›)⟩
end
end Go.Proofs.Ytcbaihaigamalaa
