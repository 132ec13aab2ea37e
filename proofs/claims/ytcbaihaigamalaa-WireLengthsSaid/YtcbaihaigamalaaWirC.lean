/-
  Walks over the reference of package wire: PutText, TakeText, PutList, TakeList, Same.
-/
import Derived.Test.YtcbaihaigamalaaWirB
import Derived.Deep.QuietTactic
import Derived.BigQuiet
namespace Go.Proofs.Ytcbaihaigamalaa
set_option linter.unusedVariables false
set_option linter.unusedSimpArgs false
open Go.RowKit

theorem info_int : (Try.prog.info? 3).map (fun i => (i.zero, i.size, i.bytes)) = some (some (.int .i64 0), 1, 8) := by kernel_rfl
theorem elem_bytes : Try.prog.elem 22 = 5 := by kernel_rfl
theorem und_bytes : Try.prog.underlying 22 = some (.slice (Try.prog.elem 22)) := by rw [elem_bytes]; exact Try.underlying22
theorem size_bytes (W : World) : (sizeOf (Try.prog.elem 22)).run Try.prog W = .ok 1 W := by rw [elem_bytes]; exact Try.sizeOf5 W
theorem own_lower {w : World} {b1 b2 : Nat} {e : TypeId} {size n : Nat} {v : Value} {xs : List Value} (h : w.ownsRow b2 e size v n xs) (hb : b1 ≤ b2) : w.ownsRow b1 e size v n xs := by
  refine ⟨h.1, ?_⟩
  rcases h.2 with h0 | ⟨g, cap, cur, hv, hg, rest⟩
  · exact .inl h0
  · exact .inr ⟨g, cap, cur, hv, by omega, rest⟩
theorem own_cap {w : World} {base : Nat} {e : TypeId} {size n c : Nat} {a : Option Addr} {xs : List Value} (h : w.ownsRow base e size (.slice a n c) n xs) : n ≤ c := by
  rcases h.2 with ⟨h0, h1⟩ | ⟨g, cap, cur, hv, _, _, hnc, _⟩
  · omega
  · obtain ⟨_, _, rfl⟩ := Value.slice.inj hv
    exact hnc
theorem strCells_bytV (s : ByteArray) : Lib.strCells s = bytV s.data.toList := rfl

set_option maxRecDepth 20000 in
set_option maxHeartbeats 4000000 in
theorem rPutText_any (a : Option Addr) (l : List UInt8) (n cap : Nat) (s : ByteArray) (w : World) (hn : l.length = n) (hb : n ≤ 400000) (hl : Bytes w a l) (hs : s.size ≤ 400000) :
    Calls Try.prog 24 #[.slice a n cap, .string s] w (GivesOwn w (l ++ textL s.data.toList)) := by
  obtain ⟨i0, hi, hz0, hz1, hz2⟩ := info_parts info_byte
  have hsl : s.data.toList.length = s.size := rfl
  obtain ⟨R, hR⟩ : ∃ R, l ++ vL s.size = R := ⟨_, rfl⟩
  have hlen : R.length ≤ 400010 := by
    have := (vL_le10 (show s.size < 18446744073709551616 by omega)).2
    rw [← hR, List.length_append]
    omega
  have E := Lib.hid (show l ++ textL s.data.toList = R ++ s.data.toList by unfold textL; rw [hsl, ← hR, List.append_assoc])
  have HP := Lib.hid (rPutUint_is hR a n cap w hn (by omega) hl (by omega))
  rw [E.out]
  obtain ⟨q, hq⟩ : ∃ q, R.length = q := ⟨_, rfl⟩
  have Hq := Lib.hid hq
  rw [hq] at hlen
  clear hR hq hsl hn hl
  go_enter Try.func24, Try.ntmps24
  go_wp2_with fail
  refine HP.out.mono ?_
  rintro e w1 ⟨v, rfl, ho, hb1⟩
  rw [Hq.out] at ho
  go_wp2_with (at_builtin; refine Lib.wpList_append_own_string w1 rfl (.tmp 9) (.tmp 10) 22 9 rfl w.heap.size 5 i0 Try.underlying22 Try.underlying9 hi hz0 hz1 hz2 v q (bytV R) rfl ho s rfl (by unfold maxLen; omega) (by omega) hb1.size ?_; intro v3 w3 o3 g3 _)
  have hb3 : Below w.heap.size w w3 := below_own hb1 g3 (own_base ho)
  rw [strCells_bytV, ← bytV_append] at o3
  go_ret
  refine ⟨v3, rfl, ?_, hb3⟩
  rw [List.length_append, Hq.out]
  exact o3

set_option maxRecDepth 20000 in
set_option maxHeartbeats 4000000 in
theorem rTakeText_any (a : Option Addr) (l : List UInt8) (n cap : Nat) (most : Int) (w : World) (hn : l.length = n) (hb : n ≤ 1000000) (hcap : n ≤ cap) (hl : Bytes w a l) (hm : most ≤ 9223372036854775807) :
    Calls Try.prog 22 #[.slice a n cap, .int .i64 most] w fun e w' => e = .returned (.tuple #[.string ⟨(takeT l most).1.toArray⟩, .int .i64 ((takeT l most).2.1 : Int), .int .i64 (takeT l most).2.2]) ∧ w = w' := by
  obtain ⟨⟨u, k, e⟩, hr⟩ : ∃ r, lenS l most = r := ⟨_, rfl⟩
  have HT := Lib.hid (rLength_is hr a n cap w hn hb hl hm)
  have hI : takeT l most = if e = 0 then (if l.length - k < u then ([], 0, 4) else ((l.drop k).take u, k + u, 0)) else ([], 0, e) := by unfold takeT; rw [hr]
  obtain ⟨R, hR⟩ : ∃ R, takeT l most = R := ⟨_, rfl⟩
  rw [hR] at hI ⊢
  have HI := Lib.hid hI
  clear hR hI
  by_cases he : e = 0
  · subst he
    obtain ⟨-, hk0, hkl, hu64, hum⟩ := lenS_back hr
    rw [hn] at hkl
    by_cases h1 : n - k < u
    · have E := Lib.hid (show R = ([], 0, 4) by rw [HI.out, if_pos rfl, if_pos (by rw [hn]; exact h1)])
      have h1' : (n : Int) - (k : Int) < (u : Int) := by omega
      clear hn hl hr
      go_enter Try.func22, Try.ntmps22
      go_wp2_with fail
      refine HT.out.mono ?_
      rintro e w1 ⟨rfl, rfl⟩
      go_wp2
      go_ret3
      exact ⟨by rw [E.out]; rfl, rfl⟩
    · have E := Lib.hid (show R = ((l.drop k).take u, k + u, 0) by rw [HI.out, if_pos rfl, if_neg (by rw [hn]; exact h1)])
      have h1' : (u : Int) ≤ (n : Int) - (k : Int) := by omega
      obtain ⟨p, hp, hpr⟩ := part_mid und_bytes size_bytes hl (n := n) (i := k) (j := k + u) (cap := cap) (I := (k : Int)) (J := (k : Int) + (u : Int)) rfl (by simp) (by omega) (by rw [bytV_length]; omega) (by omega)
      rw [show k + u - k = u by omega] at hp hpr
      rw [bytV_drop, bytV_take] at hpr
      have hcv := run_string_bytes Try.underlying22 Try.underlying5 Try.underlying9 w p ((l.drop k).take u) u (cap - k) (by rw [List.length_take, List.length_drop]; omega) hpr
      obtain ⟨v, hv⟩ : ∃ v, (⟨((l.drop k).take u).toArray⟩ : ByteArray) = v := ⟨_, rfl⟩
      rw [hv] at hcv
      have Hv := Lib.hid hv
      clear hn hl hr h1 hpr hv
      go_enter Try.func22, Try.ntmps22
      go_wp2_with fail
      refine HT.out.mono ?_
      rintro e w1 ⟨rfl, rfl⟩
      go_wp2
      go_ret3
      exact ⟨by rw [E.out, Hv.out]; rfl, rfl⟩
  · have E := Lib.hid (show R = ([], 0, e) by rw [HI.out, if_neg he])
    have e0 : (e != 0) = true := by simpa using he
    clear he hn hl hr
    go_enter Try.func22, Try.ntmps22
    go_wp2_with fail
    refine HT.out.mono ?_
    rintro e w1 ⟨rfl, rfl⟩
    go_wp2
    go_ret3
    exact ⟨by rw [E.out]; rfl, rfl⟩

theorem items_drop {x : List Int} {k : Nat} (h : k < x.length) : itemsL (x.drop k) = iL (x[k]?.getD 0) ++ itemsL (x.drop (k + 1)) := by
  rw [List.drop_eq_getElem_cons h, List.getElem?_eq_getElem h]
  rfl
theorem iL_le10 {n : Int} (h1 : -9223372036854775808 ≤ n) (h2 : n ≤ 9223372036854775807) : (iL n).length ≤ 10 := (vL_le10 (zz_lt h1 h2)).2

theorem items_le10 : ∀ (l : List Int), (∀ y ∈ l, -9223372036854775808 ≤ y ∧ y ≤ 9223372036854775807) → (itemsL l).length ≤ 10 * l.length
  | [], _ => by simp [itemsL]
  | n :: l, h => by
    have h1 := h n (by simp)
    have h2 := iL_le10 h1.1 h1.2
    have h3 := items_le10 l (fun y hy => h y (by simp [hy]))
    rw [show itemsL (n :: l) = iL n ++ itemsL l from rfl, List.length_append, List.length_cons]
    omega

set_option maxRecDepth 20000 in
set_option maxHeartbeats 8000000 in
theorem rPutList_any (a : Option Addr) (l : List UInt8) (n cap : Nat) (b : Option Addr) (x : List Int) (m c : Nat) (w : World) (hn : l.length = n) (hm : x.length = m) (hb : n ≤ 400000) (hb2 : m ≤ 40000) (hl : Bytes w a l) (hx : Ints w b x) (hr : ∀ y ∈ x, -9223372036854775808 ≤ y ∧ y ≤ 9223372036854775807) :
    Calls Try.prog 28 #[.slice a n cap, .slice b m c] w (GivesOwn w (l ++ listL x)) := by
  have Hm := Lib.hid hm
  have Hr := Lib.hid hr
  obtain ⟨R, hR⟩ : ∃ R, l ++ listL x = R := ⟨_, rfl⟩
  rw [hR]
  obtain ⟨S, hS⟩ : ∃ S, l ++ vL m = S := ⟨_, rfl⟩
  have HP := Lib.hid (rPutUint_is hS a n cap w hn (by omega) hl (by omega))
  have hSl : S.length ≤ n + 10 := by
    have := (vL_le10 (show m < 18446744073709551616 by omega)).2
    rw [← hS, List.length_append]
    omega
  have HR := Lib.hid (show S ++ itemsL (x.drop 0) = R by rw [← hS, ← hR, List.drop_zero]; unfold listL; rw [hm, List.append_assoc])
  obtain ⟨q, hq⟩ : ∃ q, S.length = q := ⟨_, rfl⟩
  have Hq := Lib.hid hq
  rw [hq] at hSl
  clear hR hS hn hl hm hr hq
  go_enter Try.func28, Try.ntmps28
  go_wp2_with fail
  refine HP.out.mono ?_
  rintro e w1 ⟨v, rfl, ho, hb1⟩
  rw [Hq.out] at ho
  obtain ⟨a1, c1, rfl, -, -, -⟩ := own_reads ho
  go_wp2
  go_loopw [5, 7, 15] (fun v _ i wr => ∃ (k q : Nat) (acc : List UInt8), k ≤ m ∧ i = .int .i64 k ∧ q ≤ n + 10 + 10 * k ∧ Hid (acc.length = q) ∧ wr.ownsRow w.heap.size 5 1 v q (bytV acc) ∧ Hid (acc ++ itemsL (x.drop k) = R) ∧ Below w.heap.size w wr) (fun _ _ i _ => m - (intOf i).toNat)
  case atStart => exact ⟨0, q, S, Nat.zero_le _, rfl, hSl, Hq.out, ho, HR.out, hb1⟩
  case round =>
    obtain ⟨k, q', acc, hk, rfl, hq', Hq', hown, Hacc, hbr⟩ := hrel
    obtain ⟨a2, c2, rfl, -, hread, -⟩ := own_reads hown
    by_cases hlt : k < m
    · have hkl : k < x.length := by rw [Hm.out]; exact hlt
      obtain ⟨g, off, rfl, hc⟩ := (hx.kept hbr).int hkl
      have Hi := Lib.hid (items_drop hkl)
      obtain ⟨y1, y2⟩ := Hr.out (x[k]?.getD 0) (by rw [List.getElem?_eq_getElem hkl]; exact List.getElem_mem hkl)
      obtain ⟨y, hy⟩ : ∃ y, x[k]?.getD 0 = y := ⟨_, rfl⟩
      rw [hy] at hc Hi y1 y2
      obtain ⟨T, hT⟩ : ∃ T, acc ++ iL y = T := ⟨_, rfl⟩
      have hPI := rPutInt_is hT a2 q' c2 wr Hq'.out (by omega) hread y1 y2
      have E := Lib.hid (show T ++ itemsL (x.drop (k + 1)) = R by rw [← hT, ← Hacc.out, Hi.out, List.append_assoc])
      have hTl : T.length ≤ q' + 10 := by
        have := iL_le10 y1 y2
        rw [← hT, List.length_append, Hq'.out]
        omega
      have HPI := Lib.hid hPI
      have i0 : (0 : Int) ≤ (k : Int) := by omega
      have i1 : (k : Int) < (m : Int) := by omega
      clear hy hT hPI hkl hread
      go_wp2_with fail
      refine HPI.out.mono ?_
      rintro e w3 ⟨v3, rfl, o3, hb3⟩
      have hb3' : Below w.heap.size w w3 := hbr.trans (hb3.mono hbr.size)
      go_wp2
      go_roundw
      case rel => exact ⟨k + 1, T.length, T, by omega, by go_num, by omega, rfl, own_lower o3 hbr.size, E.out, hb3'⟩
      case measure => simp [intOf]; omega
    · have E := Lib.hid (show acc = R by
        have h := Hacc.out
        rw [List.drop_eq_nil_of_le (by rw [Hm.out]; omega)] at h
        simpa [itemsL] using h)
      clear hread
      go_wp2
      go_ret
      refine ⟨_, rfl, ?_, hbr⟩
      rw [← E.out, Hq'.out]
      exact hown

/-- a call that gives back integers in new memory, a number and an error -/
def GivesInts (w : World) (r : List Int × Nat × Int) (e : Ending) (w' : World) : Prop := ∃ b c, e = .returned (.tuple #[.slice b r.1.length c, .int .i64 (r.2.1 : Int), .int .i64 r.2.2]) ∧ r.1.length ≤ c ∧ Ints w' b r.1 ∧ Below w.heap.size w w'
theorem takeN_step {n : Nat} {l : List UInt8} {p k : Nat} {acc : List Int} {x : Int} (h : takeI (l.drop p) = (x, k, 0)) : takeN (n + 1) l p acc = takeN n l (p + k) (acc ++ [x]) := by rw [takeN, h]; rfl
theorem takeN_stop {n : Nat} {l : List UInt8} {p k : Nat} {acc : List Int} {x e : Int} (h : takeI (l.drop p) = (x, k, e)) (he : e ≠ 0) : takeN (n + 1) l p acc = ([], 0, e) := by
  rw [takeN, h]
  simp [he]

set_option maxRecDepth 20000 in
set_option maxHeartbeats 8000000 in
theorem rTakeList_any (a : Option Addr) (l : List UInt8) (n cap : Nat) (most : Int) (w : World) (hn : l.length = n) (hb : n ≤ 900000) (hcap : n ≤ cap) (hl : Bytes w a l) (hm : most ≤ 9223372036854775807) :
    Calls Try.prog 26 #[.slice a n cap, .int .i64 most] w (GivesInts w (takeLs l most)) := by
  obtain ⟨⟨u, k, e⟩, hr⟩ : ∃ r, lenS l most = r := ⟨_, rfl⟩
  have HT := Lib.hid (rLength_is hr a n cap w hn (by omega) hl hm)
  have hI : takeLs l most = if e = 0 then takeN u l k [] else ([], 0, e) := by unfold takeLs; rw [hr]
  obtain ⟨R, hR⟩ : ∃ R, takeLs l most = R := ⟨_, rfl⟩
  rw [hR] at hI ⊢
  have HI := Lib.hid hI
  have Hn := Lib.hid hn
  clear hR hI
  by_cases he : e = 0
  · subst he
    obtain ⟨-, hk0, hkl, hu64, hum⟩ := lenS_back hr
    rw [hn] at hkl
    have HR := Lib.hid (show takeN u l k [] = R by rw [HI.out, if_pos rfl])
    clear hr hn
    go_enter Try.func26, Try.ntmps26
    go_wp2_with fail
    refine HT.out.mono ?_
    rintro e w1 ⟨rfl, rfl⟩
    go_wp2
    go_loopw [8, 10, 11, 12, 13, 14] (fun at_ v i _ _ _ wr => ∃ (p q j : Nat) (acc : List Int), at_ = .int .i64 p ∧ p ≤ n ∧ q ≤ p ∧ i = .int .i64 j ∧ j ≤ u ∧ Hid (acc.length = q) ∧ wr.ownsRow w.heap.size 3 1 v q (intV acc) ∧ Hid (takeN (u - j) l p acc = R) ∧ Below w.heap.size w wr) (fun _ _ i _ _ _ _ => u - (intOf i).toNat)
    case atStart => exact ⟨k, 0, 0, [], rfl, hkl, Nat.zero_le _, rfl, Nat.zero_le _, rfl, World.ownsRow_nil _ _ _ _, HR.out, Below.refl _ _⟩
    case round =>
      obtain ⟨p, q, j, acc, rfl, hp, hqp, rfl, hj, Hq, hown, Ht, hbr⟩ := hrel
      obtain ⟨a2, c2, rfl, -, hread, -⟩ := own_reads hown
      have Hread := Lib.hid hread
      clear hread
      by_cases hlt : j < u
      · obtain ⟨f, hf⟩ : ∃ f, u - j = f + 1 := ⟨u - j - 1, by omega⟩
        have Hf := Lib.hid (show f = u - (j + 1) by omega)
        rw [hf] at Ht
        obtain ⟨t, ht, htr⟩ := part_from und_bytes size_bytes (hl.kept hbr) (n := n) (i := p) (cap := cap) (I := (p : Int)) rfl (by rw [bytV_length]; exact Hn.out) hp hcap
        rw [bytV_drop] at htr
        obtain ⟨⟨x, d, e⟩, hx⟩ : ∃ r, takeI (l.drop p) = r := ⟨_, rfl⟩
        have hTI := rTakeInt_is hx t (n - p) (cap - p) wr (by rw [List.length_drop, Hn.out]) (by omega) htr
        have HTI := Lib.hid hTI
        have Hx := Lib.hid hx
        clear hf htr hTI hx
        by_cases he : e = 0
        · subst he
          have hdb := takeI_back Hx.out
          have hd1 : 0 < d := hdb.2.1
          have hd2 : d ≤ n - p := by have := hdb.2.2.1; rw [List.length_drop, Hn.out] at this; exact this
          have E := Lib.hid (show takeN (u - (j + 1)) l (p + d) (acc ++ [x]) = R by rw [← Hf.out, ← takeN_step Hx.out]; exact Ht.out)
          have E2 := Lib.hid (show (acc ++ [x]).length = q + 1 by rw [List.length_append, Hq.out]; rfl)
          clear hdb
          go_wp2_with fail
          refine HTI.out.mono ?_
          rintro e w2 ⟨rfl, rfl⟩
          go_wp2_with (at_builtin; refine wpList_append_reads rfl (.tmp 41) (.tmp 43) Try.underlying39 info_int rfl (by omega) rfl w.heap.size _ q (intV acc) rfl (by first | exact hown.alloc _ | skip) (some ⟨wr.heap.size, 0, none⟩) 1 1 (intV [x]) rfl rfl (reads_lit wr (intV [x]) _ rfl) (intV_one [x]) (by omega) (by have := hbr.size; simp; omega) ?_; intro v3 w3 o3 g3 e3)
          have hb3 : Below w.heap.size w w3 := below_grown hbr g3 (own_base hown)
          rw [← intV_append] at o3
          go_roundw
          case rel => exact ⟨p + d, q + 1, j + 1, acc ++ [x], by go_num, by omega, by omega, by go_num, by omega, E2.out, o3, E.out, hb3⟩
          case measure => simp [intOf]; omega
        · have E := Lib.hid (show R = ([], 0, e) by rw [← takeN_stop Hx.out he]; exact Ht.out.symm)
          have e0 : (e != 0) = true := by simpa using he
          clear he
          go_wp2_with fail
          refine HTI.out.mono ?_
          rintro e w2 ⟨rfl, rfl⟩
          go_wp2
          go_ret3
          rw [E.out]
          exact ⟨none, 0, rfl, Nat.le_refl _, reads_nil _ _, hbr⟩
      · have E := Lib.hid (show R = (acc, p, 0) by
          have h := Ht.out
          rw [show u - j = 0 by omega] at h
          exact h.symm)
        go_wp2
        go_ret3
        rw [E.out]
        exact ⟨a2, c2, by rw [Hq.out]; rfl, by rw [Hq.out]; exact own_cap hown, Hread.out, hbr⟩
  · have E := Lib.hid (show R = ([], 0, e) by rw [HI.out, if_neg he])
    have e0 : (e != 0) = true := by simpa using he
    clear he hn hl hr
    go_enter Try.func26, Try.ntmps26
    go_wp2_with fail
    refine HT.out.mono ?_
    rintro e w1 ⟨rfl, rfl⟩
    go_wp2
    go_ret3
    rw [E.out]
    exact ⟨none, 0, rfl, Nat.le_refl _, reads_nil _ _, Below.refl _ _⟩
end Go.Proofs.Ytcbaihaigamalaa
