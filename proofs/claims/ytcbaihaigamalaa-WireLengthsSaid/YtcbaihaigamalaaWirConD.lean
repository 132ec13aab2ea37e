/-
  The contracts of the landed package wire: PutList, TakeList; all contracts, gathered.
-/
import Derived.Test.YtcbaihaigamalaaWirConC
namespace Go.Proofs.Ytcbaihaigamalaa
set_option linter.unusedVariables false
set_option linter.unusedSimpArgs false
open Go.RowKit

set_option maxRecDepth 20000 in
set_option maxHeartbeats 8000000 in
theorem putList_any (a : Option Addr) (l : List UInt8) (n cap : Nat) (b : Option Addr) (x : List Int) (m c : Nat) (w : World) (hn : l.length = n) (hm : x.length = m) (hb : n ≤ 400000) (hb2 : m ≤ 40000) (hl : Bytes w a l) (hx : Ints w b x) (hr : ∀ y ∈ x, -9223372036854775808 ≤ y ∧ y ≤ 9223372036854775807) :
    Calls Try.prog 27 #[.slice a n cap, .slice b m c] w (GivesOwn w (l ++ listL x)) := by
  have Hm := Lib.hid hm
  have Hr := Lib.hid hr
  obtain ⟨room, hroom⟩ : ∃ room, 10 + m = room := ⟨_, rfl⟩
  have h10 : (10 : Int) + (m : Int) = (room : Int) := by omega
  have HP := Lib.hid (copied_any a l n cap room w hn hb (by omega) hl)
  have Hn := Lib.hid hn
  obtain ⟨R, hR⟩ : ∃ R, l ++ listL x = R := ⟨_, rfl⟩
  rw [hR]
  obtain ⟨S, hS⟩ : ∃ S, l ++ vL m = S := ⟨_, rfl⟩
  have HS := Lib.hid hS
  have hSl : S.length ≤ n + 10 := by
    have := (vL_le10 (show m < 18446744073709551616 by omega)).2
    rw [← hS, List.length_append]
    omega
  have HR := Lib.hid (show S ++ itemsL (x.drop 0) = R by rw [← hS, ← hR, List.drop_zero]; unfold listL; rw [hm, List.append_assoc])
  obtain ⟨q, hq⟩ : ∃ q, S.length = q := ⟨_, rfl⟩
  have Hq := Lib.hid hq
  rw [hq] at hSl
  clear hR hS hn hl hm hr hq hroom
  go_enter Try.func27, Try.ntmps27
  go_wp2_with fail
  refine HP.out.mono ?_
  rintro e w1 ⟨v, rfl, ho, hb1⟩
  rw [Hn.out] at ho
  go_wp2_with fail
  refine (appendUint_is HS.out w.heap.size v n w1 ho hb1.size (by omega) (by omega)).mono ?_
  rintro e w2 ⟨v2, rfl, o2, hb2, hsz2⟩
  rw [Hq.out] at o2
  have hb3 := hb1.trans hb2
  clear hb1 hb2 ho
  go_wp2
  go_loopw [5, 7, 19] (fun v _ i wr => ∃ (k q : Nat) (acc : List UInt8), k ≤ m ∧ i = .int .i64 k ∧ q ≤ n + 10 + 10 * k ∧ Hid (acc.length = q) ∧ wr.ownsRow w.heap.size 5 1 v q (bytV acc) ∧ Hid (acc ++ itemsL (x.drop k) = R) ∧ Below w.heap.size w wr) (fun _ _ i _ => m - (intOf i).toNat)
  case atStart => exact ⟨0, q, S, Nat.zero_le _, rfl, hSl, Hq.out, o2, HR.out, hb3⟩
  case round =>
    obtain ⟨k, q', acc, hk, rfl, hq', Hq', hown, Hacc, hbr⟩ := hrel
    clear o2 hb3 hsz2
    by_cases hlt : k < m
    · have hkl : k < x.length := by rw [Hm.out]; exact hlt
      obtain ⟨g, off, rfl, hc⟩ := (hx.kept hbr).int hkl
      have Hi := Lib.hid (items_drop hkl)
      obtain ⟨y1, y2⟩ := Hr.out (x[k]?.getD 0) (by rw [List.getElem?_eq_getElem hkl]; exact List.getElem_mem hkl)
      obtain ⟨y, hy⟩ : ∃ y, x[k]?.getD 0 = y := ⟨_, rfl⟩
      rw [hy] at hc Hi y1 y2
      obtain ⟨Z, hZ⟩ : ∃ Z, zz y = Z := ⟨_, rfl⟩
      have hz := zz_lt y1 y2
      rw [hZ] at hz
      have HZ := Lib.hid (zigzag_is hZ wr y1 y2)
      obtain ⟨T, hT⟩ : ∃ T, acc ++ iL y = T := ⟨_, rfl⟩
      have hT2 : acc ++ vL Z = T := by rw [← hZ]; exact hT
      have E := Lib.hid (show T ++ itemsL (x.drop (k + 1)) = R by rw [← hT, ← Hacc.out, Hi.out, List.append_assoc])
      have hTl : T.length ≤ q' + 10 := by
        have := iL_le10 y1 y2
        rw [← hT, List.length_append, Hq'.out]
        omega
      have HPI := Lib.hid (appendUint_is hT2 w.heap.size _ q' wr hown hbr.size (by omega) hz)
      have i0 : (0 : Int) ≤ (k : Int) := by omega
      have i1 : (k : Int) < (m : Int) := by omega
      clear hy hT hT2 hZ hkl hown
      go_wp2_with fail
      refine HZ.out.mono ?_
      rintro e w3 ⟨rfl, rfl⟩
      go_wp2_with fail
      refine HPI.out.mono ?_
      rintro e w3 ⟨v3, rfl, o3, hb3, -⟩
      have hb3' : Below w.heap.size w w3 := hbr.trans hb3
      go_wp2
      go_roundw
      case rel => exact ⟨k + 1, T.length, T, by omega, by go_num, by omega, rfl, o3, E.out, hb3'⟩
      case measure => simp [intOf]; omega
    · have E := Lib.hid (show acc = R by
        have h := Hacc.out
        rw [List.drop_eq_nil_of_le (by rw [Hm.out]; omega)] at h
        simpa [itemsL] using h)
      go_wp2
      go_ret
      refine ⟨_, rfl, ?_, hbr⟩
      rw [← E.out, Hq'.out]
      exact hown

set_option maxRecDepth 20000 in
set_option maxHeartbeats 8000000 in
theorem takeList_any (a : Option Addr) (l : List UInt8) (n cap : Nat) (most : Int) (w : World) (hn : l.length = n) (hb : n ≤ 900000) (hcap : n ≤ cap) (hl : Bytes w a l) (hm : most ≤ 9223372036854775807) :
    Calls Try.prog 25 #[.slice a n cap, .int .i64 most] w (GivesInts w (takeLs l most)) := by
  obtain ⟨⟨u, k, e⟩, hr⟩ : ∃ r, lenS l most = r := ⟨_, rfl⟩
  have HT := Lib.hid (takeLength_is hr a n cap w hn (by omega) hl hm)
  have hI : takeLs l most = if e = 0 then takeN u l k [] else ([], 0, e) := by unfold takeLs; rw [hr]
  obtain ⟨R, hR⟩ : ∃ R, takeLs l most = R := ⟨_, rfl⟩
  rw [hR] at hI ⊢
  have HI := Lib.hid hI
  have Hn := Lib.hid hn
  clear hR hI
  by_cases he : e = 0
  · subst he
    obtain ⟨-, hk0, hkl, hu64, hum⟩ := lenS_back hr
    rw [hn] at hkl
    have HR := Lib.hid (show takeN u l k [] = R by rw [HI.out, if_pos rfl])
    clear hr hn
    go_enter Try.func25, Try.ntmps25
    go_wp2_with fail
    refine HT.out.mono ?_
    rintro e w1 ⟨rfl, rfl⟩
    go_wp2
    go_loopw [8, 10, 11, 12, 13, 25] (fun at_ v _ _ _ i wr => ∃ (p q j : Nat) (acc : List Int), at_ = .int .i64 p ∧ p ≤ n ∧ q ≤ p ∧ i = .int .i64 j ∧ j ≤ u ∧ Hid (acc.length = q) ∧ wr.ownsRow w.heap.size 3 1 v q (intV acc) ∧ Hid (takeN (u - j) l p acc = R) ∧ Below w.heap.size w wr) (fun _ _ _ _ _ i _ => u - (intOf i).toNat)
    case atStart => exact ⟨k, 0, 0, [], rfl, hkl, Nat.zero_le _, rfl, Nat.zero_le _, rfl, World.ownsRow_nil _ _ _ _, HR.out, Below.refl _ _⟩
    case round =>
      obtain ⟨p, q, j, acc, rfl, hp, hqp, rfl, hj, Hq, hown, Ht, hbr⟩ := hrel
      obtain ⟨a2, c2, rfl, -, hread, -⟩ := own_reads hown
      have Hread := Lib.hid hread
      clear hread
      by_cases hlt : j < u
      · obtain ⟨f, hf⟩ : ∃ f, u - j = f + 1 := ⟨u - j - 1, by omega⟩
        have Hf := Lib.hid (show f = u - (j + 1) by omega)
        rw [hf] at Ht
        obtain ⟨t, ht, htr⟩ := part_from und_bytes size_bytes (hl.kept hbr) (n := n) (i := p) (cap := cap) (I := (p : Int)) rfl (by rw [bytV_length]; exact Hn.out) hp hcap
        rw [bytV_drop] at htr
        obtain ⟨⟨x, d, e⟩, hx⟩ : ∃ r, takeI (l.drop p) = r := ⟨_, rfl⟩
        have hTI := takeInt_is hx t (n - p) (cap - p) wr (by rw [List.length_drop, Hn.out]) (by omega) htr
        have HTI := Lib.hid hTI
        have Hx := Lib.hid hx
        clear hf htr hTI hx
        by_cases he : e = 0
        · subst he
          have hdb := takeI_back Hx.out
          have hd1 : 0 < d := hdb.2.1
          have hd2 : d ≤ n - p := by have := hdb.2.2.1; rw [List.length_drop, Hn.out] at this; exact this
          have E := Lib.hid (show takeN (u - (j + 1)) l (p + d) (acc ++ [x]) = R by rw [← Hf.out, ← takeN_step Hx.out]; exact Ht.out)
          have E2 := Lib.hid (show (acc ++ [x]).length = q + 1 by rw [List.length_append, Hq.out]; rfl)
          clear hdb
          go_wp2_with fail
          refine HTI.out.mono ?_
          rintro e w2 ⟨rfl, rfl⟩
          go_wp2_with (at_builtin; refine wpList_append_reads rfl (.tmp 38) (.tmp 40) Try.underlying39 info_int rfl (by omega) rfl w.heap.size _ q (intV acc) rfl (by first | exact hown.alloc _ | skip) (some ⟨wr.heap.size, 0, none⟩) 1 1 (intV [x]) rfl rfl (reads_lit wr (intV [x]) _ rfl) (intV_one [x]) (by omega) (by have := hbr.size; simp; omega) ?_; intro v3 w3 o3 g3 e3)
          have hb3 : Below w.heap.size w w3 := below_grown hbr g3 (own_base hown)
          rw [← intV_append] at o3
          go_roundw
          case rel => exact ⟨p + d, q + 1, j + 1, acc ++ [x], by go_num, by omega, by omega, by go_num, by omega, E2.out, o3, E.out, hb3⟩
          case measure => simp [intOf]; omega
        · have E := Lib.hid (show R = ([], 0, e) by rw [← takeN_stop Hx.out he]; exact Ht.out.symm)
          have e0 : (e != 0) = true := by simpa using he
          clear he
          go_wp2_with fail
          refine HTI.out.mono ?_
          rintro e w2 ⟨rfl, rfl⟩
          go_wp2
          go_ret3
          rw [E.out]
          exact ⟨none, 0, rfl, Nat.le_refl _, reads_nil _ _, hbr⟩
      · have E := Lib.hid (show R = (acc, p, 0) by
          have h := Ht.out
          rw [show u - j = 0 by omega] at h
          exact h.symm)
        go_wp2
        go_ret3
        rw [E.out]
        exact ⟨a2, c2, by rw [Hq.out]; rfl, by rw [Hq.out]; exact own_cap hown, Hread.out, hbr⟩
  · have E := Lib.hid (show R = ([], 0, e) by rw [HI.out, if_neg he])
    have e0 : (e != 0) = true := by simpa using he
    clear he hn hl hr
    go_enter Try.func25, Try.ntmps25
    go_wp2_with fail
    refine HT.out.mono ?_
    rintro e w1 ⟨rfl, rfl⟩
    go_wp2
    go_ret3
    rw [E.out]
    exact ⟨none, 0, rfl, Nat.le_refl _, reads_nil _ _, Below.refl _ _⟩
end Go.Proofs.Ytcbaihaigamalaa
