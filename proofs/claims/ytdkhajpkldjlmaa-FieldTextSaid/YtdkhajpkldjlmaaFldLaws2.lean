/-
  Walks over the laws of package field: Lines, Quotes, RoundTrip.
-/
import Derived.Test.YtdkhajpkldjlmaaFldLaws1
namespace Go.Proofs.Ytdkhajpkldjlmaa
set_option linter.unusedVariables false
set_option linter.unusedSimpArgs false
open Go.RowKit

theorem linesA_count (r : List UInt8) : ∀ done acc, (linesA done acc r).1.length ≤ done.length + r.length := by
  induction r with
  | nil => intro done acc; exact Nat.le_refl _
  | cons c r ih =>
    intro done acc
    unfold linesA
    split
    · split
      · split
        · have := ih (done ++ [(splitL acc).1]) []
          simp at this ⊢
          omega
        · simp
      · have := ih done []
        simp
        omega
    · have := ih done (acc ++ [c])
      simp
      omega
theorem linesA_small (r : List UInt8) : ∀ done acc, (∀ x ∈ done, x.length ≤ 1025) → ∀ x ∈ (linesA done acc r).1, x.length ≤ 1025 := by
  induction r with
  | nil => intro done acc h; exact h
  | cons c r ih =>
    intro done acc h
    unfold linesA
    split
    · split
      · split
        · refine ih _ _ (fun x hx => ?_)
          rcases List.mem_append.1 hx with hx | hx
          · exact h x hx
          · rw [List.mem_singleton.1 hx]; exact split_count acc
        · intro x hx; cases hx
      · exact ih _ _ h
    · exact ih _ _ h
theorem lines_count (s : List UInt8) : (linesL s).1.length ≤ s.length := by
  unfold linesL
  split
  · have := linesA_count s [] []
    simpa using this
  · simp
theorem lines_small {s : List UInt8} {x : List (List UInt8)} (h : x ∈ (linesL s).1) : x.length ≤ 1025 := by
  unfold linesL at h
  split at h
  · exact linesA_small s [] [] (fun y hy => by cases hy) x h
  · cases h
theorem of_Bs_small {l : List (List ByteArray)} {r : List (List (List UInt8))} (h : l.map B = r) (hr : ∀ x ∈ r, x.length ≤ 1025) : ∀ x ∈ l, x.length ≤ 1000000 := by
  intro x hx
  have h1 : B x ∈ r := by rw [← h]; exact List.mem_map_of_mem hx
  have := hr _ h1
  rw [B_length] at this
  omega

section
variable (K : FldCon)
include K
set_option maxRecDepth 100000 in
set_option maxHeartbeats 4000000 in
theorem fieldLines_of (s : ByteArray) (w : World) (hs : s.size ≤ maxLen) :
    Calls Try.prog 5 #[.string s] w fun e w' => e = .returned (.bool true) ∧ Below w.heap.size w w' := by
  unfold maxLen at hs
  by_cases h1 : 3000 < s.size
  · go_enter Try.func5, Try.ntmps5
    go_wp2_with fail
    refine (fldAwake_any K _).mono ?_
    rintro e w1 ⟨rfl, hb1⟩
    go_wp2
    go_ret
    exact ⟨rfl, hb1⟩
  · have h2 : s.size ≤ 3000 := by omega
    clear h1
    obtain ⟨r, hr⟩ : ∃ r, linesL s.data.toList = r := ⟨_, rfl⟩
    have HR := Lib.hid hr
    have hcnt : r.1.length ≤ 3000 := by
      have := lines_count s.data.toList
      rw [hr] at this
      have h : s.data.toList.length = s.size := rfl
      omega
    have HSm := Lib.hid (show ∀ x ∈ r.1, x.length ≤ 1025 from fun x hx => lines_small (s := s.data.toList) (by rw [hr]; exact hx))
    clear hr
    go_enter Try.func5, Try.ntmps5
    go_wp2_with fail
    refine (K.lines_is HR.out _ (by omega)).mono ?_
    rintro e w1 ⟨b1, c1, l1, rfl, hl1, hs1, -, hb1⟩
    have Hl1 := Lib.hid (of_Bs hl1)
    have Hm1 := Lib.hid (of_Bs_small hl1 HSm.out)
    have hlen : l1.length ≤ 3000 := by rw [← hl1] at hcnt; simpa using hcnt
    clear hl1
    have hS := rLines_any s w1 (by omega)
    rw [HR.out] at hS
    have HS := Lib.hid hS
    clear hS
    obtain ⟨n1, hn1⟩ : ∃ n, l1.length = n := ⟨_, rfl⟩
    rw [hn1] at hlen ⊢
    have Hn1 := Lib.hid hn1
    clear hn1
    go_wp2_with fail
    refine HS.out.mono ?_
    rintro e w2 ⟨b2, c2, l2, rfl, hl2, hs2, -, hb2⟩
    have Hl2 := Lib.hid (of_Bs hl2)
    have Hm2 := Lib.hid (of_Bs_small hl2 HSm.out)
    have hlen2 : l2.length ≤ 3000 := by rw [← hl2] at hcnt; simpa using hcnt
    clear hl2
    obtain ⟨n2, hn2⟩ : ∃ n, l2.length = n := ⟨_, rfl⟩
    rw [hn2] at hlen2 ⊢
    have Hn2 := Lib.hid hn2
    clear hn2
    obtain ⟨x, hx⟩ : ∃ x, r.2 = x := ⟨_, rfl⟩
    rw [hx]
    clear hx
    go_wp2_with fail
    refine (rSames_is (l := l1) (m := l2) (r := true) (decide_eq_true (Hl1.out.trans Hl2.out.symm)) b1 b2 n1 c1 n2 c2 _ Hn1.out Hn2.out (by omega) (by omega) (hs1.kept hb2) hs2 Hm1.out Hm2.out).mono ?_
    rintro e w3 ⟨rfl, hb3⟩
    go_wp2_with fail
    refine (fldAwake_any K _).mono ?_
    rintro e w4 ⟨rfl, hb4⟩
    go_wp2
    go_ret
    exact ⟨rfl, by (repeat' first | with_reducible assumption | exact Below.refl _ _ | with_reducible refine Below.drew ?_ | with_reducible refine Below.drewN ?_ _ | with_reducible refine Below.alloc' ?_ _ | with_reducible refine Below.setCell ?_ (by first | exact Nat.le_refl _ | omega | (simp; done) | (simp; omega)) _ | with_reducible refine Below.after ?_ ‹_›)⟩
end

theorem join_one {x s : List UInt8} (h : joinL [x] = (s, 0)) : s = wrL x := (join_line h).1
theorem quoted_ends {v : ByteArray} {l : List UInt8} (h : v.data.toList = 34 :: (l ++ [34])) : ∃ (h0 : 0 < v.size) (h1 : v.size - 1 < v.size), (v[0]'h0).toNat = 34 ∧ (v[v.size - 1]'h1).toNat = 34 ∧ v.size = l.length + 2 := by
  have hl : v.data.toList.length = v.size := rfl
  have hz : v.size = l.length + 2 := by rw [← hl, h]; simp
  have h0 : 0 < v.size := by omega
  have h1 : v.size - 1 < v.size := by omega
  refine ⟨h0, h1, ?_, ?_, hz⟩
  · have e := tail_at v 0 h0
    rw [List.drop_zero, h] at e
    rw [← (List.cons.inj e).1]
    rfl
  · have e : v.data.toList[v.size - 1]? = some 34 := by
      rw [h, hz, show l.length + 2 - 1 = l.length + 1 by omega, List.getElem?_cons_succ, List.getElem?_append_right (Nat.le_refl _)]
      simp
    rw [List.getElem?_eq_getElem (by rw [hl]; exact h1)] at e
    have e2 : v[v.size - 1] = 34 := Option.some.inj e
    rw [e2]
    rfl
theorem wr_no {x : List UInt8} (h : plainL x = false) : wrL x = 34 :: (escL x ++ [34]) := by unfold wrL; rw [h]; rfl
theorem wr_yes {x : List UInt8} (h : plainL x = true) : wrL x = x := by unfold wrL; rw [h]; rfl

section
variable (K : FldCon)
include K
set_option maxRecDepth 100000 in
set_option maxHeartbeats 8000000 in
theorem fieldQuotes_of (s : ByteArray) (w : World) (hs : s.size ≤ maxLen) :
    Calls Try.prog 8 #[.string s] w fun e w' => e = .returned (.bool true) ∧ Below w.heap.size w w' := by
  unfold maxLen at hs
  by_cases h1 : 600 < s.size
  · go_enter Try.func8, Try.ntmps8
    go_wp2_with fail
    refine (fldAwake_any K _).mono ?_
    rintro e w1 ⟨rfl, hb1⟩
    go_wp2
    go_ret
    exact ⟨rfl, hb1⟩
  · have h2 : s.size ≤ 600 := by omega
    clear h1
    by_cases h0 : s.size = 0
    · obtain rfl := is_empty h0
      have E := Lib.hid (show joinL (B [⟨#[]⟩]) = ([34, 34], 0) by decide +kernel)
      clear h0 h2 hs
      go_enter Try.func8, Try.ntmps8
      go_wp2_with fail
      refine (K.join_str (v := ⟨#[34, 34]⟩) E.out _ 1 1 _ rfl (by decide) (Strs_one w ⟨#[]⟩ _ rfl) (small_sizes (by decide +kernel))).mono ?_
      rintro e w1 ⟨rfl, hb1⟩
      go_wp2
      go_loop [5, 6] (fun p i => p = .bool false ∧ i = .int .i64 0) (fun _ _ => 0)
      case atStart => exact ⟨rfl, rfl⟩
      case round =>
        obtain ⟨rfl, rfl⟩ := hrel
        go_wp2_with fail
        refine (fldAwake_any K _).mono ?_
        rintro e w2 ⟨rfl, hb2⟩
        go_wp2
        go_ret
        exact ⟨rfl, by (repeat' first | with_reducible assumption | exact Below.refl _ _ | with_reducible refine Below.drew ?_ | with_reducible refine Below.drewN ?_ _ | with_reducible refine Below.alloc' ?_ _ | with_reducible refine Below.setCell ?_ (by first | exact Nat.le_refl _ | omega | (simp; done) | (simp; omega)) _ | with_reducible refine Below.after ?_ ‹_›)⟩
    · obtain ⟨e1, e2⟩ := ne_empty (s := s) (by omega)
      have hs0 : 0 < s.size := by omega
      clear h0
      obtain ⟨⟨L, x⟩, hr⟩ : ∃ r, joinL (B [s]) = r := ⟨_, rfl⟩
      have herr := join_err (ls := B [s])
      rw [hr] at herr
      simp only [] at herr
      have HR := Lib.hid hr
      clear hr
      by_cases hx : x = 0
      · subst hx
        have hL : L = wrL s.data.toList := join_one HR.out
        obtain ⟨v, hv⟩ : ∃ v, ofL L = v := ⟨_, rfl⟩
        have HV := Lib.hid (show v.data.toList = wrL s.data.toList by rw [← hv, ← hL]; rfl)
        have HR2 := Lib.hid (show joinL (B [s]) = (v.data.toList, 0) by rw [HR.out, ← hv]; rfl)
        have hvs : v.size ≤ 2000 := by
          have h1 : v.size = v.data.toList.length := rfl
          have h3 := wrL_length s.data.toList
          have h4 : s.data.toList.length = s.size := rfl
          rw [h1, HV.out]
          omega
        clear hv hL herr
        go_enter Try.func8, Try.ntmps8
        go_wp2_with fail
        refine (K.join_str (v := v) HR2.out _ 1 1 _ rfl (by decide) (Strs_one w s _ rfl) (fun y hy => by rw [List.mem_singleton.1 hy]; omega)).mono ?_
        rintro e w1 ⟨rfl, hb1⟩
        go_wp2
        go_loop [5, 6] (fun p i => ∃ (k : Nat) (b : Bool), k ≤ s.size ∧ i = .int .i64 k ∧ p = .bool b ∧ Hid (b = (s.data.toList.take k).all fun c => !need c)) (fun _ i => s.size - (intOf i).toNat)
        case atStart => exact ⟨0, true, Nat.zero_le _, rfl, rfl, rfl⟩
        case round =>
          obtain ⟨k, b, hk, rfl, rfl, Hb⟩ := hrel
          by_cases hlt : k < s.size
          · have Hx := Lib.hid (all_take (fun c => !need c) s k hlt)
            obtain ⟨y, hy⟩ : ∃ y : Nat, (s[k]'hlt).toNat = y := ⟨_, rfl⟩
            have Hy := Lib.hid hy
            have hu : y < 256 := by rw [← hy]; exact (s[k]'hlt).toNat_lt
            clear e1 e2
            cases b
            · have E := Lib.hid (show false = (s.data.toList.take (k + 1)).all fun c => !need c by rw [Hx.out, ← Hb.out]; rfl)
              go_wp2
              go_round
              case rel => exact ⟨k + 1, false, by omega, by go_num, rfl, E⟩
              case measure => simp [intOf]; omega
            · by_cases h3 : y = 32 ∨ y = 34 ∨ y = 92
              · have E := Lib.hid (show false = (s.data.toList.take (k + 1)).all fun c => !need c by rw [Hx.out, ← Hb.out]; simp [need, Hy.out]; omega)
                rcases h3 with h3 | h3 | h3
                · have n1 : ((y : Int) != 32) = false := by simp; omega
                  clear h3
                  go_wp2
                  go_round
                  case rel => exact ⟨k + 1, false, by omega, by go_num, rfl, E⟩
                  case measure => simp [intOf]; omega
                · have n1 : ((y : Int) != 32) = true := by simpa using (by omega : (y : Int) ≠ 32)
                  have n2 : ((y : Int) != 34) = false := by simp; omega
                  clear h3
                  go_wp2
                  go_round
                  case rel => exact ⟨k + 1, false, by omega, by go_num, rfl, E⟩
                  case measure => simp [intOf]; omega
                · have n1 : ((y : Int) != 32) = true := by simpa using (by omega : (y : Int) ≠ 32)
                  have n2 : ((y : Int) != 34) = true := by simpa using (by omega : (y : Int) ≠ 34)
                  have n3 : ((y : Int) != 92) = false := by simp; omega
                  clear h3
                  go_wp2
                  go_round
                  case rel => exact ⟨k + 1, false, by omega, by go_num, rfl, E⟩
                  case measure => simp [intOf]; omega
              · have n1 : ((y : Int) != 32) = true := by simpa using (by omega : (y : Int) ≠ 32)
                have n2 : ((y : Int) != 34) = true := by simpa using (by omega : (y : Int) ≠ 34)
                have n3 : ((y : Int) != 92) = true := by simpa using (by omega : (y : Int) ≠ 92)
                have E := Lib.hid (show true = (s.data.toList.take (k + 1)).all fun c => !need c by rw [Hx.out, ← Hb.out]; simp [need, Hy.out]; omega)
                clear h3
                go_wp2
                go_round
                case rel => exact ⟨k + 1, true, by omega, by go_num, rfl, E⟩
                case measure => simp [intOf]; omega
          · have HP := Lib.hid (show plainL s.data.toList = b by
              have h : s.data.toList.take k = s.data.toList := List.take_of_length_le (by have : s.data.toList.length = s.size := rfl; omega)
              rw [Hb.out, h]
              unfold plainL
              rw [ByteArray.toList_eq] at e1
              simp [e1])
            clear e1 e2
            cases b
            · obtain ⟨v0, v1, q0, q1, qz⟩ := quoted_ends (v := v) (by rw [HV.out, wr_no HP.out])
              have hlen := (escL_length s.data.toList).1
              have hsl : s.data.toList.length = s.size := rfl
              have hge : s.size + 2 ≤ v.size := by omega
              have hne : (v.toList == s.toList) = false := by
                rw [str_eq]
                exact decide_eq_false (fun e => by rw [e] at hge; omega)
              have hsub : (v.size : Int) - 1 = ((v.size - 1 : Nat) : Int) := by omega
              have g1 : ((v.size - 1 : Nat) : Int) < (v.size : Int) := by omega
              have g2 : (s.size : Int) + 2 ≤ (v.size : Int) := by omega
              clear qz hlen hsl
              go_wp2_with fail
              refine (fldAwake_any K _).mono ?_
              rintro e w2 ⟨rfl, hb2⟩
              go_wp2
              go_ret
              exact ⟨rfl, by (repeat' first | with_reducible assumption | exact Below.refl _ _ | with_reducible refine Below.drew ?_ | with_reducible refine Below.drewN ?_ _ | with_reducible refine Below.alloc' ?_ _ | with_reducible refine Below.setCell ?_ (by first | exact Nat.le_refl _ | omega | (simp; done) | (simp; omega)) _ | with_reducible refine Below.after ?_ ‹_›)⟩
            · obtain rfl : v = s := ByteArray.ext (Array.toList_inj.1 (HV.out.trans (wr_yes HP.out)))
              have heq : (v.toList == v.toList) = true := by simp
              go_wp2_with fail
              refine (fldAwake_any K _).mono ?_
              rintro e w2 ⟨rfl, hb2⟩
              go_wp2
              go_ret
              exact ⟨rfl, by (repeat' first | with_reducible assumption | exact Below.refl _ _ | with_reducible refine Below.drew ?_ | with_reducible refine Below.drewN ?_ _ | with_reducible refine Below.alloc' ?_ _ | with_reducible refine Below.setCell ?_ (by first | exact Nat.le_refl _ | omega | (simp; done) | (simp; omega)) _ | with_reducible refine Below.after ?_ ‹_›)⟩
      · have hL : L = [] := by rcases herr with h | h; exact absurd h hx; exact h.1
        subst hL
        have hx0 : (x != 0) = true := by simpa using hx
        have HR2 := Lib.hid (show joinL (B [s]) = ((⟨#[]⟩ : ByteArray).data.toList, x) from HR.out)
        clear herr hx
        go_enter Try.func8, Try.ntmps8
        go_wp2_with fail
        refine (K.join_str (v := ⟨#[]⟩) HR2.out _ 1 1 _ rfl (by decide) (Strs_one w s _ rfl) (fun y hy => by rw [List.mem_singleton.1 hy]; omega)).mono ?_
        rintro e w1 ⟨rfl, hb1⟩
        go_wp2_with fail
        refine (fldAwake_any K _).mono ?_
        rintro e w2 ⟨rfl, hb2⟩
        go_wp2
        go_ret
        exact ⟨rfl, by (repeat' first | with_reducible assumption | exact Below.refl _ _ | with_reducible refine Below.drew ?_ | with_reducible refine Below.drewN ?_ _ | with_reducible refine Below.alloc' ?_ _ | with_reducible refine Below.setCell ?_ (by first | exact Nat.le_refl _ | omega | (simp; done) | (simp; omega)) _ | with_reducible refine Below.after ?_ ‹_›)⟩

set_option maxRecDepth 100000 in
set_option maxHeartbeats 8000000 in
theorem fieldRoundTrip_of (a : Option Addr) (l : List ByteArray) (n cap : Nat) (line : ByteArray) (w : World) (hn : l.length = n) (hb : n ≤ maxLen) (hl : Strs w a l) (hsz : ∀ s ∈ l, s.size ≤ maxLen) (hs : line.size ≤ maxLen) :
    Calls Try.prog 7 #[.slice a n cap, .string line] w fun e w' => e = .returned (.bool true) ∧ Below w.heap.size w w' := by
  cases hg : greatB l
  · have HG := Lib.hid (great_is hg a n cap w hn hb hl hsz)
    obtain ⟨h60, hsz2⟩ := great_no hg
    have Hsz2 := Lib.hid (show ∀ s ∈ l, s.size ≤ 1000000 from fun s hs => Nat.le_trans (hsz2 s hs) (by decide))
    rw [hn] at h60
    have Hn := Lib.hid hn
    unfold maxLen at hs
    clear hn hsz hsz2 hg
    by_cases h1 : 2000 < line.size
    · go_enter Try.func7, Try.ntmps7
      go_wp2_with fail
      refine HG.out.mono ?_
      rintro e w0 ⟨rfl, rfl⟩
      go_wp2_with fail
      refine (fldAwake_any K _).mono ?_
      rintro e w1 ⟨rfl, hb1⟩
      go_wp2
      go_ret
      exact ⟨rfl, hb1⟩
    · have h2 : line.size ≤ 2000 := by omega
      clear h1
      obtain ⟨⟨L, x⟩, hr⟩ : ∃ r, joinL (B l) = r := ⟨_, rfl⟩
      obtain ⟨v, hv⟩ : ∃ v, ofL L = v := ⟨_, rfl⟩
      have HJ := Lib.hid (show joinL (B l) = (v.data.toList, x) by rw [hr, ← hv]; rfl)
      clear hr hv
      obtain ⟨⟨M, f⟩, hm⟩ : ∃ r, splitL line.data.toList = r := ⟨_, rfl⟩
      have HS := Lib.hid hm
      have HMs := Lib.hid (show ∀ y ∈ M, y.length ≤ 256 from fun y hy => split_small (s := line.data.toList) (by rw [hm]; exact hy))
      have HMc := Lib.hid (show M.length ≤ 1025 by have := split_count line.data.toList; rw [hm] at this; exact this)
      have hts : (line.toList == line.toList) = true := by simp
      clear hm
      by_cases hf : f = 0
      · subst hf
        have HJ2 := Lib.hid (join_split HS.out)
        by_cases hx : x = 0
        · subst hx
          have HSJ := Lib.hid (split_join HJ.out)
          have hvs : v.size ≤ 1024 := by
            have h := join_line HJ.out
            have h1 : v.size = v.data.toList.length := rfl
            rw [h1, h.1]
            exact h.2.2
          go_enter Try.func7, Try.ntmps7
          go_wp2_with fail
          refine HG.out.mono ?_
          rintro e w0 ⟨rfl, rfl⟩
          go_wp2_with fail
          refine (K.join_str (v := v) HJ.out a n cap _ Hn.out (by omega) hl Hsz2.out).mono ?_
          rintro e w1 ⟨rfl, hb1⟩
          go_wp2_with fail
          refine (K.split_is HSJ.out _ (by omega)).mono ?_
          rintro e w2 ⟨b1, c1, l1, rfl, hl1, hs1, -, hb2⟩
          obtain rfl : l1 = l := (of_B hl1).trans (of_B rfl).symm
          clear hl1
          rw [Hn.out]
          go_wp2_with fail
          refine (rSame_is (l := l1) (m := l1) (r := true) (by simp) b1 a n c1 n cap _ Hn.out Hn.out (by omega) (by omega) hs1 ((hl.kept hb1).kept hb2)).mono ?_
          rintro e w3 ⟨rfl, hb3⟩
          go_wp2_with fail
          refine (K.split_is HS.out _ (by omega)).mono ?_
          rintro e u1 ⟨b2, c2, l2, rfl, hl2, hs2, -, hv1⟩
          have hl2' : B l2 = M := hl2
          clear hl2
          have HB2 := Lib.hid hl2'
          have Hsm := Lib.hid (show ∀ y ∈ l2, y.size ≤ 1000000 from fun y hy => by
            have h1 : y.data.toList ∈ M := by rw [← hl2']; exact List.mem_map_of_mem hy
            exact Nat.le_trans (HMs.out _ h1) (by decide))
          obtain ⟨n2, hn2⟩ : ∃ n, l2.length = n := ⟨_, rfl⟩
          have hn2b : n2 ≤ 1025 := by
            have h := HMc.out
            rw [← hl2', B_length, hn2] at h
            exact h
          rw [hn2]
          have Hn2 := Lib.hid hn2
          clear hl2' hn2
          go_wp2_with fail
          refine (K.join_str (v := line) (by rw [HB2.out]; exact HJ2.out) b2 n2 c2 _ Hn2.out (by omega) hs2 Hsm.out).mono ?_
          rintro e u2 ⟨rfl, hv2⟩
          go_wp2_with fail
          refine (fldAwake_any K _).mono ?_
          rintro e u3 ⟨rfl, hv3⟩
          go_wp2
          go_ret
          exact ⟨rfl, by (repeat' first | with_reducible assumption | exact Below.refl _ _ | with_reducible refine Below.drew ?_ | with_reducible refine Below.drewN ?_ _ | with_reducible refine Below.alloc' ?_ _ | with_reducible refine Below.setCell ?_ (by first | exact Nat.le_refl _ | omega | (simp; done) | (simp; omega)) _ | with_reducible refine Below.after ?_ ‹_›)⟩
        · have hx0 : (x == 0) = false := by simpa using hx
          clear hx
          go_enter Try.func7, Try.ntmps7
          go_wp2_with fail
          refine HG.out.mono ?_
          rintro e w0 ⟨rfl, rfl⟩
          go_wp2_with fail
          refine (K.join_str (v := v) HJ.out a n cap _ Hn.out (by omega) hl Hsz2.out).mono ?_
          rintro e w1 ⟨rfl, hb1⟩
          go_wp2_with fail
          refine (K.split_is HS.out _ (by omega)).mono ?_
          rintro e u1 ⟨b2, c2, l2, rfl, hl2, hs2, -, hv1⟩
          have hl2' : B l2 = M := hl2
          clear hl2
          have HB2 := Lib.hid hl2'
          have Hsm := Lib.hid (show ∀ y ∈ l2, y.size ≤ 1000000 from fun y hy => by
            have h1 : y.data.toList ∈ M := by rw [← hl2']; exact List.mem_map_of_mem hy
            exact Nat.le_trans (HMs.out _ h1) (by decide))
          obtain ⟨n2, hn2⟩ : ∃ n, l2.length = n := ⟨_, rfl⟩
          have hn2b : n2 ≤ 1025 := by
            have h := HMc.out
            rw [← hl2', B_length, hn2] at h
            exact h
          rw [hn2]
          have Hn2 := Lib.hid hn2
          clear hl2' hn2
          go_wp2_with fail
          refine (K.join_str (v := line) (by rw [HB2.out]; exact HJ2.out) b2 n2 c2 _ Hn2.out (by omega) hs2 Hsm.out).mono ?_
          rintro e u2 ⟨rfl, hv2⟩
          go_wp2_with fail
          refine (fldAwake_any K _).mono ?_
          rintro e u3 ⟨rfl, hv3⟩
          go_wp2
          go_ret
          exact ⟨rfl, by (repeat' first | with_reducible assumption | exact Below.refl _ _ | with_reducible refine Below.drew ?_ | with_reducible refine Below.drewN ?_ _ | with_reducible refine Below.alloc' ?_ _ | with_reducible refine Below.setCell ?_ (by first | exact Nat.le_refl _ | omega | (simp; done) | (simp; omega)) _ | with_reducible refine Below.after ?_ ‹_›)⟩
      · have hf0 : (f == 0) = false := by simpa using hf
        clear hf
        by_cases hx : x = 0
        · subst hx
          have HSJ := Lib.hid (split_join HJ.out)
          have hvs : v.size ≤ 1024 := by
            have h := join_line HJ.out
            have h1 : v.size = v.data.toList.length := rfl
            rw [h1, h.1]
            exact h.2.2
          go_enter Try.func7, Try.ntmps7
          go_wp2_with fail
          refine HG.out.mono ?_
          rintro e w0 ⟨rfl, rfl⟩
          go_wp2_with fail
          refine (K.join_str (v := v) HJ.out a n cap _ Hn.out (by omega) hl Hsz2.out).mono ?_
          rintro e w1 ⟨rfl, hb1⟩
          go_wp2_with fail
          refine (K.split_is HSJ.out _ (by omega)).mono ?_
          rintro e w2 ⟨b1, c1, l1, rfl, hl1, hs1, -, hb2⟩
          obtain rfl : l1 = l := (of_B hl1).trans (of_B rfl).symm
          clear hl1
          rw [Hn.out]
          go_wp2_with fail
          refine (rSame_is (l := l1) (m := l1) (r := true) (by simp) b1 a n c1 n cap _ Hn.out Hn.out (by omega) (by omega) hs1 ((hl.kept hb1).kept hb2)).mono ?_
          rintro e w3 ⟨rfl, hb3⟩
          go_wp2_with fail
          refine (K.split_is HS.out _ (by omega)).mono ?_
          rintro e u1 ⟨b2, c2, l2, rfl, -, -, -, hv1⟩
          go_wp2_with fail
          refine (fldAwake_any K _).mono ?_
          rintro e u3 ⟨rfl, hv3⟩
          go_wp2
          go_ret
          exact ⟨rfl, by (repeat' first | with_reducible assumption | exact Below.refl _ _ | with_reducible refine Below.drew ?_ | with_reducible refine Below.drewN ?_ _ | with_reducible refine Below.alloc' ?_ _ | with_reducible refine Below.setCell ?_ (by first | exact Nat.le_refl _ | omega | (simp; done) | (simp; omega)) _ | with_reducible refine Below.after ?_ ‹_›)⟩
        · have hx0 : (x == 0) = false := by simpa using hx
          clear hx
          go_enter Try.func7, Try.ntmps7
          go_wp2_with fail
          refine HG.out.mono ?_
          rintro e w0 ⟨rfl, rfl⟩
          go_wp2_with fail
          refine (K.join_str (v := v) HJ.out a n cap _ Hn.out (by omega) hl Hsz2.out).mono ?_
          rintro e w1 ⟨rfl, hb1⟩
          go_wp2_with fail
          refine (K.split_is HS.out _ (by omega)).mono ?_
          rintro e u1 ⟨b2, c2, l2, rfl, -, -, -, hv1⟩
          go_wp2_with fail
          refine (fldAwake_any K _).mono ?_
          rintro e u3 ⟨rfl, hv3⟩
          go_wp2
          go_ret
          exact ⟨rfl, by (repeat' first | with_reducible assumption | exact Below.refl _ _ | with_reducible refine Below.drew ?_ | with_reducible refine Below.drewN ?_ _ | with_reducible refine Below.alloc' ?_ _ | with_reducible refine Below.setCell ?_ (by first | exact Nat.le_refl _ | omega | (simp; done) | (simp; omega)) _ | with_reducible refine Below.after ?_ ‹_›)⟩
  · have HG := Lib.hid (great_is hg a n cap w hn hb hl hsz)
    unfold maxLen at hb
    clear hn hsz hg
    go_enter Try.func7, Try.ntmps7
    go_wp2_with fail
    refine HG.out.mono ?_
    rintro e w0 ⟨rfl, rfl⟩
    go_wp2_with fail
    refine (fldAwake_any K _).mono ?_
    rintro e w1 ⟨rfl, hb1⟩
    go_wp2
    go_ret
    exact ⟨rfl, hb1⟩
end
end Go.Proofs.Ytdkhajpkldjlmaa
