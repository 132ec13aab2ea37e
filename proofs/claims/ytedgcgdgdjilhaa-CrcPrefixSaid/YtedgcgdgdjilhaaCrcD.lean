/-
  Walks over the reference of package crc: All, Same.
-/
import Derived.Test.YtedgcgdgdjilhaaCrcC
import Derived.Test.YtedgcgdgdjilhaaCrcPlain2
import Derived.Test.YtedgcgdgdjilhaaArgs
namespace Go.Proofs.Ytedgcgdgdjilhaa
set_option linter.unusedVariables false
set_option linter.unusedSimpArgs false
open Go.RowKit

/-- a call that gives back a list of byte slices and a number -/
def GivesAll (w : World) (r : List (List UInt8) × Nat) (e : Ending) (w' : World) : Prop :=
  ∃ b c, e = .returned (.tuple #[.slice b r.1.length c, .int .i64 (r.2 : Int)]) ∧ r.1.length ≤ c ∧ Bytess w' b r.1 ∧ Below w.heap.size w w'
theorem info_rows7 : (Try.prog.info? 22).map (fun i => (i.zero, i.size, i.bytes)) = some (some (.slice none 0 0), 1, 24) := by kernel_rfl
theorem rOpen_is {l : List UInt8} {d : List UInt8} {m : Nat} {e : Int} (h : openS l = (d, m, e)) (a : Option Addr) (n cap : Nat) (w : World) (hn : l.length = n) (hb : n ≤ 900000) (hcap : n ≤ cap) (hl : Bytes w a l) :
    Calls Try.prog 21 #[.slice a n cap] w fun e' w' => ∃ v, e' = .returned (.tuple #[v, .int .i64 (m : Int), .int .i64 e]) ∧ w'.ownsRow w.heap.size 5 1 v d.length (bytV d) ∧ Below w.heap.size w w' := by
  have := rOpen_any a l n cap w hn hb hcap hl
  unfold GivesOpen at this
  rwa [h] at this
theorem all_next {l acc : List (List UInt8)} {o d : List UInt8} {k m j : Nat} {x : List (List UInt8) × Nat} (h : x = (acc ++ (allS (o.drop k)).1, k + (allS (o.drop k)).2)) (ho : openS (o.drop k) = (d, m, 0)) : x = ((acc ++ [d]) ++ (allS (o.drop (k + m))).1, (k + m) + (allS (o.drop (k + m))).2) := by
  rw [h, all_more (by rw [ho]), ho]
  simp only [List.drop_drop]
  simp
  omega
theorem all_end7 {acc : List (List UInt8)} {o d : List UInt8} {k m : Nat} {e : Int} {x : List (List UInt8) × Nat} (h : x = (acc ++ (allS (o.drop k)).1, k + (allS (o.drop k)).2)) (ho : openS (o.drop k) = (d, m, e)) (he : e ≠ 0) : x = (acc, k) := by
  rw [h, all_stop (by rw [ho]; exact he)]
  simp

set_option maxRecDepth 20000 in
set_option maxHeartbeats 8000000 in
theorem rAll_any (a : Option Addr) (l : List UInt8) (n cap : Nat) (w : World) (hn : l.length = n) (hb : n ≤ 900000) (hcap : n ≤ cap) (hl : Bytes w a l) :
    Calls Try.prog 23 #[.slice a n cap] w (GivesAll w (allS l)) := by
  have Hn := Lib.hid hn
  have HL := Lib.hid hl
  obtain ⟨R, hR⟩ : ∃ R, allS l = R := ⟨_, rfl⟩
  have HR := Lib.hid hR
  rw [hR]
  clear hn hl hR
  go_enter Try.func23, Try.ntmps23
  go_wp2
  go_loopw [4, 5, 6, 7, 8] (fun v x _ _ _ wr => ∃ (k m : Nat) (vals : List Value) (acc : List (List UInt8)), k ≤ n ∧ m ≤ k ∧ x = .int .i64 k ∧ wr.ownsRow w.heap.size 22 1 v m vals ∧ Hid (HeldR bytV wr v vals acc) ∧ Hid (R = (acc ++ (allS (l.drop k)).1, k + (allS (l.drop k)).2)) ∧ Below w.heap.size w wr) (fun _ x _ _ _ _ => n - (intOf x).toNat)
  case atStart => exact ⟨0, 0, [], [], Nat.zero_le _, Nat.le_refl _, rfl, World.ownsRow_nil _ _ _ _, heldR_nil _ _, (show R = ([] ++ (allS (l.drop 0)).1, 0 + (allS (l.drop 0)).2) by simp [HR.out]), Below.refl _ _⟩
  case round =>
    obtain ⟨k, m, vals, acc, hk, hmk, rfl, own, Hh, Ha, hb0⟩ := hrel
    have hsz := hb0.size
    by_cases hlt : k < n
    · obtain ⟨p, hp, hr⟩ := part_from und_bytes7 size_bytes7 (HL.out.kept hb0) (n := n) (i := k) (cap := cap) (I := (k : Int)) rfl (by rw [bytV_length]; exact Hn.out) hk hcap
      rw [bytV_drop] at hr
      obtain ⟨⟨d, q, e⟩, ho⟩ : ∃ r, openS (l.drop k) = r := ⟨_, rfl⟩
      have HO := Lib.hid ho
      have HC := Lib.hid (rOpen_is ho p (n - k) (cap - k) wr (by rw [List.length_drop, Hn.out]) (by omega) (by omega) hr)
      clear ho hr
      by_cases he : e = 0
      · subst he
        have hq := open_count (l := l.drop k) (by rw [HO.out])
        rw [HO.out, List.length_drop, Hn.out] at hq
        simp only [] at hq
        have E := Lib.hid (all_next (l := []) (j := 0) Ha.out HO.out)
        go_wp2_with fail
        ((with_reducible refine HC.out.mono ?_))
        rintro e1 w1 ⟨v1, rfl, o1, hb1⟩
        obtain ⟨b1, c1, rfl, h1, h2, h3, h4⟩ := own_slice o1
        have H3 := Lib.hid h3
        have H4 := Lib.hid h4
        obtain ⟨u, hu⟩ : ∃ u, d.length = u := ⟨_, rfl⟩
        have Hu := Lib.hid hu
        rw [hu] at h2 ⊢
        have own1 := own_kept own hb1
        have hb1' : Below w.heap.size w w1 := hb0.trans (hb1.mono hb0.size)
        have hsz1 := hb1'.size
        clear h1 h3 h4 o1 hu
        go_wp2_with (at_builtin; refine wpList_append_one rfl (.tmp 25) (.tmp 27) Try.underlying36 info_rows7 rfl (by omega) rfl w.heap.size _ m vals rfl (own1.alloc _) w1.heap.size 1 (.slice b1 u c1) rfl (by simp [go_sem]) rfl (by omega) (by simp; omega) ?_; intro v3 w3 o3 g3 e3)
        have hb3 : Below w.heap.size w w3 := below_grown hb1' g3 (own_base own1)
        go_roundw
        case rel =>
          refine ⟨k + q, m + 1, _, acc ++ [d], by omega, by omega, by go_num, o3, ?_, E.out, hb3⟩
          exact HeldR.more (Hh.out.kept hb1 |>.kept ((Below.refl _ w1).alloc (Nat.le_refl _) _)) g3 e3 Hu.out h2 (H3.out.kept ((Below.refl _ w1).alloc (Nat.le_refl _) _)) (fun _ y hy => apart_new own (H4.out y hy).1)
        case measure => simp [intOf]; omega
      · have E := Lib.hid (all_end7 Ha.out HO.out he)
        have e0 : (e != 0) = true := by simpa using he
        clear he
        go_wp2_with fail
        ((with_reducible refine HC.out.mono ?_))
        rintro e1 w1 ⟨v1, rfl, o1, hb1⟩
        obtain ⟨b, c, rfl, hlen, hc, hrd, -⟩ := own_rowss (own_kept own hb1) (Hh.out.kept hb1)
        have Hlen := Lib.hid hlen
        have Hrd := Lib.hid hrd
        clear hlen hrd own o1
        go_wp2
        go_ret2
        exact ⟨b, c, by rw [E.out, Hlen.out]; rfl, by rw [E.out, Hlen.out]; exact hc, by rw [E.out]; exact Hrd.out, by (repeat' first | with_reducible assumption | exact Below.refl _ _ | with_reducible refine Below.drew ?_ | with_reducible refine Below.drewN ?_ _ | with_reducible refine Below.alloc' ?_ _ | with_reducible refine Below.setCell ?_ (by first | exact Nat.le_refl _ | omega | (simp; done) | (simp; omega)) _ | with_reducible refine Below.after ?_ ‹_›)⟩
    · have hkn : k = n := by omega
      have E := Lib.hid (show R = (acc, k) by
        rw [Ha.out, List.drop_eq_nil_of_le (by rw [Hn.out]; omega), all_nil]
        simp)
      obtain ⟨b, c, rfl, hlen, hc, hrd, -⟩ := own_rowss own Hh.out
      have Hlen := Lib.hid hlen
      have Hrd := Lib.hid hrd
      clear hlen hrd own hkn
      go_wp2
      go_ret2
      exact ⟨b, c, by rw [E.out, Hlen.out]; rfl, by rw [E.out, Hlen.out]; exact hc, by rw [E.out]; exact Hrd.out, hb0⟩

/-- a call that only draws -/
def Drawn7 (w : World) (v : Value) (e : Ending) (w' : World) : Prop := e = .returned v ∧ ∃ m, w' = w.drewN m
theorem take_same7 {α : Type} {l m : List α} {k : Nat} (h : l.take k = m.take k) (hl : l[k]? = m[k]?) : l.take (k + 1) = m.take (k + 1) := by
  rw [List.take_add_one, List.take_add_one, h, hl]
theorem drewN_below7 (w : World) (m : Nat) : Below w.heap.size w (w.drewN m) := Below.drewN (Below.refl w.heap.size w) m

set_option maxRecDepth 20000 in
set_option maxHeartbeats 8000000 in
theorem rSame7_any (a b : Option Addr) (l m : List (List UInt8)) (n c k d : Nat) (w : World) (hn : l.length = n) (hk : m.length = k) (hb : n ≤ 1000000) (hb2 : k ≤ 1000000) (hl : Bytess w a l) (hm : Bytess w b m) :
    Calls Try.prog 24 #[.slice a n c, .slice b k d] w (Drawn7 w (.bool (decide (l = m)))) := by
  have Hn := Lib.hid hn
  have Hk := Lib.hid hk
  clear hn hk
  by_cases hnk : n = k
  · have Hnk := Lib.hid hnk
    have e1 : ((n : Int) != (k : Int)) = false := by simp; omega
    have e0 : n ≤ k := by omega
    clear hnk
    go_enter Try.func24, Try.ntmps24
    go_wp2
    go_loopw [5] (fun i wr => ∃ j : Nat, j ≤ n ∧ i = .int .i64 j ∧ Hid (∃ q, wr = w.drewN q) ∧ Hid (l.take j = m.take j)) (fun i _ => n - (intOf i).toNat)
    case atStart => exact ⟨0, Nat.zero_le _, rfl, ⟨0, rfl⟩, rfl⟩
    case round =>
      obtain ⟨j, hj, rfl, Hq, Ht⟩ := hrel
      by_cases hlt : j < n
      · have hjl : j < l.length := by rw [Hn.out]; exact hlt
        have hjm : j < m.length := by rw [Hk.out]; omega
        have hl' : Bytess wr a l := by obtain ⟨q, rfl⟩ := Hq.out; exact hl
        have hm' : Bytess wr b m := by obtain ⟨q, rfl⟩ := Hq.out; exact hm
        obtain ⟨g, off, x1, n1, c1, rfl, hc, hn1, -, hr1⟩ := hl'.at_ (k := j) hjl
        obtain ⟨g2, off2, x2, n2, c2, rfl, hc2, hn2, -, hr2⟩ := hm'.at_ (k := j) hjm
        have G1 := Lib.hid (getD_lists hjl)
        have G2 := Lib.hid (getD_lists hjm)
        obtain ⟨u, hu⟩ : ∃ u, l[j]?.getD [] = u := ⟨_, rfl⟩
        obtain ⟨v, hv⟩ : ∃ u, m[j]?.getD [] = u := ⟨_, rfl⟩
        rw [hu] at hn1 hr1 G1
        rw [hv] at hn2 hr2 G2
        obtain ⟨U, hU⟩ : ∃ U : ByteArray, (⟨u.toArray⟩ : ByteArray) = U := ⟨_, rfl⟩
        obtain ⟨V, hV⟩ : ∃ U : ByteArray, (⟨v.toArray⟩ : ByteArray) = U := ⟨_, rfl⟩
        have hcv1 : ∀ q, (convert 22 9 (.slice x1 n1 c1)).run Try.prog (wr.drewN q) = .ok (.string U) (wr.drewN q) := fun q => by
          rw [← hU]; exact run_string_bytes Try.underlying22 Try.underlying5 Try.underlying9 (wr.drewN q) x1 u n1 c1 hn1 (hr1.drewN q)
        have hcv2 : ∀ q, (convert 22 9 (.slice x2 n2 c2)).run Try.prog (wr.drewN q) = .ok (.string V) (wr.drewN q) := fun q => by
          rw [← hV]; exact run_string_bytes Try.underlying22 Try.underlying5 Try.underlying9 (wr.drewN q) x2 v n2 c2 hn2 (hr2.drewN q)
        have i0 : (0 : Int) ≤ (j : Int) := by omega
        have i1 : (j : Int) < (n : Int) := by omega
        have i2 : (j : Int) < (k : Int) := by omega
        have i3 : j < k := by omega
        by_cases huv : u = v
        · have E := Lib.hid (show l.take (j + 1) = m.take (j + 1) from take_same7 Ht.out (by rw [G1.out, G2.out, huv]))
          have hts : (U.toList != V.toList) = false := by rw [← hU, ← hV, huv]; simp
          have hts2 : (U.toList == V.toList) = true := by rw [← hU, ← hV, huv]; simp
          clear huv hU hV hu hv hl' hm' hjl hjm hr1 hr2 hn1 hn2
          go_wp2_with fail
          go_quiet (fail)
          go_wp2
          go_roundw
          case rel => exact ⟨j + 1, by omega, by go_num, by obtain ⟨q, hq⟩ := Hq.out; exact ⟨_, by rw [hq, World.drewN_drewN]⟩, E⟩
          case measure => simp [intOf]; omega
        · have E := Lib.hid (show decide (l = m) = false from decide_eq_false (fun h => huv (by
            have h1 := G1.out
            rw [h, G2.out] at h1
            exact (Option.some.inj h1).symm)))
          have hts2 : (U.toList == V.toList) = false := by
            rw [str_eq7]
            refine decide_eq_false ?_
            rw [← hU, ← hV]
            intro h
            exact huv (by simpa using congrArg (fun b : ByteArray => b.data.toList) h)
          have hts : (U.toList != V.toList) = true := by simp [bne, hts2]
          clear huv hU hV hu hv hl' hm' hjl hjm hr1 hr2 hn1 hn2
          go_wp2_with fail
          go_quiet (fail)
          go_wp2
          go_ret
          exact ⟨by rw [E.out]; rfl, by obtain ⟨q, hq⟩ := Hq.out; exact ⟨_, by rw [hq, World.drewN_drewN]⟩⟩
      · have E := Lib.hid (show decide (l = m) = true from decide_eq_true (by
          have h := Ht.out
          rwa [List.take_of_length_le (by rw [Hn.out]; omega), List.take_of_length_le (by rw [Hk.out, ← Hnk.out]; omega)] at h))
        go_wp2
        go_ret
        exact ⟨by rw [E.out]; rfl, Hq.out⟩
  · have E := Lib.hid (show decide (l = m) = false from decide_eq_false (fun h => hnk (by rw [← Hn.out, ← Hk.out, h])))
    have e1 : ((n : Int) != (k : Int)) = true := by simpa using (by omega : ¬ (n : Int) = (k : Int))
    have e2 : ((n : Int) == (k : Int)) = false := by simpa using (by omega : ¬ (n : Int) = (k : Int))
    clear hnk
    go_enter Try.func24, Try.ntmps24
    go_wp2
    go_ret
    exact ⟨by rw [E.out]; rfl, ⟨0, rfl⟩⟩
theorem rSame7_is {l m : List (List UInt8)} {r : Bool} (h : decide (l = m) = r) (a b : Option Addr) (n c k d : Nat) (w : World) (hn : l.length = n) (hk : m.length = k) (hb : n ≤ 1000000) (hb2 : k ≤ 1000000) (hl : Bytess w a l) (hm : Bytess w b m) :
    Calls Try.prog 24 #[.slice a n c, .slice b k d] w fun e w' => e = .returned (.bool r) ∧ Below w.heap.size w w' := by
  refine (rSame7_any a b l m n c k d w hn hk hb hb2 hl hm).mono ?_
  rintro e w' ⟨rfl, q, rfl⟩
  exact ⟨by rw [h], drewN_below7 w q⟩
end Go.Proofs.Ytedgcgdgdjilhaa
