/-
  Walks over the laws of package clock: Merge.
-/
import Derived.Test.YtjmbbhhfbdjbdaaDoorClkCon
import Derived.Test.YtjmbbhhfbdjbdaaDoorClkLaws5
namespace Go.Proofs.YtjmbbhhfbdjbdaaDoor
open Go.RowKit

theorem unite_valid {l : List (Int × Int)} (h : l.all wB = true) : (unite l).all wB = true := by
  rw [List.all_eq_true]
  intro z hz
  have hlt := canon_all _ (unite_canon l) z hz
  have h1 : insB l z.1 = true := by rw [← unite_ins]; exact insB_true.2 ⟨z, hz, by omega, hlt⟩
  have h2 : insB l (z.2 - 1) = true := by rw [← unite_ins]; exact insB_true.2 ⟨z, hz, by omega, by omega⟩
  obtain ⟨u, hu, u1, u2⟩ := insB_true.1 h1
  obtain ⟨v, hv, v1, v2⟩ := insB_true.1 h2
  have wu := List.all_eq_true.1 h u hu
  have wv := List.all_eq_true.1 h v hv
  simp [wB] at wu wv ⊢
  omega
theorem unite_twice (l : List (Int × Int)) : unite (unite l) = unite l := (unite_eq (unite_canon l) (fun _ => rfl)).symm
theorem unite_turned (l : List (Int × Int)) : unite (l.reverse ++ unite l) = unite l :=
  (unite_eq (unite_canon l) (fun t => by rw [insB_append, insB_reverse, unite_ins, Bool.or_self])).symm
theorem turned_valid {l : List (Int × Int)} (h : l.all wB = true) : (l.reverse ++ unite l).all wB = true := by
  rw [List.all_append, List.all_reverse, h, unite_valid h]; rfl
theorem mrg_yes {l : List (Int × Int)} (h : l.all wB = true) : mrg l = (unite l, 0) := by unfold mrg; rw [h]; rfl
theorem mrg_no {l : List (Int × Int)} (h : l.all wB = false) : mrg l = ([], 1) := by unfold mrg; rw [h]; rfl

/-- the list whose first k places have been turned round -/
def turnK (l : List (Int × Int)) (k : Nat) : List (Int × Int) := l.reverse.take k ++ l.drop k
theorem turnK_len (l : List (Int × Int)) (k : Nat) (hk : k ≤ l.length) : (turnK l k).length = l.length := by
  unfold turnK; rw [List.length_append, List.length_take, List.length_reverse, List.length_drop]; omega
theorem turnK_zero (l : List (Int × Int)) : turnK l 0 = l := by simp [turnK]
theorem turnK_all (l : List (Int × Int)) : turnK l l.length = l.reverse := by
  unfold turnK; rw [List.drop_length, List.append_nil, List.take_of_length_le (by simp)]
theorem turnK_succ (l : List (Int × Int)) (k : Nat) (hk : k < l.length) : turnK l (k + 1) = (turnK l k).set k (l[l.length - 1 - k]?.getD (0, 0)) := by
  unfold turnK
  have e1 : l.reverse.take (k + 1) = l.reverse.take k ++ [l[l.length - 1 - k]?.getD (0, 0)] := by
    rw [take_succ_pair l.reverse k (by simpa using hk), List.getElem?_reverse hk]
  rw [e1, List.drop_eq_getElem_cons hk, List.set_append_right _ _ (by simp; omega), List.append_assoc]
  have : k - (l.reverse.take k).length = 0 := by simp; omega
  rw [this]
  rfl
theorem flat_set_two : ∀ (l : List (Int × Int)) (k : Nat) (p q : Int), k < l.length → ((flat l).set (k * 2) (.int .i64 p)).set (k * 2 + 1) (.int .i64 q) = flat (l.set k (p, q))
  | [], k, p, q, h => by simp at h
  | z :: l, 0, p, q, _ => by simp [flat]
  | z :: l, k + 1, p, q, h => by
    have ih := flat_set_two l k p q (by simpa using h)
    have e : ∀ (y : Int × Int) (m : List (Int × Int)), flat (y :: m) = .int .i64 y.1 :: .int .i64 y.2 :: flat m := fun y m => by simp [flat]
    simp only [e, show (k + 1) * 2 = k * 2 + 1 + 1 by omega, List.set_cons_succ]
    rw [ih]

theorem pairs_far {w w' : World} {row : Option Nat} {a : Option Addr} {l : List (Int × Int)} (h : Pairs w a l) (hg : w.grownBy w' row) (hne : ∀ x, a = some x → some x.block ≠ row) : Pairs w' a l := by
  intro hl
  obtain ⟨b, off, rfl, hc⟩ := h hl
  refine ⟨b, off, rfl, fun k hk => ?_⟩
  have h1 := (hc k hk).1
  have h2 := (hc k hk).2
  constructor
  · rw [hg.cell_far ⟨b, off + k * 2, none⟩ (World.block_lt_of_cell? w _ h1) (hne ⟨b, off, none⟩ rfl), h1]
  · rw [hg.cell_far ⟨b, off + k * 2 + 1, none⟩ (World.block_lt_of_cell? w _ h2) (hne ⟨b, off, none⟩ rfl), h2]

theorem merge_full {l r : List (Int × Int)} {x : Int} (h : mrg l = (r, x)) (a : Option Addr) (n cap k : Nat) (w : World) (hn : l.length = n) (hb : n ≤ 800000) (hl : Pairs w a l) (hk : r.length = k) :
    Calls Tryd.prog 21 #[.slice a n cap] w fun s w' => ∃ b c, s = .returned (.tuple #[.slice b k c, .int .i64 x]) ∧ (b = none → c = 0) ∧ (∀ y, b = some y → w.heap.size ≤ y.block) ∧ Pairs w' b r ∧ Below w.heap.size w w' := by
  refine (merge_any a l n cap w hn hb hl).mono ?_
  rintro s w' ⟨v, hs, ho, hb⟩
  rw [h] at hs ho
  subst hk
  obtain ⟨b, c, rfl, _, hp⟩ := own_pairs ho
  refine ⟨b, c, hs, ?_, ?_, hp, hb⟩
  · rintro rfl
    rcases ho.2 with ⟨e, _⟩ | ⟨g, cap, cur, e, _⟩
    · exact (show r = [] ∧ c = 0 by simpa using e).2
    · simp at e
  · rintro y rfl
    rcases ho.2 with ⟨e, _⟩ | ⟨g, cap, cur, e, h1, _⟩
    · simp at e
    · have : y = ⟨g, 0, none⟩ := by simpa using (show _ ∧ _ from by simpa using e).1
      subst this
      exact h1

set_option maxRecDepth 100000 in
set_option maxHeartbeats 16000000 in
theorem clockMerge_of (a : Option Addr) (l : List (Int × Int)) (n cap : Nat) (t : Int) (w : World) (hT : Tabs w) (hn : l.length = n) (hl : Pairs w a l) (h0 : a = none → cap = 0) :
    Calls Tryd.prog 9 #[.slice a n cap, .int .i64 t] w fun e w' => e = .returned (.bool true) ∧ Below w.heap.size w w' := by
  have H0 := Lib.hid h0
  clear h0
  by_cases h2 : n ≤ 200
  · have Hn := Lib.hid hn
    cases hv : l.all wB
    · have M1 := Lib.hid (mrg_no hv)
      have HV := Lib.hid hv
      clear hv hn
      go_enter Tryd.func9, Tryd.ntmps9
      go_wp2_with fail
      refine (merge_full M1.out a n cap 0 _ Hn.out (by omega) hl rfl).mono ?_
      rintro e w1 ⟨b, c, rfl, _, _, _, hb1⟩
      go_wp2
      go_loopw [8, 28] (fun _ i wr => ∃ k : Nat, k ≤ n ∧ i = .int .i64 k ∧ Hid ((l.take k).all wB = true) ∧ Below w.heap.size w wr) (fun _ i _ => n - (intOf i).toNat)
      case atStart => exact ⟨0, Nat.zero_le _, rfl, rfl, hb1⟩
      case round =>
        obtain ⟨k, hk, rfl, Hall, hbr⟩ := hrel
        by_cases hlt : k < n
        · obtain ⟨b', off, rfl, hc⟩ := (hl.kept hbr).at_ (k := k) (by rw [Hn.out]; exact hlt)
          obtain ⟨hc0, hc1⟩ := hc
          have Ha := Lib.hid (all_take_succ l k (by rw [Hn.out]; exact hlt))
          obtain ⟨⟨p, q⟩, hz⟩ : ∃ z, l[k]?.getD (0, 0) = z := ⟨_, rfl⟩
          rw [hz] at hc0 hc1 Ha
          simp only [] at hc0 hc1
          clear hz
          by_cases c1 : p < 0
          · go_wp2_with fail
            refine (clkAwake_any contracts _ (hT.on (by (repeat' first | with_reducible assumption | exact Below.refl _ _ | with_reducible refine Below.drew ?_ | with_reducible refine Below.drewN ?_ _ | with_reducible refine Below.alloc' ?_ _ | with_reducible refine Below.setCell ?_ (by first | exact Nat.le_refl _ | omega | (simp; done) | (simp; omega)) _ | with_reducible refine Below.after ?_ ‹_›)))).mono ?_
            rintro e w2 ⟨rfl, hb2⟩
            go_wp2
            go_ret
            exact ⟨rfl, by (repeat' first | with_reducible assumption | exact Below.refl _ _ | with_reducible refine Below.drew ?_ | with_reducible refine Below.drewN ?_ _ | with_reducible refine Below.alloc' ?_ _ | with_reducible refine Below.setCell ?_ (by first | exact Nat.le_refl _ | omega | (simp; done) | (simp; omega)) _ | with_reducible refine Below.after ?_ ‹_›)⟩
          · by_cases c2 : q < p
            · have c1' : decide (p < 0) = false := by simpa using c1
              clear c1
              go_wp2_with fail
              refine (clkAwake_any contracts _ (hT.on (by (repeat' first | with_reducible assumption | exact Below.refl _ _ | with_reducible refine Below.drew ?_ | with_reducible refine Below.drewN ?_ _ | with_reducible refine Below.alloc' ?_ _ | with_reducible refine Below.setCell ?_ (by first | exact Nat.le_refl _ | omega | (simp; done) | (simp; omega)) _ | with_reducible refine Below.after ?_ ‹_›)))).mono ?_
              rintro e w2 ⟨rfl, hb2⟩
              go_wp2
              go_ret
              exact ⟨rfl, by (repeat' first | with_reducible assumption | exact Below.refl _ _ | with_reducible refine Below.drew ?_ | with_reducible refine Below.drewN ?_ _ | with_reducible refine Below.alloc' ?_ _ | with_reducible refine Below.setCell ?_ (by first | exact Nat.le_refl _ | omega | (simp; done) | (simp; omega)) _ | with_reducible refine Below.after ?_ ‹_›)⟩
            · by_cases c3 : 3155760000 < q
              · have c1' : decide (p < 0) = false := by simpa using c1
                have c2' : decide (q < p) = false := by simpa using c2
                clear c1 c2
                go_wp2_with fail
                refine (clkAwake_any contracts _ (hT.on (by (repeat' first | with_reducible assumption | exact Below.refl _ _ | with_reducible refine Below.drew ?_ | with_reducible refine Below.drewN ?_ _ | with_reducible refine Below.alloc' ?_ _ | with_reducible refine Below.setCell ?_ (by first | exact Nat.le_refl _ | omega | (simp; done) | (simp; omega)) _ | with_reducible refine Below.after ?_ ‹_›)))).mono ?_
                rintro e w2 ⟨rfl, hb2⟩
                go_wp2
                go_ret
                exact ⟨rfl, by (repeat' first | with_reducible assumption | exact Below.refl _ _ | with_reducible refine Below.drew ?_ | with_reducible refine Below.drewN ?_ _ | with_reducible refine Below.alloc' ?_ _ | with_reducible refine Below.setCell ?_ (by first | exact Nat.le_refl _ | omega | (simp; done) | (simp; omega)) _ | with_reducible refine Below.after ?_ ‹_›)⟩
              · have E := Lib.hid (show (l.take (k + 1)).all wB = true by rw [Ha.out, Hall.out]; simp [wB]; omega)
                have c1' : decide (p < 0) = false := by simpa using c1
                have c2' : decide (q < p) = false := by simpa using c2
                have c3' : decide (3155760000 < q) = false := by simpa using c3
                clear c1 c2 c3
                go_wp2
                go_roundw
                case rel => exact ⟨k + 1, by omega, by go_num, E.out, by (repeat' first | with_reducible assumption | exact Below.refl _ _ | with_reducible refine Below.drew ?_ | with_reducible refine Below.drewN ?_ _ | with_reducible refine Below.alloc' ?_ _ | with_reducible refine Below.setCell ?_ (by first | exact Nat.le_refl _ | omega | (simp; done) | (simp; omega)) _ | with_reducible refine Below.after ?_ ‹_›)⟩
                case measure => simp [intOf]; omega
        · have := Hall.out
          rw [show k = l.length by rw [Hn.out]; omega, List.take_length, HV.out] at this
          cases this
    · have M1 := Lib.hid (mrg_yes hv)
      have M2 := Lib.hid (show mrg (unite l) = (unite l, 0) by rw [mrg_yes (unite_valid hv), unite_twice])
      have M3 := Lib.hid (show mrg (l.reverse ++ unite l) = (unite l, 0) by rw [mrg_yes (turned_valid hv), unite_turned])
      have HV := Lib.hid hv
      have C1 := Lib.hid (unite_canon l)
      have Hi := Lib.hid (unite_ins l t)
      have hul := unite_length l
      obtain ⟨r, hr⟩ : ∃ r, unite l = r := ⟨_, rfl⟩
      rw [hr] at M1 M2 M3 C1 Hi hul
      obtain ⟨M, hM⟩ : ∃ M, r.length = M := ⟨_, rfl⟩
      have HM := Lib.hid hM
      have hM2 : M ≤ 200 := by omega
      obtain ⟨q0, hq0⟩ : ∃ q0, insB l t = q0 := ⟨_, rfl⟩
      have HQ := Lib.hid hq0
      have HX := Lib.hid (show insB r t = q0 by rw [Hi.out, hq0])
      clear hv hn hr hul hM hq0 Hi
      go_enter Tryd.func9, Tryd.ntmps9
      go_wp2_with fail
      refine (merge_full M1.out a n cap M _ Hn.out (by omega) hl HM.out).mono ?_
      rintro e w1 ⟨b, c, rfl, hbn, _, hp, hb1⟩
      have Hbn := Lib.hid hbn
      clear hbn
      go_wp2
      go_loopw [8, 28] (fun _ i wr => ∃ k : Nat, k ≤ n ∧ i = .int .i64 k ∧ Below w1.heap.size w1 wr) (fun _ i _ => n - (intOf i).toNat)
      case atStart => exact ⟨0, Nat.zero_le _, rfl, Below.refl _ _⟩
      case round =>
        obtain ⟨k, hk, rfl, hbr⟩ := hrel
        by_cases hlt : k < n
        · have hbr0 : Below w.heap.size w wr := hb1.trans (hbr.mono hb1.size)
          obtain ⟨b', off, rfl, hc⟩ := (hl.kept hbr0).at_ (k := k) (by rw [Hn.out]; exact hlt)
          obtain ⟨hc0, hc1⟩ := hc
          have hw := List.all_eq_true.1 HV.out (l[k]?.getD (0, 0)) (by
            have hk' : k < l.length := by rw [Hn.out]; exact hlt
            rw [List.getElem?_eq_getElem hk']
            exact List.getElem_mem hk')
          obtain ⟨⟨p, q⟩, hz⟩ : ∃ z, l[k]?.getD (0, 0) = z := ⟨_, rfl⟩
          rw [hz] at hc0 hc1 hw
          simp only [] at hc0 hc1
          simp [wB] at hw
          clear hz
          have c1' : decide (p < 0) = false := by simp; omega
          have c2' : decide (q < p) = false := by simp; omega
          have c3' : decide (3155760000 < q) = false := by simp; omega
          clear hw
          go_wp2
          go_roundw
          case rel => exact ⟨k + 1, by omega, by go_num, by (repeat' first | with_reducible assumption | exact Below.refl _ _ | with_reducible refine Below.drew ?_ | with_reducible refine Below.drewN ?_ _ | with_reducible refine Below.alloc' ?_ _ | with_reducible refine Below.setCell ?_ (by first | exact Nat.le_refl _ | omega | (simp; done) | (simp; omega)) _ | with_reducible refine Below.after ?_ ‹_›)⟩
          case measure => simp [intOf]; omega
        · obtain ⟨W1, hW1⟩ : ∃ W1, W1 = wr := ⟨_, rfl⟩
          subst hW1
          have hbW : Below w.heap.size w W1 := hb1.trans (hbr.mono hb1.size)
          have hpW := hp.kept hbr
          go_wp2
          go_loopw [9, 10, 62] (fun _ _ i wx => ∃ j : Nat, j ≤ M ∧ i = .int .i64 j ∧ Below W1.heap.size W1 wx) (fun _ _ i _ => M - (intOf i).toNat)
          case atStart => exact ⟨0, Nat.zero_le _, rfl, Below.refl _ _⟩
          case round =>
            obtain ⟨j, hj, rfl, hbx⟩ := hrel
            by_cases hlt2 : j < M
            · obtain ⟨b', off, rfl, hcc⟩ := (hpW.kept hbx) (by intro e; rw [e] at HM; have := HM.out; simp at this; omega)
              have hc := hcc j (by rw [HM.out]; exact hlt2)
              obtain ⟨hc0, hc1⟩ := hc
              have hlt3 : j < r.length := by rw [HM.out]; exact hlt2
              have hpq := canon_all r C1.out (r[j]?.getD (0, 0)) (by rw [List.getElem?_eq_getElem hlt3]; exact List.getElem_mem hlt3)
              by_cases hj0 : j = 0
              · subst hj0
                obtain ⟨⟨p, q⟩, hz⟩ : ∃ z, r[0]?.getD (0, 0) = z := ⟨_, rfl⟩
                rw [hz] at hc0 hc1 hpq
                simp only [Nat.zero_mul, Nat.add_zero] at hc0 hc1 hpq
                have g1 : decide (q ≤ p) = false := by simp; omega
                clear hz hcc hpq
                go_wp2
                go_quiet (fail)
                go_wp2
                go_roundw
                case rel => exact ⟨0 + 1, by omega, by go_num, by (repeat' first | with_reducible assumption | exact Below.refl _ _ | with_reducible refine Below.drew ?_ | with_reducible refine Below.drewN ?_ _ | with_reducible refine Below.alloc' ?_ _ | with_reducible refine Below.setCell ?_ (by first | exact Nat.le_refl _ | omega | (simp; done) | (simp; omega)) _ | with_reducible refine Below.after ?_ ‹_›)⟩
                case measure => simp [intOf]; omega
              · have hd := hcc (j - 1) (by omega)
                obtain ⟨hd0, hd1⟩ := hd
                have hpp := List.pairwise_iff_getElem.1 (canon_pw r C1.out) (j - 1) j (by omega) hlt3 (by omega)
                have ez : r[j]?.getD (0, 0) = r[j] := by rw [List.getElem?_eq_getElem hlt3]; rfl
                have ez' : r[j - 1]?.getD (0, 0) = r[j - 1] := by rw [List.getElem?_eq_getElem (by omega)]; rfl
                rw [← ez, ← ez'] at hpp
                clear ez ez'
                obtain ⟨⟨p, q⟩, hz⟩ : ∃ z, r[j]?.getD (0, 0) = z := ⟨_, rfl⟩
                obtain ⟨⟨p', q'⟩, hz'⟩ : ∃ z, r[j - 1]?.getD (0, 0) = z := ⟨_, rfl⟩
                rw [hz] at hc0 hc1 hpq hpp
                rw [hz'] at hd0 hd1 hpp
                simp only [] at hc0 hc1 hpq hpp hd0 hd1
                have g1 : decide (q ≤ p) = false := by simp; omega
                have g2 : decide (p ≤ q') = false := by simp; omega
                have g3 : (0 : Int) < (j : Int) := by omega
                have g4 : 0 < j := by omega
                obtain ⟨i, hi⟩ : ∃ i : Nat, j = i + 1 := ⟨j - 1, by omega⟩
                have ei : (j : Int) - 1 = (i : Int) := by omega
                have ew : IntKind.i64.wrap (i : Int) = (i : Int) := IntWalk.i64_in _ (by omega)
                rw [show j - 1 = i by omega] at hd0 hd1
                have i0 : (0 : Int) ≤ (i : Int) := by omega
                have i1 : (i : Int) < (M : Int) := by omega
                have i2 : i < M := by omega
                have hd2 := fun o => cellA (o := o) hd1
                clear hz hz' hcc hpq hpp hi hj0
                go_wp2
                go_quiet (fail)
                go_wp2
                go_roundw
                case rel => exact ⟨j + 1, by omega, by go_num, by (repeat' first | with_reducible assumption | exact Below.refl _ _ | with_reducible refine Below.drew ?_ | with_reducible refine Below.drewN ?_ _ | with_reducible refine Below.alloc' ?_ _ | with_reducible refine Below.setCell ?_ (by first | exact Nat.le_refl _ | omega | (simp; done) | (simp; omega)) _ | with_reducible refine Below.after ?_ ‹_›)⟩
                case measure => simp [intOf]; omega
            · obtain ⟨W2, hW2⟩ : ∃ W2, W2 = wr := ⟨_, rfl⟩
              subst hW2
              have hbV : Below w.heap.size w W2 := hbW.trans (hbx.mono hbW.size)
              have hpV := hpW.kept hbx
              have hlV := hl.kept hbV
              go_wp2_with (at_builtin; refine wpList_append_pairs rfl (.tmp 88) (.tmp 89) Tryd.underlying33 info_window rfl W2.heap.size (.slice (some ⟨W2.heap.size, 0, none⟩) 0 0) 0 [] rfl (own_lit _ _ _ rfl (Nat.le_refl _)) _ _ _ l rfl Hn.out (hlV.kept ((Below.refl _ _).alloc' _)) (fun e => ⟨H0.out e, by simp⟩) (by omega) (by simp) ?_; intro v3 x3 o3 g3 ne3 _; rw [Nat.zero_add, List.nil_append] at o3; obtain ⟨a3, c3, rfl, hl3, hq3⟩ := own_pairs o3; clear hl3 hq3; have hb3 : Below W2.heap.size W2 x3 := Below.grown (by (repeat' first | with_reducible assumption | exact Below.refl _ _ | with_reducible refine Below.drew ?_ | with_reducible refine Below.drewN ?_ _ | with_reducible refine Below.alloc' ?_ _ | with_reducible refine Below.setCell ?_ (by first | exact Nat.le_refl _ | omega | (simp; done) | (simp; omega)) _ | with_reducible refine Below.after ?_ ‹_›)) g3 (by simp) (fun k hk => by simp [Value.ownBlock] at hk; exact Nat.le_of_eq hk); have Hnot := Lib.hid (ne3 (by simp)); clear ne3 g3)
              have o3' : x3.ownsRow W2.heap.size 40 2 (.slice a3 n c3) n (flat (turnK l 0)) := by rw [turnK_zero]; exact o3
              clear o3
              go_loopw [12, 93] (fun _ i wx => ∃ k : Nat, k ≤ n ∧ i = .int .i64 k ∧ Below W2.heap.size W2 wx ∧ wx.ownsRow W2.heap.size 40 2 (.slice a3 n c3) n (flat (turnK l k))) (fun _ i _ => n - (intOf i).toNat)
              case atStart => exact ⟨0, Nat.zero_le _, rfl, hb3, o3'⟩
              case round =>
                obtain ⟨k, hk, rfl, hbx3, o4⟩ := hrel
                by_cases hlt4 : k < n
                · obtain ⟨g, c4, e4, hg1, hg2⟩ := o4.form (by omega)
                  obtain ⟨rfl, rfl⟩ : a3 = some ⟨g, 0, none⟩ ∧ c3 = c4 := by simpa using e4
                  clear e4
                  obtain ⟨j, hj⟩ : ∃ j, n - 1 - k = j := ⟨_, rfl⟩
                  have ej : (n : Int) - 1 - (k : Int) = (j : Int) := by omega
                  have j0 : (0 : Int) ≤ (j : Int) := by omega
                  have j1 : (j : Int) < (n : Int) := by omega
                  have j2 : j < n := by omega
                  have hbl : Below w.heap.size w wr := hbV.trans (hbx3.mono hbV.size)
                  obtain ⟨b', off, rfl, hc⟩ := (hl.kept hbl).at_ (k := j) (by rw [Hn.out]; omega)
                  obtain ⟨hc0, hc1⟩ := hc
                  have Ht := Lib.hid (turnK_succ l k (by rw [Hn.out]; exact hlt4))
                  rw [Hn.out, hj] at Ht
                  have hf := flat_at (turnK l k) k (by rw [turnK_len l k (by rw [Hn.out]; omega), Hn.out]; exact hlt4)
                  have Hs := Lib.hid (fun p q => flat_set_two (turnK l k) k p q (by rw [turnK_len l k (by rw [Hn.out]; omega), Hn.out]; exact hlt4))
                  obtain ⟨⟨p, q⟩, hz⟩ : ∃ z, l[j]?.getD (0, 0) = z := ⟨_, rfl⟩
                  rw [hz] at hc0 hc1 Ht
                  simp only [] at hc0 hc1
                  have k0 := (o4.cellAt (k * 2) (by omega)).trans hf.1
                  have k1 := (o4.cellAt (k * 2 + 1) (by omega)).trans hf.2
                  have f0 := o4.frozenAt (k * 2)
                  have f1 := o4.frozenAt (k * 2 + 1)
                  have s1 := ((o4.stored (k * 2) (.int .i64 p)).1.stored (k * 2 + 1) (.int .i64 q)).1
                  rw [Hs.out, ← Ht.out] at s1
                  clear hz hj hf
                  go_wp2
                  go_roundw
                  case rel => exact ⟨k + 1, by omega, by go_num, (hbx3.setCell hg1 _).setCell hg1 _, s1⟩
                  case measure => simp [intOf]; omega
                · obtain ⟨W3, hW3⟩ : ∃ W3, W3 = wr := ⟨_, rfl⟩
                  subst hW3
                  have o5 : W3.ownsRow W2.heap.size 40 2 (.slice a3 n c3) n (flat l.reverse) := by
                    have e : k = l.length := by rw [Hn.out]; omega
                    rw [e, turnK_all] at o4
                    exact o4
                  have hbZ : Below w.heap.size w W3 := hbV.trans (hbx3.mono hbV.size)
                  have hp3 := hpV.kept hbx3
                  clear o4 o3'
                  go_wp2_with fail
                  refine (merge_full M2.out b M c M _ HM.out (by omega) hp3 HM.out).mono ?_
                  rintro e w4 ⟨b4, c4, rfl, _, hb4b, hp4, hb4⟩
                  have o6 := own_below o5 hb4
                  have hb44 : Below W2.heap.size W2 w4 := hbx3.trans (hb4.mono hbx3.size)
                  go_wp2_with (at_builtin; refine wpList_append_pairs rfl (.tmp 114) (.tmp 115) Tryd.underlying33 info_window rfl W2.heap.size _ n l.reverse rfl o6 _ _ _ r rfl HM.out (hp3.kept hb4) (fun e => ⟨Hbn.out e, Hnot.out⟩) (by omega) hb44.size ?_; intro v5 x5 o7 g7 _ _; obtain ⟨a5, c5, rfl, hl5, hp5⟩ := own_pairs o7)
                  have hb5 : Below W2.heap.size W2 x5 := Below.grown hb44 g7 hb44.size (fun k hk => (o6.lt k hk).1)
                  have hp4' : Pairs x5 b4 r := pairs_far hp4 g7 (fun y hy hrow => by
                    have h1 := (o5.lt y.block hrow.symm).2
                    have h2 := hb4b y hy
                    omega)
                  have HL5 := Lib.hid hl5
                  have hb5w : Below w.heap.size w x5 := hbV.trans (hb5.mono hbV.size)
                  clear hl5 o7 o6 o5 g7
                  go_wp2_with fail
                  refine (merge_full M3.out a5 (n + M) c5 M _ HL5.out (by omega) hp5 HM.out).mono ?_
                  rintro e w6 ⟨b6, c6, rfl, _, _, hp6, hb6⟩
                  have hb6v : Below W2.heap.size W2 w6 := hb5.trans (hb6.mono hb5.size)
                  have hb6w : Below w.heap.size w w6 := hb5w.trans (hb6.mono hb5w.size)
                  go_wp2_with fail
                  refine (conInside_is contracts HX.out b M c _ HM.out (by omega) (hpV.kept hb6v)).mono ?_
                  rintro e w7 ⟨rfl, hb7⟩
                  go_wp2_with fail
                  refine (conInside_is contracts HQ.out a n cap _ Hn.out (by omega) ((hl.kept hb6w).kept hb7)).mono ?_
                  rintro e w8 ⟨rfl, hb8⟩
                  go_wp2_with fail
                  refine (rSame_any b4 b r r M M c4 c _ HM.out HM.out (by omega) (by omega) (((hp4'.kept hb6).kept hb7).kept hb8) (((hpV.kept hb6v).kept hb7).kept hb8)).mono ?_
                  rintro e w9 ⟨rfl, hb9⟩
                  rw [show sameB r r = true by simp [sameB]]
                  go_wp2_with fail
                  refine (rSame_any b6 b r r M M c6 c _ HM.out HM.out (by omega) (by omega) (((hp6.kept hb7).kept hb8).kept hb9) ((((hpV.kept hb6v).kept hb7).kept hb8).kept hb9)).mono ?_
                  rintro e w10 ⟨rfl, hb10⟩
                  rw [show sameB r r = true by simp [sameB]]
                  go_wp2_with fail
                  refine (clkAwake_any contracts _ (hT.on (by (repeat' first | with_reducible assumption | exact Below.refl _ _ | with_reducible refine Below.drew ?_ | with_reducible refine Below.drewN ?_ _ | with_reducible refine Below.alloc' ?_ _ | with_reducible refine Below.setCell ?_ (by first | exact Nat.le_refl _ | omega | (simp; done) | (simp; omega)) _ | with_reducible refine Below.after ?_ ‹_›)))).mono ?_
                  rintro e w11 ⟨rfl, hb11⟩
                  go_wp2
                  go_ret
                  exact ⟨rfl, by (repeat' first | with_reducible assumption | exact Below.refl _ _ | with_reducible refine Below.drew ?_ | with_reducible refine Below.drewN ?_ _ | with_reducible refine Below.alloc' ?_ _ | with_reducible refine Below.setCell ?_ (by first | exact Nat.le_refl _ | omega | (simp; done) | (simp; omega)) _ | with_reducible refine Below.after ?_ ‹_›)⟩
  · go_enter Tryd.func9, Tryd.ntmps9
    go_wp2_with fail
    refine (clkAwake_any contracts _ (hT.on (by (repeat' first | with_reducible assumption | exact Below.refl _ _ | with_reducible refine Below.drew ?_ | with_reducible refine Below.drewN ?_ _ | with_reducible refine Below.alloc' ?_ _ | with_reducible refine Below.setCell ?_ (by first | exact Nat.le_refl _ | omega | (simp; done) | (simp; omega)) _ | with_reducible refine Below.after ?_ ‹_›)))).mono ?_
    rintro e w5 ⟨rfl, hb5⟩
    go_wp2
    go_ret
    exact ⟨rfl, by (repeat' first | with_reducible assumption | exact Below.refl _ _ | with_reducible refine Below.drew ?_ | with_reducible refine Below.drewN ?_ _ | with_reducible refine Below.alloc' ?_ _ | with_reducible refine Below.setCell ?_ (by first | exact Nat.le_refl _ | omega | (simp; done) | (simp; omega)) _ | with_reducible refine Below.after ?_ ‹_›)⟩
end Go.Proofs.YtjmbbhhfbdjbdaaDoor
