/-
  Walks over package clock: meetSorted, Common.
-/
import Derived.Test.YtjmbbhhfbdjbdaaDoorClkM
import Derived.Test.YtjmbbhhfbdjbdaaDoorClkD
namespace Go.Proofs.YtjmbbhhfbdjbdaaDoor
open Go.RowKit

theorem cut1_no {v w : Int × Int} (h : min v.2 w.2 ≤ max v.1 w.1) : cut1 v w = [] := by
  unfold cut1; rw [if_neg (by omega)]
theorem cutRow_no {v : Int × Int} {y : List (Int × Int)} (h : ∀ w ∈ y, min v.2 w.2 ≤ max v.1 w.1) : cutRow v y = [] := by
  unfold cutRow
  rw [List.flatMap_eq_nil_iff]
  exact fun w hw => cut1_no (h w hw)
theorem inter_cons (v : Int × Int) (x y : List (Int × Int)) : inter (v :: x) y = cutRow v y ++ inter x y := by simp [inter]
theorem cutRow_cons (v w : Int × Int) (y : List (Int × Int)) : cutRow v (w :: y) = cut1 v w ++ cutRow v y := by simp [cutRow]
theorem inter_left {v w : Int × Int} {x y : List (Int × Int)} (hy : canon (w :: y)) (h : v.2 < w.2) : inter (v :: x) (w :: y) = cut1 v w ++ inter x (w :: y) := by
  rw [inter_cons, cutRow_cons, cutRow_no (fun z hz => by
    have := canon_lt hy z hz
    omega), List.append_nil]
theorem inter_right {v w : Int × Int} {x y : List (Int × Int)} (hx : canon (v :: x)) (h : ¬ v.2 < w.2) : inter (v :: x) (w :: y) = cut1 v w ++ inter (v :: x) y := by
  rw [inter_cons, inter_cons, cutRow_cons, List.append_assoc]
  congr 2
  have hl := canon_lt hx
  clear hx
  induction x with
  | nil => rfl
  | cons u x ih =>
    rw [inter_cons, inter_cons, cutRow_cons, cut1_no (by have := hl u (by simp); omega), List.nil_append, ih (fun z hz => hl z (by simp [hz]))]
/-- for a measure: how long the slice in a slot is -/
def lenS : Value → Nat | .slice _ n _ => n | _ => 0
theorem inter_nil_right : ∀ (x : List (Int × Int)), inter x [] = []
  | [] => rfl
  | v :: x => by rw [inter_cons, inter_nil_right x]; rfl

/-- s[1:] of a slice of windows -/
theorem tail_run (a : Option Addr) (m cap : Nat) (z : Int × Int) (x : List (Int × Int)) (w : World) (hm : x.length = m) (hc : m + 1 ≤ cap) (hp : Pairs w a (z :: x)) :
    ∃ p, (∀ W, (Instr.slice 33 (.slice a (m + 1) cap) (some (.int .i64 1)) none none).run Tryd.prog W = .ok (.slice p m (cap - 1)) W) ∧ Pairs w p x := by
  obtain ⟨b, off, rfl, hcell⟩ := hp (by simp)
  have he : ∀ W, (sizeOf (Tryd.prog.elem 33)).run Tryd.prog W = .ok 2 W := by
    intro W
    rw [show Tryd.prog.elem 33 = 40 by kernel_rfl]
    exact Tryd.sizeOf40 W
  refine ⟨if cap = 1 then some ⟨b, off, none⟩ else some ⟨b, off + 2, none⟩, fun W => ?_, ?_⟩
  · rw [run_slice_l _ 33 _ _ _ Tryd.underlying33 .i64 1 (by omega) (by omega), he W]
    simp only [Result.andThen, sliced]
    rw [show (1 : Int).toNat = 1 from rfl]
    by_cases h : cap = 1
    · rw [if_pos h, if_pos h]; simp
    · rw [if_neg h, if_neg h]; simp [add_none]
  · by_cases h : cap = 1
    · have : x = [] := List.length_eq_zero_iff.1 (by omega)
      subst this
      intro hne; exact absurd rfl hne
    · rw [if_neg h]
      have := pairs_drop (l := z :: x) (b := b) (off := off) (fun hne => ⟨b, off, rfl, hcell⟩) 1
      simpa using this

theorem own_len {w : World} {base : Nat} {e : TypeId} {size n : Nat} {v : Value} {xs : List Value} (h : w.ownsRow base e size v n xs) : ∃ a c, v = .slice a n c ∧ n ≤ c := by
  rcases h.2 with ⟨rfl, rfl⟩ | ⟨g, cap, cur, rfl, _, _, hnc, _⟩
  · exact ⟨_, _, rfl, Nat.le_refl _⟩
  · exact ⟨_, _, rfl, hnc⟩

set_option maxRecDepth 100000 in
set_option maxHeartbeats 8000000 in
theorem meetSorted_any (a b : Option Addr) (x y : List (Int × Int)) (n m ca cb : Nat) (w : World) (hn : x.length = n) (hm : y.length = m) (hb : n ≤ 900) (hb' : m ≤ 900) (hca : n ≤ ca) (hcb : m ≤ cb) (hx : canon x) (hy : canon y) (hl : Pairs w a x) (hr : Pairs w b y) :
    Calls Tryd.prog 45 #[.slice a n ca, .slice b m cb] w (GivesOne w (inter x y)) := by
  have Hx := Lib.hid hx
  have Hy := Lib.hid hy
  have Hn := Lib.hid hn
  have Hm := Lib.hid hm
  clear hx hy hn hm
  have Hlen := Lib.hid (show (inter x y).length ≤ 899 * 900 + 900 from by
    have := inter_length x y
    rw [Hn.out, Hm.out] at this
    have : n * m ≤ 900 * 900 := Nat.mul_le_mul hb hb'
    omega)
  go_enter Tryd.func45, Tryd.ntmps45
  go_wp2
  go_loopw [0, 1, 5, 6] (fun s0 s1 v _ wr => ∃ (p q : Option Addr) (j k cp cq : Nat) (xs ys out : List (Int × Int)), s0 = .slice p j cp ∧ s1 = .slice q k cq ∧ Hid (xs.length = j) ∧ Hid (ys.length = k) ∧ j ≤ n ∧ k ≤ m ∧ j ≤ cp ∧ k ≤ cq ∧ Hid (canon xs) ∧ Hid (canon ys) ∧ Hid (out ++ inter xs ys = inter x y) ∧ Below w.heap.size w wr ∧ Pairs w p xs ∧ Pairs w q ys ∧ wr.ownsRow w.heap.size 40 2 v out.length (flat out)) (fun s0 s1 _ _ _ => lenS s0 + lenS s1)
  case atStart => exact ⟨a, b, n, m, ca, cb, x, y, [], rfl, rfl, Hn, Hm, Nat.le_refl _, Nat.le_refl _, hca, hcb, Hx, Hy, rfl, Below.refl _ _, hl, hr, World.ownsRow_nil _ _ _ _⟩
  case round =>
    obtain ⟨p, q, j, k, cp, cq, xs, ys, out, rfl, rfl, Hj, Hk, hj, hk, hcp, hcq, Hxs, Hys, Hout, hbr, hpx, hpy, hown⟩ := hrel
    have hol : out.length ≤ 899 * 900 + 900 := by
      have := congrArg List.length Hout.out
      rw [List.length_append] at this
      have := Hlen.out
      omega
    cases xs with
    | nil =>
      have hj0 : j = 0 := by rw [← Hj.out]; rfl
      subst hj0
      have E := Lib.hid (show out = inter x y by have := Hout.out; simpa [inter] using this)
      go_wp2
      go_ret
      exact ⟨_, rfl, by rw [← E.out]; exact hown, hbr⟩
    | cons v xs =>
      obtain ⟨p1, q1⟩ := v
      obtain ⟨j', hj'⟩ : ∃ j', xs.length = j' := ⟨_, rfl⟩
      have hjj : j = j' + 1 := by rw [← Hj.out, List.length_cons, hj']
      subst hjj
      cases ys with
      | nil =>
        have hk0 : k = 0 := by rw [← Hk.out]; rfl
        subst hk0
        have E := Lib.hid (show out = inter x y by have := Hout.out; rw [inter_nil_right, List.append_nil] at this; exact this)
        clear hj'
        go_wp2
        go_ret
        exact ⟨_, rfl, by rw [← E.out]; exact hown, hbr⟩
      | cons u ys =>
        obtain ⟨p2, q2⟩ := u
        obtain ⟨k', hk'⟩ : ∃ k', ys.length = k' := ⟨_, rfl⟩
        have hkk : k = k' + 1 := by rw [← Hk.out, List.length_cons, hk']
        subst hkk
        obtain ⟨t1, r1, pt1⟩ := tail_run p j' cp (p1, q1) xs w hj' hcp hpx
        obtain ⟨t2, r2, pt2⟩ := tail_run q k' cq (p2, q2) ys w hk' hcq hpy
        obtain ⟨b1, o1, rfl, k10, k11⟩ := hpx.at_ (k := 0) (by simp)
        obtain ⟨b2, o2, rfl, k20, k21⟩ := hpy.at_ (k := 0) (by simp)
        simp only [List.getElem?_cons_zero, Option.getD_some, Nat.zero_mul, Nat.add_zero] at k10 k11 k20 k21
        have c10 := kept hbr k10
        have c11 := kept hbr k11
        have c20 := kept hbr k20
        have c21 := kept hbr k21
        have HJ := Lib.hid hj'
        have HK := Lib.hid hk'
        obtain ⟨M, hM⟩ : ∃ M, max p1 p2 = M := ⟨_, rfl⟩
        obtain ⟨N, hN⟩ : ∃ N, min q1 q2 = N := ⟨_, rfl⟩
        have Hcut := Lib.hid (show cut1 (p1, q1) (p2, q2) = if M < N then [(M, N)] else [] by unfold cut1; simp only [hM, hN])
        clear hj' hk'
        have d10 := fun o => cellA (o := o) c10
        have d11 := fun o => cellA (o := o) c11
        have d20 := fun o => cellA (o := o) c20
        have d21 := fun o => cellA (o := o) c21
        go_wp2_with fail
        go_region
        obtain ⟨W1, hW1⟩ : ∃ W1, W1 = (wr.alloc (Obj.cells #[Value.int IntKind.i64 M, Value.int IntKind.i64 N] 40)).drew := ⟨_, rfl⟩
        rw [← hW1]
        have own1 : W1.ownsRow w.heap.size 40 2 u5 out.length (flat out) := by rw [hW1]; exact own_drew (hown.alloc _)
        have hb1 : Below w.heap.size w W1 := by rw [hW1]; exact (hbr.alloc' _).drew
        have e0 : W1.cell? ⟨wr.heap.size, 0, none⟩ = some (.int .i64 M) := by rw [hW1]; show (wr.alloc _).cell? _ = _; simp [go_sem]
        have e1 : W1.cell? ⟨wr.heap.size, 1, none⟩ = some (.int .i64 N) := by rw [hW1]; show (wr.alloc _).cell? _ = _; simp [go_sem]
        obtain ⟨a5, c5, rfl, _, _⟩ := own_pairs own1
        clear hW1 d10 d11 d20 d21 c10 c11 c20 c21 hM hN
        by_cases h1 : M < N
        · have HC := Lib.hid (show cut1 (p1, q1) (p2, q2) = [(M, N)] by rw [Hcut.out, if_pos h1])
          go_wp2_with (at_builtin; refine wpList_append_pairs rfl (.tmp 39) (.tmp 41) Tryd.underlying33 info_window rfl w.heap.size _ _ out rfl (own1.alloc _) _ _ _ [(M, N)] rfl rfl (Pairs_at _ _ _ _ (by simp)) (by simp) (by omega) (by have := hb1.size; simp; omega) ?_; intro v1 x1 ow1 g1 _ _)
          have hby : Below w.heap.size w x1 := Below.grown (by (repeat' first | with_reducible assumption | exact Below.refl _ _ | with_reducible refine Below.drew ?_ | with_reducible refine Below.drewN ?_ _ | with_reducible refine Below.alloc' ?_ _ | with_reducible refine Below.setCell ?_ (by first | exact Nat.le_refl _ | omega | (simp; done) | (simp; omega)) _ | with_reducible refine Below.after ?_ ‹_›)) g1 (by have := hb1.size; simp; omega) (fun k hk => (own1.lt k hk).1)
          have e11 := kept hby k11
          have e21 := kept hby k21
          by_cases h2 : q1 < q2
          · have E := Lib.hid (show (out ++ [(M, N)]) ++ inter xs ((p2, q2) :: ys) = inter x y by rw [← Hout.out, inter_left Hys.out h2, HC.out, List.append_assoc])
            go_wp2
            go_quiet (fail)
            go_wp2
            go_roundw
            case rel => exact ⟨t1, some ⟨b2, o2, none⟩, j', k' + 1, cp - 1, cq, xs, (p2, q2) :: ys, out ++ [(M, N)], rfl, rfl, HJ, Hk, by omega, hk, by omega, hcq, canon_tail Hxs.out, Hys, E.out, hby.drewN _, pt1, hpy, by rw [List.length_append]; exact own_drewN ow1 _⟩
            case measure => simp [lenS]
          · have E := Lib.hid (show (out ++ [(M, N)]) ++ inter ((p1, q1) :: xs) ys = inter x y by rw [← Hout.out, inter_right Hxs.out h2, HC.out, List.append_assoc])
            have h2' : decide (q1 < q2) = false := by simpa using h2
            clear h2
            go_wp2
            go_quiet (fail)
            go_wp2
            go_roundw
            case rel => exact ⟨some ⟨b1, o1, none⟩, t2, j' + 1, k', cp, cq - 1, (p1, q1) :: xs, ys, out ++ [(M, N)], rfl, rfl, Hj, HK, hj, by omega, hcp, by omega, Hxs, canon_tail Hys.out, E.out, hby.drewN _, hpx, pt2, by rw [List.length_append]; exact own_drewN ow1 _⟩
            case measure => simp [lenS]
        · have HC := Lib.hid (show cut1 (p1, q1) (p2, q2) = [] by rw [Hcut.out, if_neg h1])
          have h1' : decide (M < N) = false := by simpa using h1
          clear h1
          have e11 := kept hb1 k11
          have e21 := kept hb1 k21
          by_cases h2 : q1 < q2
          · have E := Lib.hid (show (out) ++ inter xs ((p2, q2) :: ys) = inter x y by rw [← Hout.out, inter_left Hys.out h2, HC.out, List.nil_append])
            go_wp2
            go_quiet (fail)
            go_wp2
            go_roundw
            case rel => exact ⟨t1, some ⟨b2, o2, none⟩, j', k' + 1, cp - 1, cq, xs, (p2, q2) :: ys, out, rfl, rfl, HJ, Hk, by omega, hk, by omega, hcq, canon_tail Hxs.out, Hys, E.out, hb1.drewN _, pt1, hpy, own_drewN own1 _⟩
            case measure => simp [lenS]
          · have E := Lib.hid (show (out) ++ inter ((p1, q1) :: xs) ys = inter x y by rw [← Hout.out, inter_right Hxs.out h2, HC.out, List.nil_append])
            have h2' : decide (q1 < q2) = false := by simpa using h2
            clear h2
            go_wp2
            go_quiet (fail)
            go_wp2
            go_roundw
            case rel => exact ⟨some ⟨b1, o1, none⟩, t2, j' + 1, k', cp, cq - 1, (p1, q1) :: xs, ys, out, rfl, rfl, Hj, HK, hj, by omega, hcp, by omega, Hxs, canon_tail Hys.out, E.out, hb1.drewN _, hpx, pt2, own_drewN own1 _⟩
            case measure => simp [lenS]

/-- what the union of windows is, and its capacity -/
theorem merge_is {l r : List (Int × Int)} {e : Int} (h : mrg l = (r, e)) (a : Option Addr) (n cap : Nat) (w : World) (hn : l.length = n) (hb : n ≤ 800000) (hl : Pairs w a l) :
    Calls Tryd.prog 21 #[.slice a n cap] w fun s w' => ∃ b c, s = .returned (.tuple #[.slice b r.length c, .int .i64 e]) ∧ r.length ≤ c ∧ Pairs w' b r ∧ Below w.heap.size w w' := by
  refine (merge_any a l n cap w hn hb hl).mono ?_
  rintro s w' ⟨v, hs, ho, hb⟩
  rw [h] at hs ho
  rcases own_len ho with ⟨b, c, rfl, hc⟩
  obtain ⟨b', c', e', _, hp⟩ := own_pairs ho
  obtain ⟨rfl, -, rfl⟩ : b = b' ∧ r.length = r.length ∧ c = c' := by simpa using e'
  exact ⟨b, c, hs, hc, hp, hb⟩

set_option maxRecDepth 100000 in
set_option maxHeartbeats 8000000 in
theorem common_any (a b : Option Addr) (l m : List (Int × Int)) (n n' cap cap' : Nat) (w : World) (hn : l.length = n) (hn' : m.length = n') (hb : n ≤ 900) (hb' : n' ≤ 900) (hl : Pairs w a l) (hm : Pairs w b m) :
    Calls Tryd.prog 26 #[.slice a n cap, .slice b n' cap'] w (GivesTwo w (comS l m)) := by
  have Hn := Lib.hid hn
  have Hn' := Lib.hid hn'
  cases h1 : l.all wB
  · have E := Lib.hid (show comS l m = ([], 1) by unfold comS; rw [h1]; rfl)
    have M1 := Lib.hid (show mrg l = ([], 1) by unfold mrg; rw [h1]; rfl)
    clear hn hn' h1
    go_enter Tryd.func26, Tryd.ntmps26
    go_wp2_with fail
    refine (merge_is M1.out _ _ _ _ Hn.out (by omega) hl).mono ?_
    rintro e w1 ⟨a1, c1, rfl, _, _, hb1⟩
    go_wp2
    go_ret2
    exact ⟨_, by rw [E.out]; rfl, by rw [E.out]; exact World.ownsRow_nil _ _ _ _, hb1⟩
  · have M1 := Lib.hid (show mrg l = (unite l, 0) by unfold mrg; rw [h1]; rfl)
    cases h2 : m.all wB
    · have E := Lib.hid (show comS l m = ([], 1) by unfold comS; rw [h1, h2]; rfl)
      have M2 := Lib.hid (show mrg m = ([], 1) by unfold mrg; rw [h2]; rfl)
      clear hn hn' h1 h2
      go_enter Tryd.func26, Tryd.ntmps26
      go_wp2_with fail
      refine (merge_is M1.out _ _ _ _ Hn.out (by omega) hl).mono ?_
      rintro e w1 ⟨a1, c1, rfl, _, _, hb1⟩
      go_wp2_with fail
      refine (merge_is M2.out _ _ _ _ Hn'.out (by omega) (hm.kept hb1)).mono ?_
      rintro e w2 ⟨a2, c2, rfl, _, _, hb2⟩
      go_wp2
      go_ret2
      exact ⟨_, by rw [E.out]; rfl, by rw [E.out]; exact World.ownsRow_nil _ _ _ _, by (repeat' first | with_reducible assumption | exact Below.refl _ _ | with_reducible refine Below.drew ?_ | with_reducible refine Below.drewN ?_ _ | with_reducible refine Below.alloc' ?_ _ | with_reducible refine Below.setCell ?_ (by first | exact Nat.le_refl _ | omega | (simp; done) | (simp; omega)) _ | with_reducible refine Below.after ?_ ‹_›)⟩
    · have E := Lib.hid (show comS l m = (inter (unite l) (unite m), 0) by unfold comS; rw [h1, h2]; rfl)
      have M2 := Lib.hid (show mrg m = (unite m, 0) by unfold mrg; rw [h2]; rfl)
      have b1 : (unite l).length ≤ 900 := by have := unite_length l; omega
      have b2 : (unite m).length ≤ 900 := by have := unite_length m; omega
      have C1 := Lib.hid (unite_canon l)
      have C2 := Lib.hid (unite_canon m)
      clear hn hn' h1 h2
      obtain ⟨x, hx⟩ : ∃ x, unite l = x := ⟨_, rfl⟩
      obtain ⟨y, hy⟩ : ∃ y, unite m = y := ⟨_, rfl⟩
      rw [hx, hy] at E
      rw [hx] at M1 b1 C1
      rw [hy] at M2 b2 C2
      clear hx hy
      go_enter Tryd.func26, Tryd.ntmps26
      go_wp2_with fail
      refine (merge_is M1.out _ _ _ _ Hn.out (by omega) hl).mono ?_
      rintro e w1 ⟨a1, c1, rfl, hc1, hp1, hb1⟩
      go_wp2_with fail
      refine (merge_is M2.out _ _ _ _ Hn'.out (by omega) (hm.kept hb1)).mono ?_
      rintro e w2 ⟨a2, c2, rfl, hc2, hp2, hb2⟩
      have hbw : Below w.heap.size w w2 := by (repeat' first | with_reducible assumption | exact Below.refl _ _ | with_reducible refine Below.drew ?_ | with_reducible refine Below.drewN ?_ _ | with_reducible refine Below.alloc' ?_ _ | with_reducible refine Below.setCell ?_ (by first | exact Nat.le_refl _ | omega | (simp; done) | (simp; omega)) _ | with_reducible refine Below.after ?_ ‹_›)
      go_wp2_with fail
      refine (meetSorted_any a1 a2 x y _ _ c1 c2 _ rfl rfl b1 b2 hc1 hc2 C1.out C2.out (hp1.kept hb2) hp2).mono ?_
      rintro e w3 ⟨v3, rfl, o3, hb3⟩
      go_wp2
      go_ret2
      exact ⟨v3, by rw [E.out]; rfl, by rw [E.out]; exact own_base o3 hbw.size, by (repeat' first | with_reducible assumption | exact Below.refl _ _ | with_reducible refine Below.drew ?_ | with_reducible refine Below.drewN ?_ _ | with_reducible refine Below.alloc' ?_ _ | with_reducible refine Below.setCell ?_ (by first | exact Nat.le_refl _ | omega | (simp; done) | (simp; omega)) _ | with_reducible refine Below.after ?_ ‹_›)⟩
end Go.Proofs.YtjmbbhhfbdjbdaaDoor
