/-
  What every stage wants of memory: what is still there behind a call; slices of pairs of integers, and append onto them.
-/
import Derived.Test.YtedgcgdgdjilhaaOpen
import Derived.WalkSpells
import Derived.WalkLawsBesides
import Derived.BigQuiet
import Derived.StillTailTactics
import Derived.Deep.RegionHeld3
import Derived.Deep.QuietTactic
import Derived.OwnWalk
import Derived.Deep.AppendLies
import Derived.Deep.AppendSrc
namespace Go.Proofs.Ytedgcgdgdjilhaa
open Go.RowKit

/-- what was in memory is still there behind a call -/
theorem kept {w w' : World} {p : Addr} {v : Value} (hb : Below w.heap.size w w') (h : w.cell? p = some v) : w'.cell? p = some v := by
  rw [hb.cell (World.block_lt_of_cell? w p h), h]

theorem keptF {w w' : World} {p : Addr} {v : Value} (hb : Below w.heap.size w w') (h : w.cell? p = some v) (hf : w.frozen? p = false) : w'.frozen? p = false := by
  rw [hb.frozen (World.block_lt_of_cell? w p h), hf]
theorem cellA {w : World} {p : Addr} {v : Value} {o : Obj} (h : w.cell? p = some v) : (w.alloc o).cell? p = some v := by
  rw [World.cell?_alloc_some _ _ _ (by simp [h]), h]
theorem cellD {w : World} {p : Addr} {v : Value} (h : w.cell? p = some v) : w.drew.cell? p = some v := h
theorem frozA {w : World} {p : Addr} {v : Value} {o : Obj} (h : w.cell? p = some v) (hf : w.frozen? p = false) : (w.alloc o).frozen? p = false := by
  have hlt := World.block_lt_of_cell? w p h
  have := ((Below.refl w.heap.size w).alloc (Nat.le_refl _) o).frozen (p := p) hlt
  rw [this, hf]
theorem frozD {w : World} {p : Addr} (h : w.frozen? p = false) : w.drew.frozen? p = false := h
theorem _root_.Go.RowKit.Below.alloc' {a w : World} (h : Below a.heap.size a w) (o : Obj) : Below a.heap.size a (w.alloc o) := h.alloc h.size o
theorem _root_.Go.RowKit.Below.after {a b c : World} (h : Below a.heap.size a b) (k : Below b.heap.size b c) : Below a.heap.size a c := h.trans (k.mono h.size)

theorem _root_.Go.RowKit.Below.drewN {B : Nat} {a w : World} (h : Below B a w) (n : Nat) : Below B a (w.drewN n) := h.trans ⟨rfl, rfl, rfl, Nat.le_refl _, fun _ _ => rfl⟩

theorem max_left_of {a c : Int} (h : c ≤ a) : max a c = a := by omega
theorem max_right_of {a c : Int} (h : a < c) : max a c = c := by omega
theorem min_left_of {a c : Int} (h : a ≤ c) : min a c = a := by omega
theorem min_right_of {a c : Int} (h : c < a) : min a c = c := by omega

/-- a region that draws its order, whose last operations stand in one order, from whatever world it draws in -/
theorem region_tail {P : Program} {id : Nat} {Q : Exit → Act → World → Prop} {a : Act} {w : World} {l : List Oper} (n : Nat) (hm : P.follows .mixedOrders = true) (hB : Region.lexTailB .any l.toArray n = true)
    (h : ∀ W : World, W = w.drew → wpStill P l.toArray W (fun a' => wpList P l.toArray Q (l.drop n) a' W) (l.take n) a) : (Code.region id l.toArray true).wp P Q a w :=
  wp_region_still_tail n hm hB (h _ rfl)

/-- a slice of pairs that reads as the list l -/
def Pairs (w : World) (a : Option Addr) (l : List (Int × Int)) : Prop :=
  l ≠ [] → ∃ b off, a = some ⟨b, off, none⟩ ∧ ∀ k, k < l.length → w.cell? ⟨b, off + k * 2, none⟩ = some (.int .i64 (l[k]?.getD (0, 0)).1) ∧ w.cell? ⟨b, off + k * 2 + 1, none⟩ = some (.int .i64 (l[k]?.getD (0, 0)).2)

theorem Pairs.at_ {w : World} {a : Option Addr} {l : List (Int × Int)} (h : Pairs w a l) {k : Nat} (hk : k < l.length) :
    ∃ b off, a = some ⟨b, off, none⟩ ∧ w.cell? ⟨b, off + k * 2, none⟩ = some (.int .i64 (l[k]?.getD (0, 0)).1) ∧ w.cell? ⟨b, off + k * 2 + 1, none⟩ = some (.int .i64 (l[k]?.getD (0, 0)).2) := by
  obtain ⟨b, off, e, hc⟩ := h (by intro e; subst e; simp at hk)
  exact ⟨b, off, e, hc k hk⟩
theorem Pairs.kept {w w' : World} {a : Option Addr} {l : List (Int × Int)} (hb : Below w.heap.size w w') (h : Pairs w a l) : Pairs w' a l := by
  intro hne
  obtain ⟨b, off, e, hc⟩ := h hne
  exact ⟨b, off, e, fun k hk => ⟨Go.Proofs.Ytedgcgdgdjilhaa.kept hb (hc k hk).1, Go.Proofs.Ytedgcgdgdjilhaa.kept hb (hc k hk).2⟩⟩

theorem Pairs_one (w : World) (x y : Int) (t : TypeId) : Pairs (w.alloc (.cells #[.int .i64 x, .int .i64 y] t)) (some ⟨w.heap.size, 0, none⟩) [(x, y)] := by
  intro _
  refine ⟨_, _, rfl, fun k hk => ?_⟩
  have : k = 0 := by simp at hk; omega
  subst this
  simp [go_sem]
theorem Pairs_two (w : World) (x y z u : Int) (t : TypeId) : Pairs (w.alloc (.cells #[.int .i64 x, .int .i64 y, .int .i64 z, .int .i64 u] t)) (some ⟨w.heap.size, 0, none⟩) [(x, y), (z, u)] := by
  intro _
  refine ⟨_, _, rfl, fun k hk => ?_⟩
  have : k = 0 ∨ k = 1 := by simp at hk; omega
  rcases this with rfl | rfl <;> simp [go_sem]

theorem IsPairs.len {k : IntKind} {w : World} {a : Option Addr} {len cap : Nat} {zs : List (Int × Int)} (h : IsPairs k w a len cap zs) : (zs.take len).length = len := by
  rcases h with ⟨_, rfl, _, rfl⟩ | ⟨x, _, hl, _, hz, _⟩
  · rfl
  · rw [List.length_take]; omega
theorem IsPairs.pairs {w : World} {a : Option Addr} {len cap : Nat} {zs : List (Int × Int)} (h : IsPairs .i64 w a len cap zs) : Pairs w a (zs.take len) := by
  have hlen := h.len
  rcases h with ⟨_, rfl, _, rfl⟩ | ⟨x, rfl, hl, _, hz, hc, _⟩
  · intro h; simp at h
  · intro hne
    have h0 : 0 < len := by
      rcases Nat.eq_zero_or_pos len with h | h
      · subst h; simp at hne
      · exact h
    obtain ⟨b, off, spot⟩ := x
    have hs := (hc 0 (by omega)).1
    have hspot : spot = none := by simpa [Addr.add] using World.cell?_spot hs
    subst hspot
    refine ⟨b, off, rfl, fun k hk => ?_⟩
    have hkl : k < len := by omega
    have := hc k (by omega)
    rw [show ∀ j, (Addr.add ⟨b, off, none⟩ j) = ⟨b, off + j, none⟩ from fun j => by unfold Addr.add; split <;> simp_all] at this
    rw [show ∀ j, (Addr.add ⟨b, off, none⟩ j) = ⟨b, off + j, none⟩ from fun j => by unfold Addr.add; split <;> simp_all] at this
    have he : (zs.take len)[k]? = zs[k]? := by simp [hkl]
    rw [he, Nat.add_assoc]
    exact this

theorem pairs_take {w : World} {b off : Nat} {l : List (Int × Int)} (h : Pairs w (some ⟨b, off, none⟩) l) (k : Nat) : Pairs w (some ⟨b, off, none⟩) (l.take k) := by
  intro hne
  have hl : l ≠ [] := by intro e; subst e; simp at hne
  obtain ⟨b', off', e, hc⟩ := h hl
  refine ⟨b', off', e, fun j hj => ?_⟩
  have hj' : j < l.length ∧ j < k := by rw [List.length_take] at hj; omega
  have := hc j hj'.1
  rwa [show (l.take k)[j]? = l[j]? by simp [hj'.2]]
theorem pairs_drop {w : World} {b off : Nat} {l : List (Int × Int)} (h : Pairs w (some ⟨b, off, none⟩) l) (k : Nat) : Pairs w (some ⟨b, off + k * 2, none⟩) (l.drop k) := by
  intro hne
  have hl : l ≠ [] := by intro e; subst e; simp at hne
  obtain ⟨b', off', e, hc⟩ := h hl
  obtain ⟨rfl, rfl⟩ : b = b' ∧ off = off' := by simpa using e
  refine ⟨b, off + k * 2, rfl, fun j hj => ?_⟩
  have hj' : k + j < l.length := by rw [List.length_drop] at hj; omega
  have := hc (k + j) hj'
  rw [show (l.drop k)[j]? = l[k + j]? by simp]
  rw [show off + k * 2 + j * 2 = off + (k + j) * 2 by omega]
  exact this

/-- the cells of a list of pairs -/
def flat (l : List (Int × Int)) : List Value := l.flatMap fun z => [.int .i64 z.1, .int .i64 z.2]
theorem flat_length (l : List (Int × Int)) : (flat l).length = l.length * 2 := by
  induction l with
  | nil => rfl
  | cons z l ih => simp [flat] at *; omega
theorem flat_append (l m : List (Int × Int)) : flat (l ++ m) = flat l ++ flat m := by simp [flat]
theorem flat_one : ∀ (l : List (Int × Int)) (u : Value), u ∈ flat l → u.oneCell' = true := by
  intro l u hu
  simp only [flat, List.mem_flatMap] at hu
  obtain ⟨z, _, hz⟩ := hu
  simp at hz
  rcases hz with rfl | rfl <;> rfl
theorem flat_at : ∀ (l : List (Int × Int)) (k : Nat), k < l.length → (flat l)[k * 2]? = some (.int .i64 (l[k]?.getD (0, 0)).1) ∧ (flat l)[k * 2 + 1]? = some (.int .i64 (l[k]?.getD (0, 0)).2)
  | [], k, h => by simp at h
  | z :: l, 0, _ => by simp [flat]
  | z :: l, k + 1, h => by
    have ih := flat_at l k (by simpa using h)
    have e : flat (z :: l) = .int .i64 z.1 :: .int .i64 z.2 :: flat l := by simp [flat]
    rw [e, show (k + 1) * 2 = k * 2 + 1 + 1 by omega]
    simpa using ih

theorem add_none (b off j : Nat) : (Addr.add ⟨b, off, none⟩ j) = ⟨b, off + j, none⟩ := by unfold Addr.add; split <;> simp_all

theorem pairs_news {w : World} {b off : Nat} {l : List (Int × Int)} (h : Pairs w (some ⟨b, off, none⟩) l) : ∀ j u, (flat l)[j]? = some u → w.cell? ((⟨b, off, none⟩ : Addr).add j) = some u := by
  intro j u hu
  have hj : j < (flat l).length := by
    rcases Nat.lt_or_ge j (flat l).length with h | h
    · exact h
    · rw [List.getElem?_eq_none h] at hu; cases hu
  rw [flat_length] at hj
  have hk : j / 2 < l.length := by omega
  obtain ⟨b', off', e, hc⟩ := h (by intro e; subst e; simp at hk)
  obtain ⟨rfl, rfl⟩ : b = b' ∧ off = off' := by simpa using e
  have hf := flat_at l (j / 2) hk
  have hcc := hc (j / 2) hk
  rw [add_none]
  rcases Nat.mod_two_eq_zero_or_one j with hm | hm
  · have ej : j = j / 2 * 2 := by omega
    rw [ej] at hu
    rw [hf.1] at hu
    rw [show off + j = off + j / 2 * 2 by omega, hcc.1]
    exact hu
  · have ej : j = j / 2 * 2 + 1 := by omega
    rw [ej] at hu
    rw [hf.2] at hu
    rw [show off + j = off + j / 2 * 2 + 1 by omega, hcc.2]
    exact hu

theorem own_pairs {w : World} {base : Nat} {e : TypeId} {v : Value} {n : Nat} {l : List (Int × Int)} (h : w.ownsRow base e 2 v n (flat l)) : ∃ a cap, v = .slice a n cap ∧ l.length = n ∧ Pairs w a l := by
  have hl : l.length = n := by have := h.1; rw [flat_length] at this; omega
  rcases h.2 with ⟨rfl, rfl⟩ | ⟨g, cap, cur, rfl, _, hg, _⟩
  · exact ⟨none, 0, rfl, hl, fun hne => absurd (List.length_eq_zero_iff.1 hl) hne⟩
  · refine ⟨_, cap, rfl, hl, fun _ => ⟨g, 0, rfl, fun k hk => ?_⟩⟩
    have hf := flat_at l k hk
    rw [Nat.zero_add]
    rw [h.cellAt (k * 2) (by omega), h.cellAt (k * 2 + 1) (by omega)]
    exact hf

theorem own_lit (base : Nat) (e : TypeId) (w : World) {m : Nat} (hm : m = w.heap.size) (hb : base ≤ w.heap.size) : (w.alloc (.cells #[] e)).ownsRow base e 2 (.slice (some ⟨m, 0, none⟩) 0 0) 0 (flat []) := by
  subst hm
  exact World.ownsRow_made w #[] 0 hb (Nat.zero_le _) rfl
theorem own_drew {w : World} {base : Nat} {e : TypeId} {size : Nat} {v : Value} {n : Nat} {xs : List Value} (h : w.ownsRow base e size v n xs) : w.drew.ownsRow base e size v n xs := h
theorem farF {w w' : World} {row : Option Nat} (hg : w.grownBy w' row) {a : Addr} {v : Value} (h : w.cell? a = some v) (hne : some a.block ≠ row) (hf : w.frozen? a = false) : w'.frozen? a = false := by
  rw [hg.frozen_far a (World.block_lt_of_cell? w a h) hne, hf]

section
variable {P : Program} {t e : TypeId}
theorem append_pairs (ht : P.underlying t = some (.slice e)) (hinfo : (P.info? e).map (fun i => (i.zero, i.size, i.bytes)) = some (some (.agg #[.int .i64 0, .int .i64 0]), 2, 16)) (w : World) (base : Nat) (v : Value) (n : Nat) (xs : List (Int × Int)) (hown : w.ownsRow base e 2 v n (flat xs)) (src : Option Addr) (m c : Nat) (ys : List (Int × Int))
    (hm : ys.length = m) (hs : Pairs w src ys) (h0 : src = none → c = 0 ∧ v ≠ .slice none 0 0) (hb : n + m ≤ 1000000) (hbase : base ≤ w.heap.size) (ty : TypeId) :
    ∃ v' w', (Builtin.append_ #[t, t] ty #[v, .slice src m c]).run P w = .ok v' w' ∧ w'.ownsRow base e 2 v' (n + m) (flat (xs ++ ys)) ∧ w.grownBy w' v.ownBlock ∧
      (v ≠ .slice none 0 0 → v' ≠ .slice none 0 0) ∧ (v'.ownBlock = v.ownBlock ∨ v'.ownBlock = some w.heap.size) := by
  obtain ⟨i0, hi, hz0, hz1, hz2⟩ := info_parts hinfo
  cases src with
  | some ad =>
    have hnews : ∀ j u, (flat ys)[j]? = some u → w.cell? (ad.add j) = some u := by
      by_cases hy : ys = []
      · subst hy; intro j u hu; simp [flat] at hu
      · obtain ⟨b, off, e, _⟩ := hs hy
        obtain rfl : ad = ⟨b, off, none⟩ := by simpa using e
        exact pairs_news hs
    obtain ⟨v', w', h1, h2, h3, h4, h5⟩ := run_append_own_at (P := P) w base t ty e i0 _ 2 16 ht hi hz0 hz1 hz2 rfl (by omega) v n (flat xs) hown ad m c (flat ys) (by rw [flat_length, hm]) hnews (flat_one ys) (by unfold maxLen; omega) (by omega) hbase
    exact ⟨v', w', h1, by rw [flat_append]; exact h2, h3, fun hv e => hv (h4.1 e).1, h5⟩
  | none =>
    have hy : ys = [] := by
      apply Classical.byContradiction
      intro hne
      obtain ⟨b, off, e, _⟩ := hs hne
      cases e
    subst hy
    obtain rfl : m = 0 := hm.symm
    obtain ⟨rfl, hv⟩ := h0 rfl
    rcases hown.2 with ⟨e, _⟩ | ⟨g, cap, cur, rfl, hbg, hg, hnc, hcm, hcs, htake⟩
    · exact absurd e hv
    · have hr := run_append_room_src (P := P) w t t ty e i0 ht hi g 0 n cap _ 0 [] (Src.ofNil w ht 0) (by omega) (by simp) (by simp)
      refine ⟨_, _, hr, ?_, ?_, by simp, Or.inl rfl⟩
      · simpa [World.setCells] using hown
      · exact ⟨rfl, rfl, rfl, Nat.le_refl _, fun _ _ _ => rfl⟩

/-- at a step of a region that draws its order -/
theorem step_append_pairs {ops : Array Oper} {o : Oper} {a : Act} {w : World} {K : Act → World → Prop} {Q : Exit → Act → World → Prop} {E : Prop} (hgd : o.guard = none) (s x : Operand) (ht : P.underlying t = some (.slice e)) (hinfo : (P.info? e).map (fun i => (i.zero, i.size, i.bytes)) = some (some (.agg #[.int .i64 0, .int .i64 0]), 2, 16))
    (ho : o.op = .call { callee := .builtin .append, args := #[s, x], argTypes := #[t, t] }) (base : Nat) (v : Value) (n : Nat) (xs : List (Int × Int)) (hs : a.eval s = v) (hown : w.ownsRow base e 2 v n (flat xs))
    (src : Option Addr) (m c : Nat) (ys : List (Int × Int)) (hx : a.eval x = .slice src m c) (hm : ys.length = m) (hsp : Pairs w src ys) (h0 : src = none → c = 0 ∧ v ≠ .slice none 0 0) (hb : n + m ≤ 1000000) (hbase : base ≤ w.heap.size)
    (h : ∀ v' w', w'.ownsRow base e 2 v' (n + m) (flat (xs ++ ys)) → w.grownBy w' v.ownBlock → (v ≠ .slice none 0 0 → v' ≠ .slice none 0 0) → (v'.ownBlock = v.ownBlock ∨ v'.ownBlock = some w.heap.size) → K (a.put o.dst v') w') :
    if Region.wanted o (yielded ops a.tmps) = true then Oper.wp P o a w K Q else E := by
  have hw : Region.wanted o (yielded ops a.tmps) = true := by simp [Region.wanted, hgd]
  rw [if_pos hw]
  obtain ⟨v', w', hr, h2, h3, h4, h5⟩ := append_pairs ht hinfo w base v n xs hown src m c ys hm hsp h0 hb hbase o.type
  unfold Oper.wp execOp
  simp only [ho, resolve, invoke, builtin, Sem.run_bind, Sem.run_pure, Result.andThen_ok, List.map_toArray, List.map_cons, List.map_nil, hs, hx, hr]
  exact h v' w' h2 h3 h4 h5

/-- at the list of a plain region's operations -/
theorem wpList_append_pairs {ops : Array Oper} {rest : List Oper} {o : Oper} {a : Act} {w : World} {Q : Exit → Act → World → Prop} (hgd : o.guard = none) (s x : Operand) (ht : P.underlying t = some (.slice e)) (hinfo : (P.info? e).map (fun i => (i.zero, i.size, i.bytes)) = some (some (.agg #[.int .i64 0, .int .i64 0]), 2, 16))
    (ho : o.op = .call { callee := .builtin .append, args := #[s, x], argTypes := #[t, t] }) (base : Nat) (v : Value) (n : Nat) (xs : List (Int × Int)) (hs : a.eval s = v) (hown : w.ownsRow base e 2 v n (flat xs))
    (src : Option Addr) (m c : Nat) (ys : List (Int × Int)) (hx : a.eval x = .slice src m c) (hm : ys.length = m) (hsp : Pairs w src ys) (h0 : src = none → c = 0 ∧ v ≠ .slice none 0 0) (hb : n + m ≤ 1000000) (hbase : base ≤ w.heap.size)
    (h : ∀ v' w', w'.ownsRow base e 2 v' (n + m) (flat (xs ++ ys)) → w.grownBy w' v.ownBlock → (v ≠ .slice none 0 0 → v' ≠ .slice none 0 0) → (v'.ownBlock = v.ownBlock ∨ v'.ownBlock = some w.heap.size) → wpList P ops Q rest (a.put o.dst v') w') :
    wpList P ops Q (o :: rest) a w := by
  refine wpList_plain hgd fun K hK => ?_
  obtain ⟨v', w', hr, h2, h3, h4, h5⟩ := append_pairs ht hinfo w base v n xs hown src m c ys hm hsp h0 hb hbase o.type
  unfold Oper.wp execOp
  simp only [ho, resolve, invoke, builtin, Sem.run_bind, Sem.run_pure, Result.andThen_ok, List.map_toArray, List.map_cons, List.map_nil, hs, hx, hr]
  exact hK _ _ (h v' w' h2 h3 h4 h5)
end
end Go.Proofs.Ytedgcgdgdjilhaa
