/-
  Slices of strings: that came in; that read as a list; owned, and append onto them.
-/
import Derived.Test.YtdkhajpkldjlmaaDoorMem
import Derived.SliceStrings
namespace Go.Proofs.YtdkhajpkldjlmaaDoor
set_option linter.unusedVariables false
set_option linter.unusedSimpArgs false
open Go.ChangeShapes Go.WideShapes Go.RowKit

/-- a slice of strings that came in: the strings up to its capacity -/
def IsStrs (w : World) (a : Option Addr) (len cap : Nat) (ss : List ByteArray) : Prop :=
  (a = none ∧ len = 0 ∧ cap = 0 ∧ ss = []) ∨
  ∃ x, a = some x ∧ len ≤ cap ∧ cap ≤ maxLen ∧ ss.length = cap ∧ (∀ i, i < cap → w.cell? (x.add i) = some (.string (ss.getD i ByteArray.empty))) ∧ ∀ s ∈ ss, s.size ≤ maxLen

theorem open_row_strs {H : Type} {enc : TypeId × Value → H} {P : Program} {w : World} {base : Nat} {held : Bool} {S E : TypeId} {a : Option Addr} {len cap : Nat} {d : DataW H} {p : List MemPlace}
    (hS : P.underlying S = some (.slice E)) (hE : P.underlying E = some .string) (ce : P.cellsOf E = 1)
    (h : DataW.Trod enc P w base (fun _ => true) held S (.slice a len cap) d p) : ∃ ss, IsStrs w a len cap ss := by
  obtain ⟨fuel, hf⟩ := h
  rcases open_strings hS hE ce hf with ⟨hcs, _⟩ | ⟨x, l, c, ss, hcs, _, hl, hm, hz, _, hcell, hsz⟩
  · simp [Value.cells] at hcs
    obtain ⟨rfl, rfl, rfl⟩ := hcs
    exact ⟨[], .inl ⟨rfl, rfl, rfl, rfl⟩⟩
  · simp [Value.cells] at hcs
    obtain ⟨rfl, rfl, rfl⟩ := hcs
    simp at hz
    exact ⟨ss, .inr ⟨x, rfl, hl, hm, hz, fun i hi => hcell i (by omega), hsz⟩⟩

/-- a slice of strings that reads as the list l -/
def Strs (w : World) (a : Option Addr) (l : List ByteArray) : Prop :=
  l ≠ [] → ∃ b off, a = some ⟨b, off, none⟩ ∧ ∀ k, k < l.length → w.cell? ⟨b, off + k, none⟩ = some (.string (l[k]?.getD ByteArray.empty))
theorem Strs.at_ {w : World} {a : Option Addr} {l : List ByteArray} (h : Strs w a l) {k : Nat} (hk : k < l.length) :
    ∃ b off, a = some ⟨b, off, none⟩ ∧ w.cell? ⟨b, off + k, none⟩ = some (.string (l[k]?.getD ByteArray.empty)) := by
  obtain ⟨b, off, e, hc⟩ := h (by intro e; subst e; simp at hk)
  exact ⟨b, off, e, hc k hk⟩
theorem Strs.kept {w w' : World} {a : Option Addr} {l : List ByteArray} (hb : Below w.heap.size w w') (h : Strs w a l) : Strs w' a l := by
  intro hne
  obtain ⟨b, off, e, hc⟩ := h hne
  exact ⟨b, off, e, fun k hk => Go.Proofs.YtdkhajpkldjlmaaDoor.kept hb (hc k hk)⟩
theorem strs_drewN {w : World} {a : Option Addr} {l : List ByteArray} (h : Strs w a l) (k : Nat) : Strs (w.drewN k) a l := h

theorem IsStrs.len {w : World} {a : Option Addr} {len cap : Nat} {ss : List ByteArray} (h : IsStrs w a len cap ss) : (ss.take len).length = len := by
  rcases h with ⟨_, rfl, _, rfl⟩ | ⟨x, _, hl, _, hz, _⟩
  · rfl
  · rw [List.length_take]; omega
theorem IsStrs.sizes {w : World} {a : Option Addr} {len cap : Nat} {ss : List ByteArray} (h : IsStrs w a len cap ss) : ∀ s ∈ ss.take len, s.size ≤ maxLen := by
  rcases h with ⟨_, _, _, rfl⟩ | ⟨x, _, _, _, _, _, hs⟩
  · intro s hs; simp at hs
  · exact fun s h => hs s (List.mem_of_mem_take h)
theorem IsStrs.cap0 {w : World} {a : Option Addr} {len cap : Nat} {ss : List ByteArray} (h : IsStrs w a len cap ss) : a = none → cap = 0 := by
  rintro rfl
  rcases h with ⟨_, _, rfl, _⟩ | ⟨x, e, _⟩
  · rfl
  · cases e
theorem IsStrs.caps {w : World} {a : Option Addr} {len cap : Nat} {ss : List ByteArray} (h : IsStrs w a len cap ss) : len ≤ cap ∧ cap ≤ maxLen := by
  rcases h with ⟨_, rfl, rfl, _⟩ | ⟨x, _, h1, h2, _⟩
  · exact ⟨Nat.le_refl _, Nat.zero_le _⟩
  · exact ⟨h1, h2⟩
theorem IsStrs.strs {w : World} {a : Option Addr} {len cap : Nat} {ss : List ByteArray} (h : IsStrs w a len cap ss) : Strs w a (ss.take len) := by
  have hlen := h.len
  rcases h with ⟨_, rfl, _, rfl⟩ | ⟨x, rfl, hl, _, hz, hc, _⟩
  · intro h; simp at h
  · intro hne
    have h0 : 0 < len := by
      rcases Nat.eq_zero_or_pos len with h | h
      · subst h; simp at hne
      · exact h
    obtain ⟨b, off, spot⟩ := x
    have hs := hc 0 (by omega)
    have hspot : spot = none := by simpa [Addr.add] using World.cell?_spot hs
    subst hspot
    refine ⟨b, off, rfl, fun k hk => ?_⟩
    have hkl : k < len := by omega
    have := hc k (by omega)
    rw [add_none] at this
    rw [this, show (ss.take len)[k]? = ss[k]? by simp [hkl], List.getD_eq_getElem?_getD]

theorem strs_drop {w : World} {b off : Nat} {l : List ByteArray} (h : Strs w (some ⟨b, off, none⟩) l) (k : Nat) : Strs w (some ⟨b, off + k, none⟩) (l.drop k) := by
  intro hne
  have hl : l ≠ [] := by intro e; subst e; simp at hne
  obtain ⟨b', off', e, hc⟩ := h hl
  obtain ⟨rfl, rfl⟩ : b = b' ∧ off = off' := by simpa using e
  refine ⟨b, off + k, rfl, fun j hj => ?_⟩
  have hj' : k + j < l.length := by rw [List.length_drop] at hj; omega
  have := hc (k + j) hj'
  rw [show (l.drop k)[j]? = l[k + j]? by simp, Nat.add_assoc]
  exact this
theorem strs_take {w : World} {a : Option Addr} {l : List ByteArray} (h : Strs w a l) (k : Nat) : Strs w a (l.take k) := by
  intro hne
  have hl : l ≠ [] := by intro e; subst e; simp at hne
  obtain ⟨b', off', e, hc⟩ := h hl
  refine ⟨b', off', e, fun j hj => ?_⟩
  have hj' : j < l.length ∧ j < k := by rw [List.length_take] at hj; omega
  have := hc j hj'.1
  rwa [show (l.take k)[j]? = l[j]? by simp [hj'.2]]

/-- the cells of a list of strings -/
def strV (l : List ByteArray) : List Value := l.map Value.string
theorem strV_length (l : List ByteArray) : (strV l).length = l.length := by simp [strV]
theorem strV_append (l m : List ByteArray) : strV (l ++ m) = strV l ++ strV m := by simp [strV]
theorem strV_one : ∀ (l : List ByteArray) (u : Value), u ∈ strV l → u.oneCell' = true := by
  intro l u hu
  simp only [strV, List.mem_map] at hu
  obtain ⟨z, _, rfl⟩ := hu
  rfl
theorem strV_at (l : List ByteArray) (k : Nat) (hk : k < l.length) : (strV l)[k]? = some (.string (l[k]?.getD ByteArray.empty)) := by
  simp [strV, List.getElem?_eq_getElem hk]
theorem strs_news {w : World} {b off : Nat} {l : List ByteArray} (h : Strs w (some ⟨b, off, none⟩) l) : ∀ j u, (strV l)[j]? = some u → w.cell? ((⟨b, off, none⟩ : Addr).add j) = some u := by
  intro j u hu
  have hj : j < l.length := by
    rcases Nat.lt_or_ge j (strV l).length with h | h
    · rwa [strV_length] at h
    · rw [List.getElem?_eq_none h] at hu; cases hu
  obtain ⟨b', off', e, hc⟩ := h (by intro e; subst e; simp at hj)
  obtain ⟨rfl, rfl⟩ : b = b' ∧ off = off' := by simpa using e
  rw [strV_at l j hj] at hu
  rw [add_none, hc j hj]
  exact hu
theorem own_strs {w : World} {base : Nat} {e : TypeId} {v : Value} {n : Nat} {l : List ByteArray} (h : w.ownsRow base e 1 v n (strV l)) : ∃ a cap, v = .slice a n cap ∧ l.length = n ∧ Strs w a l := by
  have hl : l.length = n := by have := h.1; rw [strV_length] at this; omega
  rcases h.2 with ⟨rfl, rfl⟩ | ⟨g, cap, cur, rfl, _, hg, _⟩
  · exact ⟨none, 0, rfl, hl, fun hne => absurd (List.length_eq_zero_iff.1 hl) hne⟩
  · refine ⟨_, cap, rfl, hl, fun _ => ⟨g, 0, rfl, fun k hk => ?_⟩⟩
    rw [Nat.zero_add, h.cellAt k (by omega)]
    exact strV_at l k hk

section
variable {P : Program} {t e : TypeId}
theorem append_none {i0 : TypeInfo} {size : Nat} (ht : P.underlying t = some (.slice e)) (hi : P.info? e = some i0) (w : World) (base : Nat) (v : Value) (n : Nat) (xs : List Value) (hown : w.ownsRow base e size v n xs) (c : Nat) (ty : TypeId) :
    (Builtin.append_ #[t, t] ty #[v, .slice none 0 c]).run P w = .ok v w := by
  rcases hown.2 with ⟨rfl, rfl⟩ | ⟨g, cap, cur, rfl, _, _, hnc, _⟩
  · simp [Builtin.append_, run_underlying ht, sizeOf, typeInfo, hi, Builtin.lenOf, Builtin.firstCells]
  · simp [Builtin.append_, run_underlying ht, sizeOf, typeInfo, hi, Builtin.lenOf, Builtin.firstCells, hnc, storeCells]
theorem append_strs (ht : P.underlying t = some (.slice e)) (hinfo : (P.info? e).map (fun i => (i.zero, i.size, i.bytes)) = some (some (.string ByteArray.empty), 1, 16)) (w : World) (base : Nat) (v : Value) (n : Nat) (xs : List ByteArray) (hown : w.ownsRow base e 1 v n (strV xs)) (src : Option Addr) (m c : Nat) (ys : List ByteArray)
    (hm : ys.length = m) (hs : Strs w src ys) (hb : n + m ≤ 1000000) (hbase : base ≤ w.heap.size) (ty : TypeId) :
    ∃ v' w', (Builtin.append_ #[t, t] ty #[v, .slice src m c]).run P w = .ok v' w' ∧ w'.ownsRow base e 1 v' (n + m) (strV (xs ++ ys)) ∧ w.grownBy w' v.ownBlock ∧
      (v ≠ .slice none 0 0 → v' ≠ .slice none 0 0) ∧ (v'.ownBlock = v.ownBlock ∨ v'.ownBlock = some w.heap.size) := by
  obtain ⟨i0, hi, hz0, hz1, hz2⟩ := info_parts hinfo
  cases src with
  | some ad =>
    have hnews : ∀ j u, (strV ys)[j]? = some u → w.cell? (ad.add j) = some u := by
      by_cases hy : ys = []
      · subst hy; intro j u hu; simp [strV] at hu
      · obtain ⟨b, off, e, _⟩ := hs hy
        obtain rfl : ad = ⟨b, off, none⟩ := by simpa using e
        exact strs_news hs
    obtain ⟨v', w', h1, h2, h3, h4, h5⟩ := run_append_own_at (P := P) w base t ty e i0 _ 1 16 ht hi hz0 hz1 hz2 rfl (by omega) v n (strV xs) hown ad m c (strV ys) (by rw [strV_length, hm]; omega) hnews (strV_one ys) (by unfold maxLen; omega) (by omega) hbase
    exact ⟨v', w', h1, by rw [strV_append]; exact h2, h3, fun hv e => hv (h4.1 e).1, h5⟩
  | none =>
    have hy : ys = [] := by
      apply Classical.byContradiction
      intro hne
      obtain ⟨b, off, e, _⟩ := hs hne
      cases e
    subst hy
    obtain rfl : m = 0 := hm.symm
    exact ⟨v, w, append_none ht hi w base v n _ hown c ty, by simpa using hown, World.grownBy.refl w _, id, Or.inl rfl⟩

/-- at a step of a region that draws its order -/
theorem step_append_strs {ops : Array Oper} {o : Oper} {a : Act} {w : World} {K : Act → World → Prop} {Q : Exit → Act → World → Prop} {E : Prop} (hgd : o.guard = none) (s x : Operand) (ht : P.underlying t = some (.slice e)) (hinfo : (P.info? e).map (fun i => (i.zero, i.size, i.bytes)) = some (some (.string ByteArray.empty), 1, 16))
    (ho : o.op = .call { callee := .builtin .append, args := #[s, x], argTypes := #[t, t] }) (base : Nat) (v : Value) (n : Nat) (xs : List ByteArray) (hs : a.eval s = v) (hown : w.ownsRow base e 1 v n (strV xs))
    (src : Option Addr) (m c : Nat) (ys : List ByteArray) (hx : a.eval x = .slice src m c) (hm : ys.length = m) (hsp : Strs w src ys) (hb : n + m ≤ 1000000) (hbase : base ≤ w.heap.size)
    (h : ∀ v' w', w'.ownsRow base e 1 v' (n + m) (strV (xs ++ ys)) → w.grownBy w' v.ownBlock → (v ≠ .slice none 0 0 → v' ≠ .slice none 0 0) → (v'.ownBlock = v.ownBlock ∨ v'.ownBlock = some w.heap.size) → K (a.put o.dst v') w') :
    if Region.wanted o (yielded ops a.tmps) = true then Oper.wp P o a w K Q else E := by
  have hw : Region.wanted o (yielded ops a.tmps) = true := by simp [Region.wanted, hgd]
  rw [if_pos hw]
  obtain ⟨v', w', hr, h2, h3, h4, h5⟩ := append_strs ht hinfo w base v n xs hown src m c ys hm hsp hb hbase o.type
  unfold Oper.wp execOp
  simp only [ho, resolve, invoke, builtin, Sem.run_bind, Sem.run_pure, Result.andThen_ok, List.map_toArray, List.map_cons, List.map_nil, hs, hx, hr]
  exact h v' w' h2 h3 h4 h5

/-- at the list of a plain region's operations -/
theorem wpList_append_strs {ops : Array Oper} {rest : List Oper} {o : Oper} {a : Act} {w : World} {Q : Exit → Act → World → Prop} (hgd : o.guard = none) (s x : Operand) (ht : P.underlying t = some (.slice e)) (hinfo : (P.info? e).map (fun i => (i.zero, i.size, i.bytes)) = some (some (.string ByteArray.empty), 1, 16))
    (ho : o.op = .call { callee := .builtin .append, args := #[s, x], argTypes := #[t, t] }) (base : Nat) (v : Value) (n : Nat) (xs : List ByteArray) (hs : a.eval s = v) (hown : w.ownsRow base e 1 v n (strV xs))
    (src : Option Addr) (m c : Nat) (ys : List ByteArray) (hx : a.eval x = .slice src m c) (hm : ys.length = m) (hsp : Strs w src ys) (hb : n + m ≤ 1000000) (hbase : base ≤ w.heap.size)
    (h : ∀ v' w', w'.ownsRow base e 1 v' (n + m) (strV (xs ++ ys)) → w.grownBy w' v.ownBlock → (v ≠ .slice none 0 0 → v' ≠ .slice none 0 0) → (v'.ownBlock = v.ownBlock ∨ v'.ownBlock = some w.heap.size) → wpList P ops Q rest (a.put o.dst v') w') :
    wpList P ops Q (o :: rest) a w := by
  refine wpList_plain hgd fun K hK => ?_
  obtain ⟨v', w', hr, h2, h3, h4, h5⟩ := append_strs ht hinfo w base v n xs hown src m c ys hm hsp hb hbase o.type
  unfold Oper.wp execOp
  simp only [ho, resolve, invoke, builtin, Sem.run_bind, Sem.run_pure, Result.andThen_ok, List.map_toArray, List.map_cons, List.map_nil, hs, hx, hr]
  exact hK _ _ (h v' w' h2 h3 h4 h5)
end

/-- equal strings -/
theorem str_eq (a b : ByteArray) : (a.toList == b.toList) = decide (a = b) := by
  rw [ByteArray.toList_eq, ByteArray.toList_eq, Bool.eq_iff_iff]
  simp
  constructor
  · intro h; exact ByteArray.ext h
  · rintro rfl; rfl
theorem own_strs_lit (base : Nat) (e : TypeId) (w : World) {m : Nat} (hm : m = w.heap.size) (hb : base ≤ w.heap.size) : (w.alloc (.cells #[] e)).ownsRow base e 1 (.slice (some ⟨m, 0, none⟩) 0 0) 0 (strV []) := by
  subst hm
  exact World.ownsRow_made w #[] 0 hb (Nat.zero_le _) rfl
theorem Strs_one (w : World) (s : ByteArray) (t : TypeId) {m : Nat} (hm : m = w.heap.size) : Strs (w.alloc (.cells #[.string s] t)) (some ⟨m, 0, none⟩) [s] := by
  subst hm
  intro _
  refine ⟨_, _, rfl, fun k hk => ?_⟩
  have : k = 0 := by simp at hk; omega
  subst this
  simp [go_sem]
end Go.Proofs.YtdkhajpkldjlmaaDoor
