/-
  Slices of one-cell values in general: that read as a list; owned; append; bytes and their string.
-/
import Derived.Test.YtedgcgdgdjilhaaMem
import Derived.Lib.AppendStr
import Derived.Laws.BytesString
import Derived.Deep.AppendSrc
namespace Go.Proofs.Ytedgcgdgdjilhaa
set_option linter.unusedVariables false
set_option linter.unusedSimpArgs false
open Go.RowKit

/-- a slice that reads as the list of values -/
def Reads (w : World) (a : Option Addr) (vs : List Value) : Prop :=
  vs ≠ [] → ∃ b off, a = some ⟨b, off, none⟩ ∧ ∀ k, k < vs.length → w.cell? ⟨b, off + k, none⟩ = vs[k]?
theorem reads_nil (w : World) (a : Option Addr) : Reads w a [] := fun h => absurd rfl h
theorem Reads.at_ {w : World} {a : Option Addr} {vs : List Value} (h : Reads w a vs) {k : Nat} (hk : k < vs.length) : ∃ b off, a = some ⟨b, off, none⟩ ∧ w.cell? ⟨b, off + k, none⟩ = vs[k]? := by
  obtain ⟨b, off, e, hc⟩ := h (by intro e; subst e; simp at hk)
  exact ⟨b, off, e, hc k hk⟩
theorem Reads.kept {w w' : World} {a : Option Addr} {vs : List Value} (hb : Below w.heap.size w w') (h : Reads w a vs) : Reads w' a vs := by
  intro hne
  obtain ⟨b, off, e, hc⟩ := h hne
  refine ⟨b, off, e, fun k hk => ?_⟩
  have := hc k hk
  rw [List.getElem?_eq_getElem hk] at this ⊢
  exact Go.Proofs.Ytedgcgdgdjilhaa.kept hb this
theorem Reads.drew {w : World} {a : Option Addr} {vs : List Value} (h : Reads w a vs) : Reads w.drew a vs := h
theorem Reads.drewN {w : World} {a : Option Addr} {vs : List Value} (h : Reads w a vs) (m : Nat) : Reads (w.drewN m) a vs := h
theorem Reads.drop {w : World} {b off : Nat} {vs : List Value} (h : Reads w (some ⟨b, off, none⟩) vs) (k : Nat) : Reads w (some ⟨b, off + k, none⟩) (vs.drop k) := by
  intro hne
  by_cases hvs : vs = []
  · subst hvs; simp at hne
  obtain ⟨b', off', e, hc⟩ := h hvs
  obtain ⟨rfl, rfl⟩ : b = b' ∧ off = off' := by simpa using e
  refine ⟨_, _, rfl, fun j hj => ?_⟩
  rw [List.length_drop] at hj
  rw [Nat.add_assoc, hc (k + j) (by omega), List.getElem?_drop]
theorem Reads.take {w : World} {a : Option Addr} {vs : List Value} (h : Reads w a vs) (k : Nat) : Reads w a (vs.take k) := by
  intro hne
  by_cases hvs : vs = []
  · subst hvs; simp at hne
  obtain ⟨b, off, e, hc⟩ := h hvs
  refine ⟨b, off, e, fun j hj => ?_⟩
  rw [List.length_take] at hj
  rw [hc j (by omega), List.getElem?_take, if_pos (by omega)]
theorem Reads.news {w : World} {b off : Nat} {vs : List Value} (h : Reads w (some ⟨b, off, none⟩) vs) : ∀ j u, vs[j]? = some u → w.cell? ((⟨b, off, none⟩ : Addr).add j) = some u := by
  intro j u hu
  have hj : j < vs.length := (List.getElem?_eq_some_iff.1 hu).1
  obtain ⟨b', off', e, hc⟩ := h (by intro e; subst e; simp at hj)
  obtain ⟨rfl, rfl⟩ : b = b' ∧ off = off' := by simpa using e
  rw [add_none, hc j hj, hu]
theorem reads_lit (w : World) (vs : List Value) (t : TypeId) {m : Nat} (hm : m = w.heap.size) : Reads (w.alloc (.cells vs.toArray t)) (some ⟨m, 0, none⟩) vs := by
  subst hm
  intro _
  refine ⟨w.heap.size, 0, rfl, fun k hk => ?_⟩
  simp [go_sem]
theorem own_reads {w : World} {base : Nat} {e : TypeId} {v : Value} {n : Nat} {vs : List Value} (h : w.ownsRow base e 1 v n vs) : ∃ a cap, v = .slice a n cap ∧ vs.length = n ∧ Reads w a vs ∧ ∀ x, a = some x → base ≤ x.block ∧ x.block < w.heap.size := by
  have hl : vs.length = n := by have := h.1; omega
  rcases h.2 with ⟨rfl, rfl⟩ | ⟨g, cap, cur, rfl, hb, hg, _⟩
  · exact ⟨none, 0, rfl, hl, fun hne => absurd (List.length_eq_zero_iff.1 hl) hne, fun x hx => by cases hx⟩
  · refine ⟨_, cap, rfl, hl, fun _ => ⟨g, 0, rfl, fun k hk => ?_⟩, fun x hx => by cases hx; exact ⟨hb, (Array.getElem?_eq_some_iff.1 hg).1⟩⟩
    rw [Nat.zero_add, h.cellAt k (by omega)]
theorem own_kept {w w' : World} {base : Nat} {e : TypeId} {size n : Nat} {v : Value} {xs : List Value} (h : w.ownsRow base e size v n xs) (hb : Below w.heap.size w w') : w'.ownsRow base e size v n xs := by
  refine ⟨h.1, ?_⟩
  rcases h.2 with h0 | ⟨g, cap, cur, hv, hg, hc, rest⟩
  · exact .inl h0
  · exact .inr ⟨g, cap, cur, hv, hg, by rw [hb.block g (Array.getElem?_eq_some_iff.1 hc).1]; exact hc, rest⟩
theorem own_base {w : World} {base : Nat} {e : TypeId} {v : Value} {n : Nat} {vals : List Value} (h : w.ownsRow base e 1 v n vals) : ∀ g, v.ownBlock = some g → base ≤ g := by
  intro g hg
  rcases h.2 with ⟨rfl, _⟩ | ⟨g2, cap, cur, rfl, hb, _⟩
  · cases hg
  · have h2 : g2 = g := by simpa [Value.ownBlock] using hg
    omega
/-- an append onto a slice of the call's own -/
theorem below_own {w w1 w3 : World} {v : Value} (hb : Below w.heap.size w w1) (hg : w1.grownBy w3 v.ownBlock) (hv : ∀ g, v.ownBlock = some g → w.heap.size ≤ g) : Below w.heap.size w w3 :=
  hb.grown hg hb.size hv
/-- .. behind the allocation of what is appended -/
theorem below_grown {w w1 w3 : World} {o : Obj} {v : Value} (hb : Below w.heap.size w w1) (hg : (w1.alloc o).grownBy w3 v.ownBlock) (hv : ∀ g, v.ownBlock = some g → w.heap.size ≤ g) : Below w.heap.size w w3 :=
  below_own (hb.trans (((Below.refl w1.heap.size w1).alloc (Nat.le_refl _) o).mono hb.size)) hg hv

section
variable {P : Program} {t e : TypeId}
/-- append of a slice that reads as a list, nil too, onto a slice of the call's own -/
theorem append_reads (ht : P.underlying t = some (.slice e)) {z : Value} {bytes : Nat} (hinfo : (P.info? e).map (fun i => (i.zero, i.size, i.bytes)) = some (some z, 1, bytes)) (hz : z.cells.size = 1) (hby : bytes ≤ 1000) (w : World) (base : Nat) (v : Value) (n : Nat) (xs : List Value) (hown : w.ownsRow base e 1 v n xs) (src : Option Addr) (m c : Nat) (ys : List Value)
    (hm : ys.length = m) (hs : Reads w src ys) (h1 : ∀ u ∈ ys, u.oneCell' = true) (hb : n + m ≤ 1000000) (hbase : base ≤ w.heap.size) (ty : TypeId) :
    ∃ v' w', (Builtin.append_ #[t, t] ty #[v, .slice src m c]).run P w = .ok v' w' ∧ w'.ownsRow base e 1 v' (n + m) (xs ++ ys) ∧ w.grownBy w' v.ownBlock ∧ (v'.ownBlock = v.ownBlock ∨ v'.ownBlock = some w.heap.size) := by
  obtain ⟨i0, hi, hz0, hz1, hz2⟩ := info_parts hinfo
  have hbb : (n + m) * bytes ≤ 140737488355328 := by
    have : (n + m) * bytes ≤ 1000000 * 1000 := Nat.mul_le_mul hb hby
    omega
  by_cases hy : ys = []
  · subst hy
    obtain rfl : m = 0 := hm.symm
    cases src with
    | some ad =>
      obtain ⟨v', w', hr, h2, h3, _, h5⟩ := run_append_own_at (P := P) w base t ty e i0 _ 1 bytes ht hi hz0 hz1 hz2 hz (by omega) v n xs hown ad 0 c [] rfl (fun j u hu => by simp at hu) h1 (by unfold maxLen; omega) (by omega) hbase
      exact ⟨v', w', hr, h2, h3, h5⟩
    | none =>
      refine ⟨v, w, ?_, by simpa using hown, World.grownBy.refl w _, Or.inl rfl⟩
      rcases hown.2 with ⟨rfl, rfl⟩ | ⟨g, cap, cur, rfl, _, _, hnc, _⟩
      · simp [Builtin.append_, run_underlying ht, sizeOf, typeInfo, hi, Builtin.lenOf, Builtin.firstCells]
      · simp [Builtin.append_, run_underlying ht, sizeOf, typeInfo, hi, Builtin.lenOf, Builtin.firstCells, hnc, storeCells]
  · obtain ⟨sb, so, rfl, _⟩ := hs hy
    obtain ⟨v', w', hr, h2, h3, _, h5⟩ := run_append_own_at (P := P) w base t ty e i0 _ 1 bytes ht hi hz0 hz1 hz2 hz (by omega) v n xs hown ⟨sb, so, none⟩ m c ys (by omega) hs.news h1 (by unfold maxLen; omega) hbb hbase
    exact ⟨v', w', hr, h2, h3, h5⟩
/-- at the list of a plain region's operations -/
theorem wpList_append_reads {ops : Array Oper} {rest : List Oper} {o : Oper} {a : Act} {w : World} {Q : Exit → Act → World → Prop} (hgd : o.guard = none) (s x : Operand) (ht : P.underlying t = some (.slice e)) {z : Value} {bytes : Nat} (hinfo : (P.info? e).map (fun i => (i.zero, i.size, i.bytes)) = some (some z, 1, bytes)) (hz : z.cells.size = 1) (hby : bytes ≤ 1000)
    (ho : o.op = .call { callee := .builtin .append, args := #[s, x], argTypes := #[t, t] }) (base : Nat) (v : Value) (n : Nat) (xs : List Value) (hs : a.eval s = v) (hown : w.ownsRow base e 1 v n xs)
    (src : Option Addr) (m c : Nat) (ys : List Value) (hx : a.eval x = .slice src m c) (hm : ys.length = m) (hsp : Reads w src ys) (h1 : ∀ u ∈ ys, u.oneCell' = true) (hb : n + m ≤ 1000000) (hbase : base ≤ w.heap.size)
    (h : ∀ v' w', w'.ownsRow base e 1 v' (n + m) (xs ++ ys) → w.grownBy w' v.ownBlock → (v'.ownBlock = v.ownBlock ∨ v'.ownBlock = some w.heap.size) → wpList P ops Q rest (a.put o.dst v') w') :
    wpList P ops Q (o :: rest) a w := by
  refine wpList_plain hgd fun K hK => ?_
  obtain ⟨v', w', hr, h2, h3, h5⟩ := append_reads ht hinfo hz hby w base v n xs hown src m c ys hm hsp h1 hb hbase o.type
  unfold Oper.wp execOp
  simp only [ho, resolve, invoke, builtin, Sem.run_bind, Sem.run_pure, Result.andThen_ok, List.map_toArray, List.map_cons, List.map_nil, hs, hx, hr]
  exact hK _ _ (h v' w' h2 h3 h5)
end

/-! ### bytes, integers -/
def bytV (l : List UInt8) : List Value := l.map fun c => .int .u8 (c.toNat : Int)
def intV (l : List Int) : List Value := l.map (Value.int .i64)
theorem bytV_length (l : List UInt8) : (bytV l).length = l.length := by simp [bytV]
theorem intV_length (l : List Int) : (intV l).length = l.length := by simp [intV]
theorem bytV_append (l m : List UInt8) : bytV (l ++ m) = bytV l ++ bytV m := by simp [bytV]
theorem intV_append (l m : List Int) : intV (l ++ m) = intV l ++ intV m := by simp [intV]
theorem bytV_one : ∀ (l : List UInt8) (u : Value), u ∈ bytV l → u.oneCell' = true := by
  intro l u hu
  simp only [bytV, List.mem_map] at hu
  obtain ⟨z, _, rfl⟩ := hu
  rfl
theorem intV_one : ∀ (l : List Int) (u : Value), u ∈ intV l → u.oneCell' = true := by
  intro l u hu
  simp only [intV, List.mem_map] at hu
  obtain ⟨z, _, rfl⟩ := hu
  rfl
theorem bytV_at {l : List UInt8} {k : Nat} (hk : k < l.length) : (bytV l)[k]? = some (.int .u8 ((l[k]?.getD 0).toNat : Int)) := by
  simp [bytV, List.getElem?_eq_getElem hk]
theorem intV_at {l : List Int} {k : Nat} (hk : k < l.length) : (intV l)[k]? = some (.int .i64 (l[k]?.getD 0)) := by
  simp [intV, List.getElem?_eq_getElem hk]
theorem bytV_drop (l : List UInt8) (k : Nat) : (bytV l).drop k = bytV (l.drop k) := by simp [bytV, List.map_drop]
theorem bytV_take (l : List UInt8) (k : Nat) : (bytV l).take k = bytV (l.take k) := by simp [bytV, List.map_take]
abbrev Bytes (w : World) (a : Option Addr) (l : List UInt8) : Prop := Reads w a (bytV l)
abbrev Ints (w : World) (a : Option Addr) (l : List Int) : Prop := Reads w a (intV l)
theorem Reads.byte {w : World} {a : Option Addr} {l : List UInt8} (h : Bytes w a l) {k : Nat} (hk : k < l.length) : ∃ b off, a = some ⟨b, off, none⟩ ∧ w.cell? ⟨b, off + k, none⟩ = some (.int .u8 ((l[k]?.getD 0).toNat : Int)) := by
  obtain ⟨b, off, e, hc⟩ := h.at_ (k := k) (by rw [bytV_length]; exact hk)
  exact ⟨b, off, e, by rw [hc, bytV_at hk]⟩
theorem Reads.int {w : World} {a : Option Addr} {l : List Int} (h : Ints w a l) {k : Nat} (hk : k < l.length) : ∃ b off, a = some ⟨b, off, none⟩ ∧ w.cell? ⟨b, off + k, none⟩ = some (.int .i64 (l[k]?.getD 0)) := by
  obtain ⟨b, off, e, hc⟩ := h.at_ (k := k) (by rw [intV_length]; exact hk)
  exact ⟨b, off, e, by rw [hc, intV_at hk]⟩
theorem push_list : ∀ (l : List UInt8) (s : ByteArray), ((l.map fun c => (c.toNat : Int)).foldl (fun r n => r.push (UInt8.ofNat n.toNat)) s).data.toList = s.data.toList ++ l
  | [], s => by simp
  | c :: l, s => by
    rw [List.map_cons, List.foldl_cons, push_list l]
    have : UInt8.ofNat ((c.toNat : Int)).toNat = c := by simp
    rw [this]
    simp [ByteArray.push]
/-- string(b), whatever the slice of bytes -/
theorem run_string_bytes {P : Program} {S T E : TypeId} (hS : P.underlying S = some (.slice E)) (hE : P.underlying E = some (.int .u8)) (hT : P.underlying T = some .string) (w : World) (a : Option Addr) (l : List UInt8) (n c : Nat) (hn : l.length = n) (h : Bytes w a l) :
    (convert S T (.slice a n c)).run P w = .ok (.string ⟨l.toArray⟩) w := by
  rw [run_convert_bytes_string w S T E a n c hS hE hT]
  subst hn
  cases a with
  | none =>
    have hl : l = [] := by
      apply Classical.byContradiction
      intro hne
      obtain ⟨b, off, e, _⟩ := h (by simpa [bytV] using hne)
      cases e
    subst hl
    simp [Conv.bytesToString, loadCells, loadCellsFrom]
    rfl
  | some ad =>
    have hload : (loadCells ad l.length).run P w = .ok ((l.map fun c => (c.toNat : Int)).map (Value.int .u8)).toArray w := by
      have hl := run_loadCells_list (P := P) w ad ((l.map fun c => (c.toNat : Int)).map (Value.int .u8)) (fun j u hu => by
        have hu' : (bytV l)[j]? = some u := by simpa [bytV] using hu
        obtain ⟨b, off, e, _⟩ := h (by intro e; rw [e] at hu'; simp at hu')
        obtain rfl : ad = ⟨b, off, none⟩ := by simpa using e
        exact h.news j u hu')
      simpa using hl
    rw [run_bytesToString w ad l.length c _ hload]
    congr 2
    apply ByteArray.ext
    apply Array.toList_inj.1
    rw [push_list]
    rfl
/-! ### parts of a slice -/
theorem sliced_reads {w : World} {a : Option Addr} {vs : List Value} (h : Reads w a vs) {i j cap : Nat} (hij : i ≤ j) (hj : j ≤ vs.length) (hc : j ≤ cap) : ∃ p, sliced a i j cap 1 = .slice p (j - i) (cap - i) ∧ Reads w p ((vs.drop i).take (j - i)) := by
  refine ⟨if cap = i then a else a.map (·.add (i * 1)), rfl, ?_⟩
  intro hne
  have hlt : i < j := by
    rcases Nat.lt_or_ge i j with h1 | h1
    · exact h1
    · rw [show j - i = 0 by omega] at hne
      simp at hne
  rw [if_neg (by omega)]
  obtain ⟨b, off, rfl, hcell⟩ := h (by intro e; subst e; simp at hj; omega)
  refine ⟨b, off + i, by simp [Addr.add], fun k hk => ?_⟩
  rw [List.length_take, List.length_drop] at hk
  rw [Nat.add_assoc, hcell (i + k) (by omega), List.getElem?_take, if_pos (by omega), List.getElem?_drop]
section
variable {P : Program} {T : TypeId}
/-- s[i:j] -/
theorem part_mid (hT : P.underlying T = some (.slice (P.elem T))) (hz : ∀ W, (sizeOf (P.elem T)).run P W = .ok 1 W) {w : World} {a : Option Addr} {vs : List Value} (h : Reads w a vs) {n i j cap : Nat} {I J : Int} (hI : (i : Int) = I) (hJ : (j : Int) = J) (hij : i ≤ j) (hj : j ≤ vs.length) (hc : j ≤ cap) :
    ∃ p, (∀ W, (Instr.slice T (.slice a n cap) (some (.int .i64 I)) (some (.int .i64 J)) none).run P W = .ok (.slice p (j - i) (cap - i)) W) ∧ Reads w p ((vs.drop i).take (j - i)) := by
  subst hI hJ
  obtain ⟨p, hp, hr⟩ := sliced_reads h hij hj hc
  refine ⟨p, fun W => ?_, hr⟩
  rw [run_slice_lh W T _ _ _ hT .i64 .i64 i j (by omega) (by omega) (by omega), hz W]
  simp only [Result.andThen, Int.toNat_natCast, hp]
/-- s[i:] -/
theorem part_from (hT : P.underlying T = some (.slice (P.elem T))) (hz : ∀ W, (sizeOf (P.elem T)).run P W = .ok 1 W) {w : World} {a : Option Addr} {vs : List Value} (h : Reads w a vs) {n i cap : Nat} {I : Int} (hI : (i : Int) = I) (hn : vs.length = n) (hi : i ≤ n) (hc : n ≤ cap) :
    ∃ p, (∀ W, (Instr.slice T (.slice a n cap) (some (.int .i64 I)) none none).run P W = .ok (.slice p (n - i) (cap - i)) W) ∧ Reads w p (vs.drop i) := by
  subst hI
  obtain ⟨p, hp, hr⟩ := sliced_reads h hi (by omega) hc
  rw [List.take_of_length_le (by rw [List.length_drop]; omega)] at hr
  refine ⟨p, fun W => ?_, hr⟩
  rw [run_slice_l W T _ _ _ hT .i64 i (by omega) (by omega), hz W]
  simp only [Result.andThen, Int.toNat_natCast, hp]
/-- s[:j] -/
theorem part_upto (hT : P.underlying T = some (.slice (P.elem T))) (hz : ∀ W, (sizeOf (P.elem T)).run P W = .ok 1 W) {w : World} {a : Option Addr} {vs : List Value} (h : Reads w a vs) {n j cap : Nat} {J : Int} (hJ : (j : Int) = J) (hj : j ≤ vs.length) (hc : j ≤ cap) :
    ∃ p, (∀ W, (Instr.slice T (.slice a n cap) none (some (.int .i64 J)) none).run P W = .ok (.slice p j cap) W) ∧ Reads w p (vs.take j) := by
  subst hJ
  obtain ⟨p, hp, hr⟩ := sliced_reads h (Nat.zero_le j) hj hc
  refine ⟨p, fun W => ?_, hr⟩
  rw [run_slice_h W T _ _ _ hT .i64 j (by omega) (by omega), hz W]
  simp only [Result.andThen, Int.toNat_natCast, hp]
  rfl
end
end Go.Proofs.Ytedgcgdgdjilhaa
