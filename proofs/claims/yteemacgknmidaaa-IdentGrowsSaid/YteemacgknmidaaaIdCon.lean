/-
  The contracts of the landed package ident: idCon; its sequence: SeqOf, idSeq.
-/
import Derived.Test.YteemacgknmidaaaIdConC
import Derived.Test.YteemacgknmidaaaIdSeq
namespace Go.Proofs.Yteemacgknmidaaa
set_option linter.unusedVariables false
set_option linter.unusedSimpArgs false
open Go.RowKit Go.Shelf
attribute [local go_sem] Oper.semAt_some

theorem idCon : IdCon TabOf where
  lt := tabOf_lt
  keep := tabOf_keep
  valid := valid_tab
  new := new_tab
  add := add_tab
  find := find_tab
  name := name_tab
  len := len_tab
  addNil := add_nil
  findNil := find_nil
  nameNil := name_nil
  lenNil := len_nil

/-- how the sequence's slice lies beside the table at p -/
def Beside (w : World) (p : Addr) (B : Nat) (a : Option Addr) (m : Nat) : Prop :=
  ∃ bp bm vt D lt, p = ⟨bp, 0, none⟩ ∧ TabAt w bp bm vt lt D ∧ ¬ footOf bp bm vt B ∧ m ≤ lt.length ∧ ∀ x, a = some x → x.off = 0 ∧ x.spot = none ∧ x.block ≠ bp ∧ x.block ≠ bm
/-- the function value v yields l (and was made of the table at q) -/
def SeqOf : SeqP := fun w q v l => ∃ B a m c, v = .func (.func 29) #[] #[.pointer (some ⟨B, 0, none⟩)] ∧ w.cell? ⟨B, 0, none⟩ = some (.slice a m c) ∧ l.length = m ∧ m ≤ 1000 ∧ Strs w a l ∧ ∀ p, q = some p → Beside w p B a m

theorem seqOf_keep {w w' : World} {q : Option Addr} {v : Value} {l : List ByteArray} (h : SeqOf w q v l) (hb : Below w.heap.size w w') : SeqOf w' q v l := by
  obtain ⟨B, a, m, c, rfl, hc, hl, hm, hs, hq⟩ := h
  refine ⟨B, a, m, c, rfl, kept hb hc, hl, hm, hs.kept hb, fun p hp => ?_⟩
  obtain ⟨bp, bm, vt, D, lt, rfl, hT, hB, hn, hx⟩ := hq p hp
  exact ⟨bp, bm, vt, D, lt, rfl, tabAt_keep hT (fun k hk => hb.block k (tabOf_lt ⟨bp, bm, vt, D, rfl, rfl, hT⟩ k hk)), hB, hn, hx⟩

theorem tabAt_same {w : World} {bp bm bm' : Nat} {v v' : Value} {l l' : List ByteArray} {D D' : DataW Unit} (h : TabAt w bp bm v l D) (h' : TabAt w bp bm' v' l' D') : bm = bm' ∧ v = v' ∧ l.length = l'.length := by
  have e1 : v = v' := by have := h.names.symm.trans h'.names; simpa using this
  have e2 : bm = bm' := by have := h.numbers.symm.trans h'.numbers; simpa using this
  refine ⟨e2, e1, ?_⟩
  subst e1
  obtain ⟨a, c, e, h1, -⟩ := own_strs h.row
  obtain ⟨a', c', e', h1', -⟩ := own_strs h'.row
  rw [e] at e'
  have : l.length = l'.length := by simpa using (Value.slice.inj e').2.1
  exact this
theorem addS_long (l : List ByteArray) (s : ByteArray) : l.length ≤ (addS l s).1.length := by
  unfold addS
  split
  · split
    · exact Nat.le_refl _
    · simp
  · exact Nat.le_refl _

theorem seqOf_add (p : Addr) (l : List ByteArray) (F : Nat → Prop) (s : ByteArray) (v : Value) (l' : List ByteArray) (w : World) (hT : TabOf w p l F) (hq : SeqOf w (some p) v l') (hb : l.length ≤ 1000) (hs : s.size ≤ 9223372036854775807) :
    Calls Try.prog 17 #[.pointer (some p), .string s] w fun e w' => GivesAdd TabOf w p F (addS l s) e w' ∧ SeqOf w' (some p) v l' := by
  obtain ⟨bp, bm, vt, D, rfl, rfl, hT⟩ := hT
  refine (add_at bp bm vt D l s w hT hb hs).mono ?_
  rintro e w' ⟨rfl, ⟨v', D', hT', hv'⟩, ho, hold⟩
  refine ⟨⟨rfl, ⟨_, ⟨bp, bm, v', D', rfl, rfl, hT'⟩, ?_⟩, ho⟩, ?_⟩
  · rintro k (rfl | rfl | hk)
    · exact Or.inl (Or.inl rfl)
    · exact Or.inl (Or.inr (Or.inl rfl))
    · exact (hv' k hk).imp (fun h => Or.inr (Or.inr h)) id
  · obtain ⟨B, a, m, c, rfl, hc, hl, hm, hst, hp⟩ := hq
    obtain ⟨bp2, bm2, vt2, D2, lt2, e, hT2, hB, hn, hx⟩ := hp _ rfl
    obtain rfl : bp = bp2 := by simpa using e
    obtain ⟨rfl, rfl, hlen⟩ := tabAt_same hT hT2
    have hBlt := World.block_lt_of_cell? _ _ hc
    refine ⟨B, a, m, c, rfl, ho.cell (p := ⟨B, 0, none⟩) hB hc, hl, hm, ?_, ?_⟩
    · intro hne
      obtain ⟨b, off, rfl, hcs⟩ := hst hne
      obtain ⟨h0, -, h2, h3⟩ := hx _ rfl
      simp only [] at h0 h2 h3
      subst h0
      refine ⟨b, 0, rfl, fun k hk => hold b _ _ (hcs k hk) h2 h3 (fun _ => by omega)⟩
    · rintro p hp'
      obtain rfl : (⟨bp, 0, none⟩ : Addr) = p := by simpa using hp'
      refine ⟨bp, bm, v', D', _, rfl, hT', ?_, by have := addS_long l s; omega, hx⟩
      rintro (h | h | h)
      · exact hB (Or.inl h)
      · exact hB (Or.inr (Or.inl h))
      · rcases hv' B h with h | h
        · exact hB (Or.inr (Or.inr h))
        · simp only [] at hBlt
          omega

/-! ### All -/
set_option maxRecDepth 20000 in
set_option maxHeartbeats 2000000 in
theorem all_tab (p : Addr) (l : List ByteArray) (F : Nat → Prop) (w : World) (hT : TabOf w p l F) (hb : l.length ≤ 1000) :
    Calls Try.prog 24 #[.pointer (some p)] w fun e w' => ∃ v, e = .returned v ∧ SeqOf w' (some p) v l ∧ Below w.heap.size w w' := by
  have hTab := hT
  obtain ⟨bp, bm, v, D, rfl, rfl, hT⟩ := hT
  have hlt := tabOf_lt hTab
  have c0 := hT.names
  have c00 := cellA (o := .cells #[.slice none 0 0] 24) c0
  obtain ⟨n, hn⟩ : ∃ n, l.length = n := ⟨_, rfl⟩
  have hrow := hT.row
  rw [hn] at hrow hb
  obtain ⟨a, c, rfl, -, hs⟩ := own_strs hrow
  have Hn := Lib.hid hn
  have hpl : bp < w.heap.size := hlt bp (Or.inl rfl)
  have HTab := Lib.hid hT
  have hrp := hT.rp
  have hrm := hT.rm
  have hform := Lib.hid hrow.2
  clear hTab hn hT hrow
  refine Calls.mono (R := fun e w' => e = .returned (.func (.func 29) #[] #[.pointer (some ⟨w.heap.size, 0, none⟩)]) ∧ w' = w.alloc (.cells #[.slice a n c] 24)) ?_ ?_
  · go_enter Try.func24, Try.ntmps24
    go_wp2
    go_ret
    exact ⟨rfl, rfl⟩
  · rintro e w' ⟨rfl, rfl⟩
    have hB : Below w.heap.size w (w.alloc (.cells #[.slice a n c] 24)) := (Below.refl _ w).alloc (Nat.le_refl _) _
    refine ⟨_, rfl, ⟨w.heap.size, a, n, c, rfl, by simp [go_sem], Hn.out, by omega, hs.kept hB, ?_⟩, hB⟩
    rintro p hp
    obtain rfl : (⟨bp, 0, none⟩ : Addr) = p := by simpa using hp
    refine ⟨bp, bm, _, D, l, rfl, tabAt_keep HTab.out (fun k hk => hB.block k (hlt k hk)), fun h => by have := hlt _ h; omega, by rw [Hn.out]; exact Nat.le_refl _, ?_⟩
    rintro x rfl
    rcases hform.out with ⟨h, -⟩ | ⟨g, cap, cur, hv, -⟩
    · cases h
    · obtain rfl : x = ⟨g, 0, none⟩ := by simpa using (Value.slice.inj hv).1
      exact ⟨rfl, rfl, fun e => hrp (congrArg some e), fun e => hrm (congrArg some e)⟩
theorem all_nil (w : World) :
    Calls Try.prog 24 #[.pointer none] w fun e w' => ∃ v, e = .returned v ∧ SeqOf w' none v [] ∧ Below w.heap.size w w' := by
  refine Calls.mono (R := fun e w' => e = .returned (.func (.func 29) #[] #[.pointer (some ⟨w.heap.size, 0, none⟩)]) ∧ w' = w.alloc (.cells #[.slice none 0 0] 24)) ?_ ?_
  · go_enter Try.func24, Try.ntmps24
    go_wp2
    go_ret
    exact ⟨rfl, rfl⟩
  · rintro e w' ⟨rfl, rfl⟩
    have hB : Below w.heap.size w (w.alloc (.cells #[.slice none 0 0] 24)) := (Below.refl _ w).alloc (Nat.le_refl _) _
    exact ⟨_, rfl, ⟨w.heap.size, none, 0, 0, rfl, by simp [go_sem], rfl, by omega, fun h => absurd rfl h, fun p hp => by cases hp⟩, hB⟩

theorem enum_len (l : List ByteArray) : (enumL l).length = l.length := by simp [enumL]
theorem enum_take (l : List ByteArray) (k : Nat) (hk : k < l.length) : (enumL l).take (k + 1) = (enumL l).take k ++ [(k, l[k]?.getD ByteArray.empty)] := by
  rw [List.take_add_one]
  congr 1
  simp [enumL, hk]
set_option maxRecDepth 100000 in
set_option maxHeartbeats 2000000 in
theorem all1_in (n lp B m c : Nat) (a : Option Addr) (l : List ByteArray) (hn : 1 ≤ n) (hm : l.length = m) (hm2 : m ≤ 1000) (J Jx : List (Nat × ByteArray) → World → Prop) (w0 : World) (hs : Strs w0 a l)
    (hY : ∀ pre x W, J pre W → pre.length < l.length → YieldAt Fence.wide (n - 1) Try.prog lp (encI x) W fun e W' =>
      (e = .returned (.bool true) ∧ J (pre ++ [x]) W' ∧ Below w0.heap.size W W') ∨ (e = .returned (.bool false) ∧ Jx (pre ++ [x]) W'))
    (W : World) (hW : Below w0.heap.size w0 W) (hB : W.cell? ⟨B, 0, none⟩ = some (.slice a m c)) (h0 : J [] W) :
    CallsIn Fence.wide n Try.prog 29 #[.func (.yield lp) #[] #[], .pointer (some ⟨B, 0, none⟩)] W fun e W' => (∃ v, e = .returned v) ∧
      ((∃ ys, ys = enumL l ∧ J ys W') ∨ (∃ pre, pre <+: enumL l ∧ Jx pre W')) := by
  have Hm := Lib.hid hm
  have HY := Lib.hid hY
  clear hm hY
  refine callsIn_of_wp Try.func29 rfl trivial ?_ rfl
  simp only [Try.ntmps29, List.size_toArray, List.length_cons, List.length_nil, Nat.reduceAdd, Nat.reduceSub, Array.replicate_succ, Array.replicate_zero, List.push_toArray, List.append_toArray, List.nil_append, List.cons_append]
  gi_wp2
  gi_loopw [3, 4, 7] (fun _ _ i wr => ∃ k : Nat, k ≤ m ∧ i = .int .i64 k ∧ Below w0.heap.size w0 wr ∧ J ((enumL l).take k) wr) (fun _ _ i _ => m - (intOf i).toNat)
  case atStart =>
    exact ⟨0, Nat.zero_le _, rfl, hW, by simpa using h0⟩
  case round =>
    obtain ⟨k, hk, rfl, hb, hJ⟩ := hrel
    by_cases hlt : k < m
    · have hkl : k < l.length := by rw [Hm.out]; exact hlt
      obtain ⟨b, off, rfl, hc⟩ := (hs.kept hb).at_ (k := k) hkl
      have Ht := Lib.hid (enum_take l k hkl)
      have Hp := Lib.hid (show (enumL l).take (k + 1) <+: enumL l from List.take_prefix _ _)
      obtain ⟨fn, tmps, assign, body, hy, hR⟩ := HY.out _ (k, l[k]?.getD ByteArray.empty) wr hJ (by rw [List.length_take, enum_len]; omega)
      obtain ⟨u, hu⟩ : ∃ u, l[k]?.getD ByteArray.empty = u := ⟨_, rfl⟩
      rw [hu] at hc hy hR Ht
      clear hu hkl
      gi_wp2
      refine hR.mono ?_
      rintro e W3 (⟨rfl, hJ3, hk3⟩ | ⟨rfl, hJx3⟩)
      · rw [← Ht.out] at hJ3
        gi_wp2
        go_roundw
        case rel => exact ⟨k + 1, by omega, by go_num, hb.trans hk3, hJ3⟩
        case measure => simp [intOf]; omega
      · rw [← Ht.out] at hJx3
        gi_wp2
        refine bodyPost_ret (results_none rfl _ _ _) rfl ?_
        exact ⟨⟨_, rfl⟩, .inr ⟨_, Hp.out, hJx3⟩⟩
    · gi_wp2
      go_end0
      refine ⟨⟨_, rfl⟩, .inl ⟨_, rfl, ?_⟩⟩
      have h2 : (enumL l).take k = enumL l := List.take_of_length_le (by rw [enum_len, Hm.out]; omega)
      rwa [h2] at hJ
theorem seqOf_stops {w : World} {q : Option Addr} {v : Value} {l : List ByteArray} (h : SeqOf w q v l) : ∃ gf lb, v = .func (.func gf) #[] lb ∧ Enters Try.prog gf ∧ ∀ n, 8 ≤ n → SeqStopsK Fence.wide n Try.prog gf lb encI (Below w.heap.size) (fun xs => xs = enumL l) (fun pre => pre <+: enumL l) l.length w := by
  obtain ⟨B, a, m, c, rfl, hc, hl, hm, hs, -⟩ := h
  refine ⟨_, _, rfl, enters_of Try.func29 (by kernel_rfl) rfl, fun n hn lp J Jx W hW _ _ hY h0 => ?_⟩
  exact all1_in n lp B m c a l (by omega) hl hm J Jx w hs hY W hW (kept hW hc) h0
theorem idSeq : IdSeq TabOf SeqOf where
  all := all_tab
  allNil := all_nil
  add := seqOf_add
  keep := seqOf_keep
  stops := seqOf_stops
end Go.Proofs.Yteemacgknmidaaa
