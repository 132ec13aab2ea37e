/-
  Walks over the reference of package field: append of one value onto a slice of one's own; Lines.
-/
import Derived.Test.YtdkhajpkldjlmaaDoorFldE
namespace Go.Proofs.YtdkhajpkldjlmaaDoor
set_option linter.unusedVariables false
set_option linter.unusedSimpArgs false
open Go.RowKit

section
variable {P : Program} {t e : TypeId}
/-- append of one value of one cell, that lies in a block of its own, onto a slice of the call's own (at the list of a plain region's operations) -/
theorem wpList_append_val {ops : Array Oper} {rest : List Oper} {o : Oper} {a : Act} {w : World} {Q : Exit → Act → World → Prop} (hgd : o.guard = none) (s x : Operand) (ht : P.underlying t = some (.slice e)) {z : Value} {bytes : Nat} (hinfo : (P.info? e).map (fun i => (i.zero, i.size, i.bytes)) = some (some z, 1, bytes)) (hz : z.cells.size = 1) (hby : bytes ≤ 1000)
    (ho : o.op = .call { callee := .builtin .append, args := #[s, x], argTypes := #[t, t] }) (base : Nat) (v : Value) (n : Nat) (xs : List Value) (hs : a.eval s = v) (hown : w.ownsRow base e 1 v n xs)
    (b m : Nat) (u : Value) (hx : a.eval x = .slice (some ⟨b, 0, none⟩) 1 m) (hc : w.cell? ⟨b, 0, none⟩ = some u) (hu : u.oneCell' = true) (hb : n + 1 ≤ 1000000) (hbase : base ≤ w.heap.size)
    (h : ∀ v' w', w'.ownsRow base e 1 v' (n + 1) (xs ++ [u]) → w.grownBy w' v.ownBlock → (v'.ownBlock = v.ownBlock ∨ v'.ownBlock = some w.heap.size) → wpList P ops Q rest (a.put o.dst v') w') :
    wpList P ops Q (o :: rest) a w := by
  obtain ⟨i0, hi, hz0, hz1, hz2⟩ := info_parts hinfo
  refine wpList_plain hgd fun K hK => ?_
  have hnews : ∀ j y, [u][j]? = some y → w.cell? ((⟨b, 0, none⟩ : Addr).add j) = some y := by
    intro j y hy
    have hj : j = 0 := by
      rcases Nat.lt_or_ge j 1 with h | h
      · omega
      · rw [List.getElem?_eq_none (by simpa using h)] at hy; cases hy
    subst hj
    rw [add_none]
    simp at hy
    subst hy
    exact hc
  obtain ⟨v', w', hr, h2, h3, _, h5⟩ := run_append_own_at (P := P) w base t o.type e i0 _ 1 bytes ht hi hz0 hz1 hz2 hz (by omega) v n xs hown ⟨b, 0, none⟩ 1 m [u] rfl hnews (fun y hy => by rw [List.mem_singleton.1 hy]; exact hu) (by unfold maxLen; omega) (by
    have : (n + 1) * bytes ≤ 1000000 * 1000 := Nat.mul_le_mul hb hby
    omega) hbase
  unfold Oper.wp execOp
  simp only [ho, resolve, invoke, builtin, Sem.run_bind, Sem.run_pure, Result.andThen_ok, List.map_toArray, List.map_cons, List.map_nil, hs, hx, hr]
  exact hK _ _ (h v' w' h2 h3 h5)
end

theorem info_strs : (Tryd.prog.info? 31).map (fun i => (i.zero, i.size, i.bytes)) = some (some (.slice none 0 0), 1, 24) := by kernel_rfl
/-- the values of a row are slices that read as the lists, and lie apart from the row -/
structure Held (w : World) (v : Value) (vals : List Value) (acc : List (List ByteArray)) : Prop where
  len : vals.length = acc.length
  at_ : ∀ k, k < acc.length → ∃ x n c, vals[k]? = some (.slice x n c) ∧ (acc[k]?.getD []).length = n ∧ Strs w x (acc[k]?.getD []) ∧ (acc[k]?.getD [] ≠ [] → ∀ y, x = some y → v.ownBlock ≠ some y.block)
theorem held_nil (w : World) (v : Value) : Held w v [] [] := ⟨rfl, fun k hk => by simp at hk⟩
theorem Held.kept {w w' : World} {v : Value} {vals : List Value} {acc : List (List ByteArray)} (h : Held w v vals acc) (hb : Below w.heap.size w w') : Held w' v vals acc :=
  ⟨h.len, fun k hk => by
    obtain ⟨x, n, c, h1, h2, h3, h4⟩ := h.at_ k hk
    exact ⟨x, n, c, h1, h2, h3.kept hb, h4⟩⟩
theorem strs_grown {w w' : World} {row : Option Nat} {a : Option Addr} {l : List ByteArray} (h : Strs w a l) (hg : w.grownBy w' row) (hr : l ≠ [] → ∀ y, a = some y → row ≠ some y.block) : Strs w' a l := by
  intro hne
  obtain ⟨b, off, rfl, hc⟩ := h hne
  refine ⟨b, off, rfl, fun k hk => ?_⟩
  have hlt := World.block_lt_of_cell? _ _ (hc k hk)
  rw [← hc k hk]
  exact World.cell?_of_block (hg.block b hlt (fun e => hr hne ⟨b, off, none⟩ rfl e.symm))
theorem strs_lt {w : World} {a : Option Addr} {l : List ByteArray} (h : Strs w a l) (hne : l ≠ []) : ∀ y, a = some y → y.block < w.heap.size := by
  obtain ⟨b, off, rfl, hc⟩ := h hne
  intro y hy
  obtain rfl : (⟨b, off, none⟩ : Addr) = y := by simpa using hy
  have hl : 0 < l.length := by
    cases l with
    | nil => exact absurd rfl hne
    | cons _ _ => simp
  exact World.block_lt_of_cell? _ _ (hc 0 hl)
/-- the values behind an append of one more -/
theorem Held.more {w w' : World} {v v' : Value} {vals : List Value} {acc : List (List ByteArray)} {x : Option Addr} {n c : Nat} {l : List ByteArray} (h : Held w v vals acc) (hg : w.grownBy w' v.ownBlock) (hv : v'.ownBlock = v.ownBlock ∨ v'.ownBlock = some w.heap.size)
    (hn : l.length = n) (hl : Strs w x l) (hx : l ≠ [] → ∀ y, x = some y → v.ownBlock ≠ some y.block) : Held w' v' (vals ++ [.slice x n c]) (acc ++ [l]) := by
  have sep : ∀ (b : Nat), v.ownBlock ≠ some b → b < w.heap.size → v'.ownBlock ≠ some b := by
    intro b h1 h2 e
    rcases hv with hv | hv
    · exact h1 (hv.symm.trans e)
    · rw [hv] at e
      have := Option.some.inj e
      omega
  refine ⟨by simp [h.len], fun k hk => ?_⟩
  by_cases hka : k < acc.length
  · obtain ⟨y, m, d, h1, h2, h3, h4⟩ := h.at_ k hka
    have hkv : k < vals.length := by rw [h.len]; exact hka
    have e : (acc ++ [l])[k]? = acc[k]? := List.getElem?_append_left hka
    rw [e]
    exact ⟨y, m, d, by rw [List.getElem?_append_left hkv]; exact h1, h2, strs_grown h3 hg h4, fun hne z hz => sep _ (h4 hne z hz) (strs_lt h3 hne z hz)⟩
  · have hk2 : k = acc.length := by simp at hk; omega
    subst hk2
    have e : (acc ++ [l])[acc.length]?.getD [] = l := by simp
    rw [e]
    exact ⟨x, n, c, by rw [← h.len]; simp, hn, strs_grown hl hg hx, fun hne z hz => sep _ (hx hne z hz) (strs_lt hl hne z hz)⟩
theorem own_strss {w : World} {base : Nat} {e : TypeId} {v : Value} {n : Nat} {vals : List Value} {acc : List (List ByteArray)} (h : w.ownsRow base e 1 v n vals) (hh : Held w v vals acc) : ∃ a cap, v = .slice a n cap ∧ acc.length = n ∧ Strss w a acc ∧ ∀ x, a = some x → base ≤ x.block ∧ x.block < w.heap.size := by
  have hl : acc.length = n := by have := h.1; rw [← hh.len]; omega
  rcases h.2 with ⟨rfl, rfl⟩ | ⟨g, cap, cur, rfl, hb, hg, _⟩
  · exact ⟨none, 0, rfl, hl, fun hne => absurd (List.length_eq_zero_iff.1 hl) hne, fun x hx => by cases hx⟩
  · refine ⟨_, cap, rfl, hl, fun _ => ⟨g, 0, rfl, fun k hk => ?_⟩, fun x hx => by cases hx; exact ⟨hb, (Array.getElem?_eq_some_iff.1 hg).1⟩⟩
    obtain ⟨x, m, d, h1, h2, h3, _⟩ := hh.at_ k hk
    refine ⟨x, m, d, ?_, h2, h3⟩
    rw [Nat.zero_add, h.cellAt k (by omega)]
    exact h1
/-- a call that gives back a new list of lists and an error -/
def GivesStrss (w : World) (r : List (List (List UInt8)) × Int) (e : Ending) (w' : World) : Prop :=
  ∃ b c ls, e = .returned (.tuple #[.slice b ls.length c, .int .i64 r.2]) ∧ ls.map B = r.1 ∧ Strss w' b ls ∧ (∀ x, b = some x → w.heap.size ≤ x.block ∧ x.block < w'.heap.size) ∧ Below w.heap.size w w'
theorem linesA_char {c : UInt8} (h : c.toNat ≠ 10) (done : List (List (List UInt8))) (acc r : List UInt8) : linesA done acc (c :: r) = linesA done (acc ++ [c]) r := by rw [linesA, if_neg h]
theorem linesA_feed {c : UInt8} (h : c.toNat = 10) (done : List (List (List UInt8))) (acc r : List UInt8) : linesA done acc (c :: r) = if keepL acc then (if (splitL acc).2 = 0 then linesA (done ++ [(splitL acc).1]) [] r else ([], (splitL acc).2)) else linesA done [] r := by rw [linesA, if_pos h]
theorem mid_at (s : ByteArray) (f k : Nat) (hf : f ≤ k) (hk : k ≤ s.size) : ∃ a : ByteArray, a.data.toList = (s.data.toList.drop f).take (k - f) ∧ a.size = k - f ∧
    ∀ W, (Instr.slice 9 (.string s) (some (.int .i64 (f : Int))) (some (.int .i64 (k : Int))) none).run Tryd.prog W = .ok (.string a) W := by
  refine ⟨s.extract f k, ext_data _ _ _, ext_size _ _ _ hk, fun W => ?_⟩
  rw [run_slice_string _ _ _ _ _ _ _ Tryd.underlying9 (by omega) (by omega) (by omega)]
  rfl
theorem cur_snoc (s : ByteArray) (f k : Nat) (hf : f ≤ k) (hk : k < s.size) : (s.data.toList.drop f).take (k + 1 - f) = (s.data.toList.drop f).take (k - f) ++ [s[k]'hk] := by
  have h : k < s.data.toList.length := by simpa using hk
  rw [show k + 1 - f = (k - f) + 1 by omega, List.take_add_one, List.getElem?_drop, show f + (k - f) = k by omega, List.getElem?_eq_getElem h]
  rfl
theorem keep_is (a : ByteArray) (l : List UInt8) (h : a.data.toList = l) : (a.size = 0 → keepL l = false) ∧ ∀ h0 : 0 < a.size, keepL l = !decide ((a[0]'h0).toNat = 35) := by
  subst h
  refine ⟨fun h => ?_, fun h0 => ?_⟩
  · obtain rfl := is_empty h; rfl
  · have := tail_at a 0 h0
    rw [List.drop_zero] at this
    rw [this]
    rfl
theorem ends_is (s : ByteArray) : (s.size = 0 → endsL s.data.toList = true) ∧ ∀ h : s.size - 1 < s.size, endsL s.data.toList = decide ((s[s.size - 1]'h).toNat = 10) := by
  refine ⟨fun h => ?_, fun h => ?_⟩
  · obtain rfl := is_empty h; rfl
  · unfold endsL
    have hl : s.size - 1 < s.data.toList.length := h
    have e : s.data.toList.length = s.size := rfl
    rw [List.getLast?_eq_getElem?, e, List.getElem?_eq_getElem hl]
    rfl
end Go.Proofs.YtdkhajpkldjlmaaDoor
