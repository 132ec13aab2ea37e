/-
  append onto a slice of intervals that the call owns; Sum of a list that is turned round.
-/
import Derived.Test.YtnehmkdcifgpnaaSpanW
import Derived.Test.YtnehmkdcifgpnaaOpen
import Derived.OwnWalk
import Derived.Deep.AppendLies
import Derived.Deep.AppendSrc
namespace Go.Proofs.Ytnehmkdcifgpnaa
open Go.RowKit

theorem info_of_span : (Try.prog.info? 23).map (fun i => (i.zero, i.size, i.bytes)) = some (some (.agg #[.int .i64 0, .int .i64 0]), 2, 16) := by kernel_rfl

/-- the cells of a list of intervals -/
def flat (l : List (Int × Int)) : List Value := l.flatMap fun z => [.int .i64 z.1, .int .i64 z.2]
theorem flat_length (l : List (Int × Int)) : (flat l).length = l.length * 2 := by
  induction l with
  | nil => rfl
  | cons z l ih => simp [flat] at *; omega
theorem flat_append (l m : List (Int × Int)) : flat (l ++ m) = flat l ++ flat m := by simp [flat]
theorem flat_one : ∀ (l : List (Int × Int)) (u : Value), u ∈ flat l → u.oneCell' = true := by
  intro l u hu
  simp only [flat, List.mem_flatMap] at hu
  obtain ⟨z, _, hz⟩ := hu
  simp at hz
  rcases hz with rfl | rfl <;> rfl
theorem flat_at : ∀ (l : List (Int × Int)) (k : Nat), k < l.length → (flat l)[k * 2]? = some (.int .i64 (l[k]?.getD (0, 0)).1) ∧ (flat l)[k * 2 + 1]? = some (.int .i64 (l[k]?.getD (0, 0)).2)
  | [], k, h => by simp at h
  | z :: l, 0, _ => by simp [flat]
  | z :: l, k + 1, h => by
    have ih := flat_at l k (by simpa using h)
    have e : flat (z :: l) = .int .i64 z.1 :: .int .i64 z.2 :: flat l := by simp [flat]
    rw [e, show (k + 1) * 2 = k * 2 + 1 + 1 by omega]
    simpa using ih

theorem add_none (b off j : Nat) : (Addr.add ⟨b, off, none⟩ j) = ⟨b, off + j, none⟩ := by unfold Addr.add; split <;> simp_all

theorem spans_news {w : World} {b off : Nat} {l : List (Int × Int)} (h : Spans w (some ⟨b, off, none⟩) l) : ∀ j u, (flat l)[j]? = some u → w.cell? ((⟨b, off, none⟩ : Addr).add j) = some u := by
  intro j u hu
  have hj : j < (flat l).length := by
    rcases Nat.lt_or_ge j (flat l).length with h | h
    · exact h
    · rw [List.getElem?_eq_none h] at hu; cases hu
  rw [flat_length] at hj
  have hk : j / 2 < l.length := by omega
  obtain ⟨b', off', e, hc⟩ := h (by intro e; subst e; simp at hk)
  obtain ⟨rfl, rfl⟩ : b = b' ∧ off = off' := by simpa using e
  have hf := flat_at l (j / 2) hk
  have hcc := hc (j / 2) hk
  rw [add_none]
  rcases Nat.mod_two_eq_zero_or_one j with hm | hm
  · have ej : j = j / 2 * 2 := by omega
    rw [ej] at hu
    rw [hf.1] at hu
    rw [show off + j = off + j / 2 * 2 by omega, hcc.1]
    exact hu
  · have ej : j = j / 2 * 2 + 1 := by omega
    rw [ej] at hu
    rw [hf.2] at hu
    rw [show off + j = off + j / 2 * 2 + 1 by omega, hcc.2]
    exact hu

theorem own_spans {w : World} {base : Nat} {v : Value} {n : Nat} {l : List (Int × Int)} (h : w.ownsRow base 23 2 v n (flat l)) : ∃ a cap, v = .slice a n cap ∧ l.length = n ∧ Spans w a l := by
  have hl : l.length = n := by have := h.1; rw [flat_length] at this; omega
  rcases h.2 with ⟨rfl, rfl⟩ | ⟨g, cap, cur, rfl, _, hg, _⟩
  · exact ⟨none, 0, rfl, hl, fun hne => absurd (List.length_eq_zero_iff.1 hl) hne⟩
  · refine ⟨_, cap, rfl, hl, fun _ => ⟨g, 0, rfl, fun k hk => ?_⟩⟩
    have hf := flat_at l k hk
    rw [Nat.zero_add]
    rw [h.cellAt (k * 2) (by omega), h.cellAt (k * 2 + 1) (by omega)]
    exact hf

theorem append_spans (w : World) (base : Nat) (v : Value) (n : Nat) (xs : List (Int × Int)) (hown : w.ownsRow base 23 2 v n (flat xs)) (hv : v ≠ .slice none 0 0) (src : Option Addr) (m c : Nat) (ys : List (Int × Int))
    (hm : ys.length = m) (hs : Spans w src ys) (h0 : src = none → c = 0) (hb : n + m ≤ 1000000) (hbase : base ≤ w.heap.size) (ty : TypeId) :
    ∃ v' w', (Builtin.append_ #[31, 31] ty #[v, .slice src m c]).run Try.prog w = .ok v' w' ∧ w'.ownsRow base 23 2 v' (n + m) (flat (xs ++ ys)) ∧ w.grownBy w' v.ownBlock ∧
      v' ≠ .slice none 0 0 ∧ (v'.ownBlock = v.ownBlock ∨ v'.ownBlock = some w.heap.size) := by
  obtain ⟨i0, hi, hz0, hz1, hz2⟩ := info_parts info_of_span
  cases src with
  | some ad =>
    have hnews : ∀ j u, (flat ys)[j]? = some u → w.cell? (ad.add j) = some u := by
      by_cases hy : ys = []
      · subst hy; intro j u hu; simp [flat] at hu
      · obtain ⟨b, off, e, _⟩ := hs hy
        obtain rfl : ad = ⟨b, off, none⟩ := by simpa using e
        exact spans_news hs
    obtain ⟨v', w', h1, h2, h3, h4, h5⟩ := run_append_own_at (P := Try.prog) w base 31 ty 23 i0 _ 2 16 Try.underlying31 hi hz0 hz1 hz2 rfl (by omega) v n (flat xs) hown ad m c (flat ys) (by rw [flat_length, hm]) hnews (flat_one ys) (by unfold maxLen; omega) (by omega) hbase
    exact ⟨v', w', h1, by rw [flat_append]; exact h2, h3, fun e => hv (h4.1 e).1, h5⟩
  | none =>
    have hy : ys = [] := by
      apply Classical.byContradiction
      intro hne
      obtain ⟨b, off, e, _⟩ := hs hne
      cases e
    subst hy
    obtain rfl : m = 0 := hm.symm
    obtain rfl := h0 rfl
    rcases hown.2 with ⟨e, _⟩ | ⟨g, cap, cur, rfl, hbg, hg, hnc, hcm, hcs, htake⟩
    · exact absurd e hv
    · have hr := run_append_room_src (P := Try.prog) w 31 31 ty 23 i0 Try.underlying31 hi g 0 n cap _ 0 [] (Src.ofNil w Try.underlying31 0) (by omega) (by simp) (by simp)
      refine ⟨_, _, hr, ?_, ?_, by simp, Or.inl rfl⟩
      · simpa [World.setCells] using hown
      · exact ⟨rfl, rfl, rfl, Nat.le_refl _, fun _ _ _ => rfl⟩

/-- at a step of a region that draws its order -/
theorem step_append_spans {ops : Array Oper} {o : Oper} {a : Act} {w : World} {K : Act → World → Prop} {Q : Exit → Act → World → Prop} {E : Prop} (hgd : o.guard = none) (s x : Operand)
    (ho : o.op = .call { callee := .builtin .append, args := #[s, x], argTypes := #[31, 31] }) (base : Nat) (v : Value) (n : Nat) (xs : List (Int × Int)) (hs : a.eval s = v) (hown : w.ownsRow base 23 2 v n (flat xs)) (hv : v ≠ .slice none 0 0)
    (src : Option Addr) (m c : Nat) (ys : List (Int × Int)) (hx : a.eval x = .slice src m c) (hm : ys.length = m) (hsp : Spans w src ys) (h0 : src = none → c = 0) (hb : n + m ≤ 1000000) (hbase : base ≤ w.heap.size)
    (h : ∀ v' w', w'.ownsRow base 23 2 v' (n + m) (flat (xs ++ ys)) → w.grownBy w' v.ownBlock → v' ≠ .slice none 0 0 → (v'.ownBlock = v.ownBlock ∨ v'.ownBlock = some w.heap.size) → K (a.put o.dst v') w') :
    if Region.wanted o (yielded ops a.tmps) = true then Oper.wp Try.prog o a w K Q else E := by
  have hw : Region.wanted o (yielded ops a.tmps) = true := by simp [Region.wanted, hgd]
  rw [if_pos hw]
  obtain ⟨v', w', hr, h2, h3, h4, h5⟩ := append_spans w base v n xs hown hv src m c ys hm hsp h0 hb hbase o.type
  unfold Oper.wp execOp
  simp only [ho, resolve, invoke, builtin, Sem.run_bind, Sem.run_pure, Result.andThen_ok, List.map_toArray, List.map_cons, List.map_nil, hs, hx, hr]
  exact h v' w' h2 h3 h4 h5

theorem allV_turned (l : List (Int × Int)) (k : Nat) : allV (l.drop k ++ l.take k) = allV l := by
  have h : allV l = allV (l.take k ++ l.drop k) := by rw [List.take_append_drop]
  rw [h]
  unfold allV
  rw [List.all_append, List.all_append, Bool.and_comm]
theorem loSum_app (l m : List (Int × Int)) : loSum (l ++ m) = loSum l + loSum m := by simp [loSum]
theorem hiSum_app (l m : List (Int × Int)) : hiSum (l ++ m) = hiSum l + hiSum m := by simp [hiSum]
theorem sumV_turned (l : List (Int × Int)) (k : Nat) : sumV (l.drop k ++ l.take k) = sumV l := by
  have hlen : (l.drop k ++ l.take k).length = l.length := by simp; omega
  have e1 : loSum (l.drop k ++ l.take k) = loSum l := by
    rw [loSum_app, Int.add_comm, ← loSum_app, List.take_append_drop]
  have e2 : hiSum (l.drop k ++ l.take k) = hiSum l := by
    rw [hiSum_app, Int.add_comm, ← hiSum_app, List.take_append_drop]
  unfold sumV
  rw [hlen, allV_turned, e1, e2]
theorem sumV_ok {l : List (Int × Int)} {X Y : Int} (h : sumV l = (X, Y, 0)) : allV l = true ∧ vB X Y = true ∧ loSum l = X ∧ hiSum l = Y := by
  unfold sumV at h
  by_cases hb : 65536 < l.length
  · rw [if_pos hb] at h; simp at h
  · rw [if_neg hb] at h
    cases hv : allV l
    · simp [hv] at h
    · simp [hv, chkV] at h
      cases hc : vB (loSum l) (hiSum l)
      · simp [hc] at h
      · simp [hc] at h
        obtain ⟨rfl, rfl⟩ := h
        exact ⟨rfl, hc, rfl, rfl⟩
theorem sumV_parts {l : List (Int × Int)} {k : Nat} {X Y P Q R S : Int} (h : sumV l = (X, Y, 0)) (h1 : sumV (l.take k) = (P, Q, 0)) (h2 : sumV (l.drop k) = (R, S, 0)) : addV P Q R S = (X, Y, 0) := by
  have g := sumV_ok h
  have g1 := sumV_ok h1
  have g2 := sumV_ok h2
  have e1 : P + R = X := by rw [← g.2.2.1, ← g1.2.2.1, ← g2.2.2.1, ← loSum_app, List.take_append_drop]
  have e2 : Q + S = Y := by rw [← g.2.2.2, ← g1.2.2.2, ← g2.2.2.2, ← hiSum_app, List.take_append_drop]
  unfold addV
  rw [g1.2.1, g2.2.1, e1, e2]
  simp [chkV, g.2.1]
theorem sum_is {l : List (Int × Int)} {X Y e : Int} (h : sumV l = (X, Y, e)) (s : Option Addr) (n cap : Nat) (w : World) (hn : l.length = n) (hb : n ≤ 1000000) (hl : Spans w s l) :
    Calls Try.prog 22 #[.slice s n cap] w fun r w' => r = .returned (.tuple #[.agg #[.int .i64 X, .int .i64 Y], .int .i64 e]) ∧ Below w.heap.size w w' := by
  have := sum_any s l n cap w hn hb hl
  rwa [h] at this
end Go.Proofs.Ytnehmkdcifgpnaa
