/-
  Append onto an owned slice of strings: besides what Strs says, every cell that the old slice shows stays as it was, whether the row moves or not.
-/
import Derived.Test.YtdkhajpkldjlmaaDoorStrs
namespace Go.Proofs.YtdkhajpkldjlmaaDoor
set_option linter.unusedVariables false
set_option linter.unusedSimpArgs false
open Go.RowKit

section
variable {P : Program} {t e : TypeId}
theorem append_keeps (ht : P.underlying t = some (.slice e)) (hinfo : (P.info? e).map (fun i => (i.zero, i.size, i.bytes)) = some (some (.string ByteArray.empty), 1, 16)) (w : World) (base : Nat) (v : Value) (n : Nat) (xs : List ByteArray) (hown : w.ownsRow base e 1 v n (strV xs)) (src : Option Addr) (m c : Nat) (ys : List ByteArray)
    (hm : ys.length = m) (hs : Strs w src ys) (h0 : 0 < m) (hb : n + m ≤ 1000000) (ty : TypeId) {v' : Value} {w' : World}
    (hr : (Builtin.append_ #[t, t] ty #[v, .slice src m c]).run P w = .ok v' w') :
    ∀ (b k : Nat) (u : Value), w.cell? ⟨b, k, none⟩ = some u → (v.ownBlock = some b → k < n) → w'.cell? ⟨b, k, none⟩ = some u := by
  obtain ⟨i0, hi, hz0, hz1, hz2⟩ := info_parts hinfo
  obtain ⟨sb, so, rfl, hsc⟩ := hs (by rintro rfl; simp at hm; omega)
  have hnews := strs_news hs
  have hnl : (strV ys).length = m * i0.size := by rw [strV_length, hm, hz1]; omega
  intro b k u hc hrow
  rcases hown.2 with ⟨rfl, rfl⟩ | ⟨g, cap, cur, rfl, hbg, hg, hnc, hcm, hcs, htake⟩
  · have h := run_append_nil (P := P) w t ty e i0 _ ht hi hz0 ⟨sb, so, none⟩ m c (strV ys) hnl hnews h0 (by omega) (by rw [hz2]; omega)
    rw [hr] at h
    injection h with h1 h2
    subst h2
    exact cellA (show w.drew.cell? _ = _ from hc)
  · by_cases hroom : n + m ≤ cap
    · have h := run_append_room (P := P) w t ty e i0 ht hi g n cap cur hg ⟨sb, so, none⟩ m c (strV ys) hnl hnews (strV_one ys) hroom (by rw [hnl, hz1, hcs]; omega)
      rw [hr] at h
      injection h with h1 h2
      subst h2
      by_cases hbg' : b = g
      · subst hbg'
        have hk := hrow rfl
        rw [cell_setRow_same w b k cur _ e _ hg]
        rw [cell_of_row w b k cur e _ hg] at hc
        have hk2 : k < cur.toList.length := by rw [Array.length_toList, hcs]; omega
        have hk3 : k < (cur.toList.take (n * i0.size)).length := by rw [List.length_take, hz1]; omega
        rw [List.getElem?_toArray, List.append_assoc, List.getElem?_append_left hk3, List.getElem?_take, if_pos (by rw [hz1]; omega), Array.getElem?_toList]
        exact hc
      · rw [cell_setRow_other _ _ _ _ hbg']
        exact hc
    · have h := run_append_grow (P := P) w t ty e i0 _ ht hi hz0 ⟨g, 0, none⟩ n cap (strV xs) (by rw [hz1]; exact hown.1) (hown.cells (g := g) rfl) ⟨sb, so, none⟩ m c (strV ys) hnl hnews (by omega) (by omega) (growslice_fits (by omega) (by rw [hz2]; omega))
      rw [hr] at h
      injection h with h1 h2
      subst h2
      exact cellA (show w.drew.cell? _ = _ from hc)

/-- at the list of a plain region's operations -/
theorem wpList_append_strs2 {ops : Array Oper} {rest : List Oper} {o : Oper} {a : Act} {w : World} {Q : Exit → Act → World → Prop} (hgd : o.guard = none) (s x : Operand) (ht : P.underlying t = some (.slice e)) (hinfo : (P.info? e).map (fun i => (i.zero, i.size, i.bytes)) = some (some (.string ByteArray.empty), 1, 16))
    (ho : o.op = .call { callee := .builtin .append, args := #[s, x], argTypes := #[t, t] }) (base : Nat) (v : Value) (n : Nat) (xs : List ByteArray) (hs : a.eval s = v) (hown : w.ownsRow base e 1 v n (strV xs))
    (src : Option Addr) (m c : Nat) (ys : List ByteArray) (hx : a.eval x = .slice src m c) (hm : ys.length = m) (hsp : Strs w src ys) (h0 : 0 < m) (hb : n + m ≤ 1000000) (hbase : base ≤ w.heap.size)
    (h : ∀ v' w', w'.ownsRow base e 1 v' (n + m) (strV (xs ++ ys)) → w.grownBy w' v.ownBlock → (v'.ownBlock = v.ownBlock ∨ v'.ownBlock = some w.heap.size) →
      Hid (∀ (b k : Nat) (u : Value), w.cell? ⟨b, k, none⟩ = some u → (v.ownBlock = some b → k < n) → w'.cell? ⟨b, k, none⟩ = some u) → wpList P ops Q rest (a.put o.dst v') w') :
    wpList P ops Q (o :: rest) a w := by
  refine wpList_plain hgd fun K hK => ?_
  obtain ⟨v', w', hr, h2, h3, h4, h5⟩ := append_strs ht hinfo w base v n xs hown src m c ys hm hsp hb hbase o.type
  have h6 := Lib.hid (append_keeps ht hinfo w base v n xs hown src m c ys hm hsp h0 hb o.type hr)
  unfold Oper.wp execOp
  simp only [ho, resolve, invoke, builtin, Sem.run_bind, Sem.run_pure, Result.andThen_ok, List.map_toArray, List.map_cons, List.map_nil, hs, hx, hr]
  exact hK _ _ (h v' w' h2 h3 h5 h6)
end
end Go.Proofs.YtdkhajpkldjlmaaDoor
