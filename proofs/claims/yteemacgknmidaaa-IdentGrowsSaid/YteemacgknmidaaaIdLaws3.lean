/-
  Walks over the laws of package ident: Table.
-/
import Derived.Test.YteemacgknmidaaaIdLaws2
namespace Go.Proofs.Yteemacgknmidaaa
set_option linter.unusedVariables false
set_option linter.unusedSimpArgs false
open Go.RowKit

theorem own_only {F : Nat → Prop} {w w' : World} {base : Nat} {e : TypeId} {size : Nat} {v : Value} {n : Nat} {xs : List Value} (h : w.ownsRow base e size v n xs) (ho : Only F w w') (hF : ∀ g, v.ownBlock = some g → ¬ F g) : w'.ownsRow base e size v n xs := by
  refine ⟨h.1, ?_⟩
  rcases h.2 with h0 | ⟨g, cap, cur, hv, hb, hg, rest⟩
  · exact .inl h0
  · refine .inr ⟨g, cap, cur, hv, hb, ?_, rest⟩
    rw [ho.block g (Array.getElem?_eq_some_iff.1 hg).1 (hF g (by rw [hv]; rfl))]
    exact hg
theorem own_keep {w w' : World} {base : Nat} {e : TypeId} {size : Nat} {v : Value} {n : Nat} {xs : List Value} (h : w.ownsRow base e size v n xs) (hb : Below w.heap.size w w') : w'.ownsRow base e size v n xs := by
  refine ⟨h.1, ?_⟩
  rcases h.2 with hn | ⟨g, cap, cur, hv, hbg, hg, r⟩
  · exact .inl hn
  · refine .inr ⟨g, cap, cur, hv, hbg, ?_, r⟩
    rw [hb.block g (Array.getElem?_eq_some_iff.1 hg).1]
    exact hg
theorem addS_three (l : List ByteArray) (s : ByteArray) : (idB s = true ∧ addS l s = (l ++ [s], (l.length : Int), 0)) ∨ (idB s = true ∧ addS l s = (l, 0, 6)) ∨ (idB s = false ∧ addS l s = (l, 0, 5)) := by
  unfold addS
  cases hv : idB s
  · exact Or.inr (Or.inr ⟨rfl, rfl⟩)
  · cases hf : (findS l s).2
    · exact Or.inl ⟨rfl, by simp⟩
    · exact Or.inr (Or.inl ⟨rfl, by simp⟩)
/-- what the table and the names hold between two rounds -/
structure TabIn (Tab : TabP) (w0 wr : World) (p : Addr) (v : Value) (r : List ByteArray) (m : Nat) (F : Nat → Prop) : Prop where
  len : r.length = m
  dis : distinct r
  sz : ∀ s ∈ r, s.size ≤ 9223372036854775807
  tab : Tab wr p r F
  far : ∀ b, F b → w0.heap.size ≤ b
  own : wr.ownsRow w0.heap.size 9 1 v m (strV r)
  off : ∀ g, v.ownBlock = some g → ¬ F g
  below : Below w0.heap.size w0 wr
theorem distinct_snoc {l : List ByteArray} {s : ByteArray} {i : Int} (h : distinct l) (e : addS l s = (l ++ [s], i, 0)) : distinct (l ++ [s]) := by
  have := addS_distinct h s
  rwa [e] at this

section
variable {Tab : TabP} (K : IdCon Tab)
include K
/-- an addition that adds nothing -/
theorem TabIn.same {w0 wr w4 : World} {p : Addr} {v : Value} {r : List ByteArray} {m : Nat} {F F' : Nat → Prop} (h : TabIn Tab w0 wr p v r m F) (hT : Tab w4 p r F') (hF : ∀ k, F' k → F k ∨ wr.heap.size ≤ k) (ho : Only F wr w4) : TabIn Tab w0 w4 p v r m F' := by
  have _ := K
  refine ⟨h.len, h.dis, h.sz, hT, ?_, own_only h.own ho h.off, ?_, h.below.trans (ho.below h.below.size h.far)⟩
  · intro b hb
    rcases hF b hb with h1 | h1
    · exact h.far b h1
    · have := h.below.size; omega
  · intro g hg hf
    rcases hF g hf with h1 | h1
    · exact h.off g hg h1
    · have := (h.own.lt g hg).2; omega
/-- an addition, and the name appended -/
theorem TabIn.more {w0 wr w4 w6 : World} {p : Addr} {v v6 : Value} {r : List ByteArray} {u : ByteArray} {m : Nat} {F F' : Nat → Prop} {o : Obj} {i : Int} (h : TabIn Tab w0 wr p v r m F) (hT : Tab w4 p (r ++ [u]) F') (hF : ∀ k, F' k → F k ∨ wr.heap.size ≤ k) (ho : Only F wr w4)
    (e : addS r u = (r ++ [u], i, 0)) (hu : u.size ≤ 9223372036854775807) (o6 : w6.ownsRow w0.heap.size 9 1 v6 (m + 1) (strV (r ++ [u]))) (g6 : (w4.alloc o).grownBy w6 v.ownBlock) (e6 : v6.ownBlock = v.ownBlock ∨ v6.ownBlock = some (w4.alloc o).heap.size) : TabIn Tab w0 w6 p v6 (r ++ [u]) (m + 1) F' := by
  have hno : ∀ g, v.ownBlock = some g → ¬ F' g := by
    intro g hg hf
    rcases hF g hf with h1 | h1
    · exact h.off g hg h1
    · have := (h.own.lt g hg).2; omega
  have hlt := K.lt hT
  have hb4 := h.below.trans (ho.below h.below.size h.far)
  have hs6 : w4.heap.size + 1 ≤ w6.heap.size := by have := g6.size; simpa using this
  refine ⟨by simp [h.len], distinct_snoc h.dis e, ?_, K.keep hT (by omega) ?_, ?_, o6, ?_, ?_⟩
  · intro s hs
    simp at hs
    rcases hs with hs | rfl
    · exact h.sz s hs
    · exact hu
  · intro k hk
    have hk4 := hlt k hk
    rw [g6.block k (by simp; omega) (fun e => hno k e.symm hk)]
    exact ((Below.refl w4.heap.size w4).alloc (Nat.le_refl _) o).block k hk4
  · intro b hb
    rcases hF b hb with h1 | h1
    · exact h.far b h1
    · have := h.below.size; omega
  · intro g hg hf
    rcases e6 with e6 | e6
    · exact hno g (by rw [← e6]; exact hg) hf
    · rw [e6] at hg
      have := hlt g hf
      simp at hg
      omega
  · exact ((hb4.alloc hb4.size o)).grown g6 (by simp; have := hb4.size; omega) (fun k hk => (h.own.lt k hk).1)

set_option maxRecDepth 100000 in
set_option maxHeartbeats 16000000 in
theorem identTable_of (a : Option Addr) (l : List ByteArray) (n cap : Nat) (s : ByteArray) (q : Int) (w : World) (hn : l.length = n) (hl : Strs w a l) (hsz : ∀ s ∈ l, s.size ≤ maxLen) (hnm : n ≤ maxLen) (hs : s.size ≤ maxLen) :
    Calls Try.prog 6 #[.slice a n cap, .string s, .int .i64 q] w fun e w' => e = .returned (.bool true) ∧ Below w.heap.size w w' := by
  have Hn := Lib.hid hn
  have Hsz := Lib.hid hsz
  have Hsz2 := Lib.hid (show ∀ s ∈ l, s.size ≤ 9223372036854775807 from fun s hs => by have := hsz s hs; unfold maxLen at this; omega)
  clear hn hsz
  have hsh := short_any a l n cap 60 w Hn.out (by omega) Hsz.out hl hnm
  unfold maxLen at hs
  cases hq : shortB l 60
  · rw [hq] at hsh
    have HS := Lib.hid hsh
    clear hsh hq
    go_enter Try.func6, Try.ntmps6
    go_wp2_with fail
    refine HS.out.mono ?_
    rintro e w1 ⟨rfl, rfl⟩
    go_wp2_with fail
    refine (idAwake_any K _).mono ?_
    rintro e w3 ⟨rfl, hb3⟩
    go_wp2
    go_ret
    exact ⟨rfl, by (repeat' first | with_reducible assumption | exact Below.refl _ _ | with_reducible refine Below.drew ?_ | with_reducible refine Below.drewN ?_ _ | with_reducible refine Below.alloc' ?_ _ | with_reducible refine Below.setCell ?_ (by first | exact Nat.le_refl _ | omega | (simp; done) | (simp; omega)) _ | with_reducible refine Below.after ?_ ‹_›)⟩
  · rw [hq] at hsh
    have HS := Lib.hid hsh
    have hn60 : n ≤ 60 := by
      unfold shortB at hq
      simp at hq
      have := hq.1
      rw [Hn.out] at this
      omega
    clear hsh hq
    by_cases hs2 : 200 < s.size
    · go_enter Try.func6, Try.ntmps6
      go_wp2_with fail
      refine HS.out.mono ?_
      rintro e w1 ⟨rfl, rfl⟩
      go_wp2_with fail
      refine (idAwake_any K _).mono ?_
      rintro e w3 ⟨rfl, hb3⟩
      go_wp2
      go_ret
      exact ⟨rfl, by (repeat' first | with_reducible assumption | exact Below.refl _ _ | with_reducible refine Below.drew ?_ | with_reducible refine Below.drewN ?_ _ | with_reducible refine Below.alloc' ?_ _ | with_reducible refine Below.setCell ?_ (by first | exact Nat.le_refl _ | omega | (simp; done) | (simp; omega)) _ | with_reducible refine Below.after ?_ ‹_›)⟩
    · have hs3 : s.size ≤ 200 := by omega
      clear hs2
      have E0 := Lib.hid (show newS [] [] = (([] : List ByteArray), 0) from rfl)
      go_enter Try.func6, Try.ntmps6
      go_wp2_with fail
      refine HS.out.mono ?_
      rintro e w1 ⟨rfl, rfl⟩
      go_wp2_with fail
      refine (K.new_yes E0.out none 0 0 _ rfl (by decide) (fun h => absurd rfl h) (fun s hs => by simp at hs)).mono ?_
      rintro e w2 ⟨p, F0, rfl, hT0, hF0, hb2⟩
      go_wp2_with fail
      refine (K.len p [] F0 0 _ hT0 rfl (by decide)).mono ?_
      rintro e w3 ⟨rfl, hb3⟩
      have hT0 := K.on hT0 hb3
      have hbw : Below w.heap.size w w3 := by (repeat' first | with_reducible assumption | exact Below.refl _ _ | with_reducible refine Below.drew ?_ | with_reducible refine Below.drewN ?_ _ | with_reducible refine Below.alloc' ?_ _ | with_reducible refine Below.setCell ?_ (by first | exact Nat.le_refl _ | omega | (simp; done) | (simp; omega)) _ | with_reducible refine Below.after ?_ ‹_›)
      go_wp2
      go_loopw [9, 10, 11, 12] (fun v i _ _ wr => ∃ (k : Nat) (r : List ByteArray) (m : Nat) (F : Nat → Prop), k ≤ n ∧ i = .int .i64 k ∧ m ≤ k ∧ TabIn Tab w wr p v r m F) (fun _ i _ _ _ => n - (intOf i).toNat)
      case atStart => exact ⟨0, [], 0, F0, Nat.zero_le _, rfl, Nat.le_refl _, rfl, (fun i j _ hj => by simp at hj), (fun s hs => by simp at hs), hT0, hF0, World.ownsRow_nil _ _ _ _, (fun g hg => by simp [Value.ownBlock] at hg), hbw⟩
      case round =>
        obtain ⟨k, r, m, F, hk, rfl, hm, hI⟩ := hrel
        obtain ⟨b2, c2, rfl, hml, hst⟩ := own_strs hI.own
        have hbr := hI.below
        have hT := hI.tab
        have Hbl := Lib.hid (show r.length ≤ 1000 by rw [hml]; omega)
        by_cases hlt : k < n
        · obtain ⟨b', off, rfl, hc0⟩ := hl.at_ (k := k) (by rw [Hn.out]; exact hlt)
          have hu := Hsz2.out (l[k]?.getD ByteArray.empty) (by
            have hkl : k < l.length := by rw [Hn.out]; exact hlt
            rw [List.getElem?_eq_getElem hkl]; exact List.getElem_mem hkl)
          obtain ⟨u, hu2⟩ : ∃ u, l[k]?.getD ByteArray.empty = u := ⟨_, rfl⟩
          rw [hu2] at hc0 hu
          clear hu2
          have hc := kept hbr hc0
          rcases addS_three r u with ⟨hv, hy⟩ | ⟨hv, hy⟩ | ⟨hv, hy⟩
          · rw [hml] at hy
            have HV := Lib.hid hv
            have HY := Lib.hid hy
            clear hv hy
            go_wp2_with fail
            refine (K.add_is HY.out _ hT Hbl.out hu).mono ?_
            rintro e w4 ⟨rfl, F', hT', hF', ho⟩
            have hI4 := own_only hI.own ho hI.off
            have hc4 := kept (hbr.trans (ho.below hbr.size hI.far)) hc0
            have hz4 := (hbr.trans (ho.below hbr.size hI.far)).size
            go_wp2_with fail
            refine (rValid_is HV.out _ hu).mono ?_
            rintro e w5 ⟨rfl, rfl⟩
            go_wp2_with (at_builtin; refine wpList_append_strs rfl (.tmp 79) (.tmp 84) Try.underlying24 info_string rfl w.heap.size (.slice b2 m c2) m r rfl (hI4.alloc _) _ _ _ [u] rfl rfl (Strs_one _ _ _ (by simp)) (by omega) (by simp; omega) ?_; intro v6 w6 o6 g6 _ e6; have hJ := hI.more K hT' hF' ho HY.out hu o6 g6 e6; clear g6 e6)
            go_roundw
            case rel => exact ⟨k + 1, r ++ [u], m + 1, F', by omega, by go_num, by omega, hJ⟩
            case measure => simp [intOf]; omega
          · have HV := Lib.hid hv
            have HY := Lib.hid hy
            clear hv hy
            go_wp2_with fail
            refine (K.add_is HY.out _ hT Hbl.out hu).mono ?_
            rintro e w4 ⟨rfl, F', hT', hF', ho⟩
            have hJ := hI.same K hT' hF' ho
            have hc4 := kept hJ.below hc0
            go_wp2_with fail
            refine (rValid_is HV.out _ hu).mono ?_
            rintro e w5 ⟨rfl, rfl⟩
            go_wp2
            go_roundw
            case rel => exact ⟨k + 1, r, m, F', by omega, by go_num, by omega, hJ⟩
            case measure => simp [intOf]; omega
          · have HV := Lib.hid hv
            have HY := Lib.hid hy
            clear hv hy
            go_wp2_with fail
            refine (K.add_is HY.out _ hT Hbl.out hu).mono ?_
            rintro e w4 ⟨rfl, F', hT', hF', ho⟩
            have hJ := hI.same K hT' hF' ho
            have hc4 := kept hJ.below hc0
            go_wp2_with fail
            refine (rValid_is HV.out _ hu).mono ?_
            rintro e w5 ⟨rfl, rfl⟩
            go_wp2
            go_roundw
            case rel => exact ⟨k + 1, r, m, F', by omega, by go_num, by omega, hJ⟩
            case measure => simp [intOf]; omega
        · obtain ⟨W4, hW4⟩ : ∃ W4, W4 = wr := ⟨_, rfl⟩
          subst hW4
          have Hdis := Lib.hid hI.dis
          have Hrsz := Lib.hid hI.sz
          have Hml := Lib.hid hml
          have hm60 : m ≤ 60 := by omega
          clear hI hml
          have hkn : k = n := by omega
          subst hkn
          clear hlt
          go_wp2
          go_loopw [13, 14, 15, 16, 17] (fun i _ _ _ _ wx => ∃ j : Nat, j ≤ m ∧ i = .int .i64 j ∧ Below W4.heap.size W4 wx) (fun i _ _ _ _ _ => m - (intOf i).toNat)
          case atStart => exact ⟨0, Nat.zero_le _, rfl, Below.refl _ _⟩
          case round =>
            obtain ⟨j, hj, rfl, hbx⟩ := hrel
            by_cases hlt2 : j < m
            · have hjl : j < r.length := by rw [Hml.out]; exact hlt2
              obtain ⟨b', off, rfl, hc⟩ := (hst.kept hbx).at_ (k := j) hjl
              have E1 := Lib.hid (show nameS r ((j : Nat) : Int) = (r[j]?.getD ByteArray.empty, true) by unfold nameS; rw [if_pos (by omega)]; rfl)
              have E2 := Lib.hid (show findS r (r[j]?.getD ByteArray.empty) = ((j : Int), true) from findS_at r _ j hjl (fun i hi => Hdis.out i j hi hjl) rfl)
              have hu := Hrsz.out (r[j]?.getD ByteArray.empty) (by rw [List.getElem?_eq_getElem hjl]; exact List.getElem_mem hjl)
              obtain ⟨u, hu2⟩ : ∃ u, r[j]?.getD ByteArray.empty = u := ⟨_, rfl⟩
              rw [hu2] at hc E1 E2 hu
              have hts : (u.toList == u.toList) = true := by simp
              clear hu2
              go_wp2_with fail
              refine (K.find_is E2.out _ (K.on hT hbx) Hbl.out hu).mono ?_
              rintro e w7 ⟨rfl, hb7⟩
              have hc7 := kept hb7 hc
              go_wp2_with fail
              refine (K.name_is E1.out _ (K.on hT (by (repeat' first | with_reducible assumption | exact Below.refl _ _ | with_reducible refine Below.drew ?_ | with_reducible refine Below.drewN ?_ _ | with_reducible refine Below.alloc' ?_ _ | with_reducible refine Below.setCell ?_ (by first | exact Nat.le_refl _ | omega | (simp; done) | (simp; omega)) _ | with_reducible refine Below.after ?_ ‹_›))) Hbl.out).mono ?_
              rintro e w8 ⟨rfl, hb8⟩
              have hc8 := kept hb8 hc7
              go_wp2
              go_roundw
              case rel => exact ⟨j + 1, by omega, by go_num, by (repeat' first | with_reducible assumption | exact Below.refl _ _ | with_reducible refine Below.drew ?_ | with_reducible refine Below.drewN ?_ _ | with_reducible refine Below.alloc' ?_ _ | with_reducible refine Below.setCell ?_ (by first | exact Nat.le_refl _ | omega | (simp; done) | (simp; omega)) _ | with_reducible refine Below.after ?_ ‹_›)⟩
              case measure => simp [intOf]; omega
            · have hjm : j = m := by omega
              have hbX : Below w.heap.size w wr := hbr.trans (hbx.mono hbr.size)
              have hTX := K.on hT hbx
              obtain ⟨WX, hWX⟩ : ∃ WX, WX = wr := ⟨_, rfl⟩
              subst hWX
              clear hlt2 hT hst
              have hts : (s.toList == s.toList) = true := by simp
              rcases findS_cases r s with ⟨i1, hi1, hno, hat, hf⟩ | ⟨hno, hf⟩
              · have EF := Lib.hid hf
                have EM := Lib.hid (show nameS r ((i1 : Nat) : Int) = (s, true) by unfold nameS; rw [if_pos (by omega)]; exact congrArg (fun x => (x, true)) hat)
                have hi60 : i1 ≤ 60 := by rw [Hml.out] at hi1; omega
                clear hf hno hat hi1
                by_cases hin : 0 ≤ q ∧ q < m
                · obtain ⟨k, rfl⟩ := Int.eq_ofNat_of_zero_le hin.1
                  have hk2 : k < m := by omega
                  have hkl : k < r.length := by rw [Hml.out]; exact hk2
                  have EN := Lib.hid (show nameS r ((k : Nat) : Int) = (r[k]?.getD ByteArray.empty, true) by unfold nameS; rw [if_pos (by omega)]; rfl)
                  have EG := Lib.hid (show findS r (r[k]?.getD ByteArray.empty) = ((k : Int), true) from findS_at r _ k hkl (fun i hi => Hdis.out i k hi hkl) rfl)
                  have hv := Hrsz.out (r[k]?.getD ByteArray.empty) (by rw [List.getElem?_eq_getElem hkl]; exact List.getElem_mem hkl)
                  obtain ⟨v, hv2⟩ : ∃ v, r[k]?.getD ByteArray.empty = v := ⟨_, rfl⟩
                  rw [hv2] at EN EG hv
                  clear hv2 hin
                  go_wp2_with fail
                  refine (K.find_is EF.out _ hTX Hbl.out (by omega)).mono ?_
                  rintro e w7 ⟨rfl, hb7⟩
                  have hT7 := K.on hTX hb7
                  go_wp2_with fail
                  refine (K.name_is EN.out _ hT7 Hbl.out).mono ?_
                  rintro e w8 ⟨rfl, hb8⟩
                  have hT8 := K.on hT7 hb8
                  go_wp2_with fail
                  refine (K.name_is EM.out _ hT8 Hbl.out).mono ?_
                  rintro e w9 ⟨rfl, hb9⟩
                  have hT9 := K.on hT8 hb9
                  go_wp2_with fail
                  refine (K.find_is EG.out _ hT9 Hbl.out hv).mono ?_
                  rintro e w10 ⟨rfl, hb10⟩
                  have hT10 := K.on hT9 hb10
                  go_wp2_with fail
                  refine (K.len p r F m _ hT10 Hml.out (by omega)).mono ?_
                  rintro e w11 ⟨rfl, hb11⟩
                  go_wp2_with fail
                  refine (idAwake_any K _).mono ?_
                  rintro e w12 ⟨rfl, hb12⟩
                  go_wp2
                  go_ret
                  exact ⟨rfl, by (repeat' first | with_reducible assumption | exact Below.refl _ _ | with_reducible refine Below.drew ?_ | with_reducible refine Below.drewN ?_ _ | with_reducible refine Below.alloc' ?_ _ | with_reducible refine Below.setCell ?_ (by first | exact Nat.le_refl _ | omega | (simp; done) | (simp; omega)) _ | with_reducible refine Below.after ?_ ‹_›)⟩
                · have EN := Lib.hid (show nameS r q = (⟨#[]⟩, false) by unfold nameS; rw [if_neg (by rw [Hml.out]; omega)])
                  by_cases h0 : q < 0
                  · clear hin
                    go_wp2_with fail
                    refine (K.find_is EF.out _ hTX Hbl.out (by omega)).mono ?_
                    rintro e w7 ⟨rfl, hb7⟩
                    have hT7 := K.on hTX hb7
                    go_wp2_with fail
                    refine (K.name_is EN.out _ hT7 Hbl.out).mono ?_
                    rintro e w8 ⟨rfl, hb8⟩
                    have hT8 := K.on hT7 hb8
                    go_wp2_with fail
                    refine (K.name_is EM.out _ hT8 Hbl.out).mono ?_
                    rintro e w9 ⟨rfl, hb9⟩
                    have hT9 := K.on hT8 hb9
                    go_wp2_with fail
                    refine (K.len p r F m _ hT9 Hml.out (by omega)).mono ?_
                    rintro e w11 ⟨rfl, hb11⟩
                    go_wp2_with fail
                    refine (idAwake_any K _).mono ?_
                    rintro e w12 ⟨rfl, hb12⟩
                    go_wp2
                    go_ret
                    exact ⟨rfl, by (repeat' first | with_reducible assumption | exact Below.refl _ _ | with_reducible refine Below.drew ?_ | with_reducible refine Below.drewN ?_ _ | with_reducible refine Below.alloc' ?_ _ | with_reducible refine Below.setCell ?_ (by first | exact Nat.le_refl _ | omega | (simp; done) | (simp; omega)) _ | with_reducible refine Below.after ?_ ‹_›)⟩
                  · have hq0 : 0 ≤ q := by omega
                    have hq1 : (m : Int) ≤ q := by omega
                    have hq2 : decide (q < (m : Int)) = false := decide_eq_false (by omega)
                    clear hin h0
                    go_wp2_with fail
                    refine (K.find_is EF.out _ hTX Hbl.out (by omega)).mono ?_
                    rintro e w7 ⟨rfl, hb7⟩
                    have hT7 := K.on hTX hb7
                    go_wp2_with fail
                    refine (K.name_is EN.out _ hT7 Hbl.out).mono ?_
                    rintro e w8 ⟨rfl, hb8⟩
                    have hT8 := K.on hT7 hb8
                    go_wp2_with fail
                    refine (K.name_is EM.out _ hT8 Hbl.out).mono ?_
                    rintro e w9 ⟨rfl, hb9⟩
                    have hT9 := K.on hT8 hb9
                    go_wp2_with fail
                    refine (K.len p r F m _ hT9 Hml.out (by omega)).mono ?_
                    rintro e w11 ⟨rfl, hb11⟩
                    go_wp2_with fail
                    refine (idAwake_any K _).mono ?_
                    rintro e w12 ⟨rfl, hb12⟩
                    go_wp2
                    go_ret
                    exact ⟨rfl, by (repeat' first | with_reducible assumption | exact Below.refl _ _ | with_reducible refine Below.drew ?_ | with_reducible refine Below.drewN ?_ _ | with_reducible refine Below.alloc' ?_ _ | with_reducible refine Below.setCell ?_ (by first | exact Nat.le_refl _ | omega | (simp; done) | (simp; omega)) _ | with_reducible refine Below.after ?_ ‹_›)⟩
              · have EF := Lib.hid hf
                clear hf hno
                by_cases hin : 0 ≤ q ∧ q < m
                · obtain ⟨k, rfl⟩ := Int.eq_ofNat_of_zero_le hin.1
                  have hk2 : k < m := by omega
                  have hkl : k < r.length := by rw [Hml.out]; exact hk2
                  have EN := Lib.hid (show nameS r ((k : Nat) : Int) = (r[k]?.getD ByteArray.empty, true) by unfold nameS; rw [if_pos (by omega)]; rfl)
                  have EG := Lib.hid (show findS r (r[k]?.getD ByteArray.empty) = ((k : Int), true) from findS_at r _ k hkl (fun i hi => Hdis.out i k hi hkl) rfl)
                  have hv := Hrsz.out (r[k]?.getD ByteArray.empty) (by rw [List.getElem?_eq_getElem hkl]; exact List.getElem_mem hkl)
                  obtain ⟨v, hv2⟩ : ∃ v, r[k]?.getD ByteArray.empty = v := ⟨_, rfl⟩
                  rw [hv2] at EN EG hv
                  clear hv2 hin
                  go_wp2_with fail
                  refine (K.find_is EF.out _ hTX Hbl.out (by omega)).mono ?_
                  rintro e w7 ⟨rfl, hb7⟩
                  have hT7 := K.on hTX hb7
                  go_wp2_with fail
                  refine (K.name_is EN.out _ hT7 Hbl.out).mono ?_
                  rintro e w8 ⟨rfl, hb8⟩
                  have hT8 := K.on hT7 hb8
                  go_wp2_with fail
                  refine (K.find_is EG.out _ hT8 Hbl.out hv).mono ?_
                  rintro e w10 ⟨rfl, hb10⟩
                  have hT10 := K.on hT8 hb10
                  go_wp2_with fail
                  refine (K.len p r F m _ hT10 Hml.out (by omega)).mono ?_
                  rintro e w11 ⟨rfl, hb11⟩
                  go_wp2_with fail
                  refine (idAwake_any K _).mono ?_
                  rintro e w12 ⟨rfl, hb12⟩
                  go_wp2
                  go_ret
                  exact ⟨rfl, by (repeat' first | with_reducible assumption | exact Below.refl _ _ | with_reducible refine Below.drew ?_ | with_reducible refine Below.drewN ?_ _ | with_reducible refine Below.alloc' ?_ _ | with_reducible refine Below.setCell ?_ (by first | exact Nat.le_refl _ | omega | (simp; done) | (simp; omega)) _ | with_reducible refine Below.after ?_ ‹_›)⟩
                · have EN := Lib.hid (show nameS r q = (⟨#[]⟩, false) by unfold nameS; rw [if_neg (by rw [Hml.out]; omega)])
                  by_cases h0 : q < 0
                  · clear hin
                    go_wp2_with fail
                    refine (K.find_is EF.out _ hTX Hbl.out (by omega)).mono ?_
                    rintro e w7 ⟨rfl, hb7⟩
                    have hT7 := K.on hTX hb7
                    go_wp2_with fail
                    refine (K.name_is EN.out _ hT7 Hbl.out).mono ?_
                    rintro e w8 ⟨rfl, hb8⟩
                    have hT8 := K.on hT7 hb8
                    go_wp2_with fail
                    refine (K.len p r F m _ hT8 Hml.out (by omega)).mono ?_
                    rintro e w11 ⟨rfl, hb11⟩
                    go_wp2_with fail
                    refine (idAwake_any K _).mono ?_
                    rintro e w12 ⟨rfl, hb12⟩
                    go_wp2
                    go_ret
                    exact ⟨rfl, by (repeat' first | with_reducible assumption | exact Below.refl _ _ | with_reducible refine Below.drew ?_ | with_reducible refine Below.drewN ?_ _ | with_reducible refine Below.alloc' ?_ _ | with_reducible refine Below.setCell ?_ (by first | exact Nat.le_refl _ | omega | (simp; done) | (simp; omega)) _ | with_reducible refine Below.after ?_ ‹_›)⟩
                  · have hq0 : 0 ≤ q := by omega
                    have hq1 : (m : Int) ≤ q := by omega
                    have hq2 : decide (q < (m : Int)) = false := decide_eq_false (by omega)
                    clear hin h0
                    go_wp2_with fail
                    refine (K.find_is EF.out _ hTX Hbl.out (by omega)).mono ?_
                    rintro e w7 ⟨rfl, hb7⟩
                    have hT7 := K.on hTX hb7
                    go_wp2_with fail
                    refine (K.name_is EN.out _ hT7 Hbl.out).mono ?_
                    rintro e w8 ⟨rfl, hb8⟩
                    have hT8 := K.on hT7 hb8
                    go_wp2_with fail
                    refine (K.len p r F m _ hT8 Hml.out (by omega)).mono ?_
                    rintro e w11 ⟨rfl, hb11⟩
                    go_wp2_with fail
                    refine (idAwake_any K _).mono ?_
                    rintro e w12 ⟨rfl, hb12⟩
                    go_wp2
                    go_ret
                    exact ⟨rfl, by (repeat' first | with_reducible assumption | exact Below.refl _ _ | with_reducible refine Below.drew ?_ | with_reducible refine Below.drewN ?_ _ | with_reducible refine Below.alloc' ?_ _ | with_reducible refine Below.setCell ?_ (by first | exact Nat.le_refl _ | omega | (simp; done) | (simp; omega)) _ | with_reducible refine Below.after ?_ ‹_›)⟩
end
end Go.Proofs.Yteemacgknmidaaa
