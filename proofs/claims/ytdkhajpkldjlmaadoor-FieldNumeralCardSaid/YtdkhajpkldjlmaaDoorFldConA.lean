/-
  The contracts of the landed package field: check, appendWritten.
-/
import Derived.Test.YtdkhajpkldjlmaaDoorFldK
import Derived.Test.YtdkhajpkldjlmaaDoorFldCut
import Derived.Lib.AppendStr
namespace Go.Proofs.YtdkhajpkldjlmaaDoor
set_option linter.unusedVariables false
set_option linter.unusedSimpArgs false
open Go.RowKit

set_option maxRecDepth 20000 in
set_option maxHeartbeats 2000000 in
theorem check_any (s : ByteArray) (w : World) (hs : s.size ≤ 1000000) :
    Calls Tryd.prog 18 #[.string s] w fun e w' => e = .returned (.int .i64 (faultL s.data.toList)) ∧ w = w' := by
  have hl : s.data.toList.length = s.size := rfl
  by_cases h1 : 256 < s.size
  · have E := Lib.hid (show faultL s.data.toList = 8 by unfold faultL; rw [hl, if_pos h1])
    clear hl
    go_enter Tryd.func18, Tryd.ntmps18
    go_wp2
    go_ret
    exact ⟨by rw [E.out]; rfl, rfl⟩
  · have HF := Lib.hid (show ∀ r, s.data.toList.all okC = r → faultL s.data.toList = if r then 0 else 3 from fun r hr => by unfold faultL; rw [hl, if_neg h1, hr])
    clear hl
    go_enter Tryd.func18, Tryd.ntmps18
    go_wp2
    go_loop [3, 9] (fun _ i => ∃ k : Nat, k ≤ s.size ∧ i = .int .i64 k ∧ Hid ((s.data.toList.take k).all okC = true)) (fun _ i => s.size - (intOf i).toNat)
    case atStart => exact ⟨0, Nat.zero_le _, rfl, rfl⟩
    case round =>
      obtain ⟨k, hk, rfl, Hall⟩ := hrel
      by_cases hlt : k < s.size
      · have Hx := Lib.hid (all_take okC s k hlt)
        have Hn := Lib.hid (all_not okC s k hlt)
        obtain ⟨y, hy⟩ : ∃ y : Nat, (s[k]'hlt).toNat = y := ⟨_, rfl⟩
        have Hy := Lib.hid hy
        have hu : y < 256 := by rw [← hy]; exact (s[k]'hlt).toNat_lt
        by_cases h2 : y < 32
        · have E := Lib.hid (show faultL s.data.toList = 3 from HF.out false (Hn.out (by simp [okC, Hy.out]; omega)))
          go_wp2
          go_ret
          exact ⟨by rw [E.out]; rfl, rfl⟩
        · by_cases h3 : 126 < y
          · have E := Lib.hid (show faultL s.data.toList = 3 from HF.out false (Hn.out (by simp [okC, Hy.out]; omega)))
            go_wp2
            go_ret
            exact ⟨by rw [E.out]; rfl, rfl⟩
          · have E := Lib.hid (show (s.data.toList.take (k + 1)).all okC = true by rw [Hx.out, Hall.out]; simp [okC, Hy.out]; omega)
            go_wp2
            go_round
            case rel => exact ⟨k + 1, by omega, by go_num, E⟩
            case measure => simp [intOf]; omega
      · have E := Lib.hid (show faultL s.data.toList = 0 from HF.out true (all_end _ s k hlt Hall.out))
        go_wp2
        go_ret
        exact ⟨by rw [E.out]; rfl, rfl⟩
theorem check_is {s : ByteArray} {r : Int} (h : faultL s.data.toList = r) (w : World) (hs : s.size ≤ 1000000) :
    Calls Tryd.prog 18 #[.string s] w fun e w' => e = .returned (.int .i64 r) ∧ w = w' := by
  have := check_any s w hs
  rwa [h] at this

theorem info_byt : (Tryd.prog.info? 5).map (fun i => (i.zero, i.size, i.bytes)) = some (some (.int .u8 0), 1, 1) := by kernel_rfl
theorem strCells_bytV (s : ByteArray) : Lib.strCells s = bytV s.data.toList := rfl
theorem contains_is {s : ByteArray} {r : Bool} (hr : s.data.toList.any need = r) (w : World) (hs : s.size ≤ 1000000) (h : s.data.toList.all okC = true) :
    Calls Tryd.prog 29 #[.string s, .string ⟨#[32, 34, 92]⟩] w fun e w' => e = .returned (.bool r) ∧ Below w.heap.size w w' := by
  have := contains_any s w hs h
  rwa [hr] at this
theorem any_all (l : List UInt8) : (l.all fun c => !need c) = !l.any need := by
  induction l with
  | nil => rfl
  | cons c r ih => simp [ih, Bool.not_or]
theorem below_base {base : Nat} {w w1 w2 : World} {v : Value} (hb : Below base w w1) (hg : w1.grownBy w2 v.ownBlock) (hsz : base ≤ w1.heap.size) (hv : ∀ g, v.ownBlock = some g → base ≤ g) : Below base w w2 := hb.grown hg hsz hv
theorem below_based {base : Nat} {w w1 w2 : World} {o : Obj} {v : Value} (hb : Below base w w1) (hg : (w1.alloc o).grownBy w2 v.ownBlock) (hsz : base ≤ w1.heap.size) (hv : ∀ g, v.ownBlock = some g → base ≤ g) : Below base w w2 :=
  (hb.alloc hsz o).grown hg (by simp; omega) hv
/-- the written form appended to a slice of the call's own -/
def GivesWr (base : Nat) (w : World) (n : Nat) (R : List UInt8) (e : Ending) (w' : World) : Prop := ∃ v m, e = .returned v ∧ R.length = m ∧ w'.ownsRow base 5 1 v m (bytV R) ∧ Below base w w'

set_option maxRecDepth 20000 in
set_option maxHeartbeats 8000000 in
theorem wr_any (base : Nat) (v : Value) (n : Nat) (acc : List UInt8) (s : ByteArray) (w : World) (hown : w.ownsRow base 5 1 v n (bytV acc)) (hbase : base ≤ w.heap.size) (hn : n ≤ 3000) (hs : s.size ≤ 256) (hok : s.data.toList.all okC = true) :
    Calls Tryd.prog 19 #[v, .string s] w (GivesWr base w n (acc ++ wrL s.data.toList)) := by
  have hl : acc.length = n := by have := hown.1; rw [bytV_length] at this; omega
  have Hl := Lib.hid hl
  have Hok := Lib.hid hok
  have HS := Lib.hid (show s.data.toList.length = s.size from rfl)
  clear hl hok
  obtain ⟨i0, hi, hz0, hz1, hz2⟩ := info_parts info_byt
  cases hp : plainL s.data.toList
  · have E := Lib.hid (show acc ++ 34 :: (escL s.data.toList ++ [34]) = acc ++ wrL s.data.toList by unfold wrL; rw [hp]; rfl)
    obtain ⟨R, hR⟩ : ∃ R, acc ++ wrL s.data.toList = R := ⟨_, rfl⟩
    rw [hR] at E ⊢
    clear hR
    by_cases h0 : s.size = 0
    · have e1 : s.toList.isEmpty = true := by rw [ByteArray.toList_eq, is_empty h0]; rfl
      have e2 : (s.toList == []) = true := by rw [ByteArray.toList_eq, is_empty h0]; rfl
      have own := hown
      have hb0 : Below base w w := Below.refl _ _
      have hsz : base ≤ w.heap.size := hbase
      clear h0 hp hown hbase
      go_enter Tryd.func19, Tryd.ntmps19
      go_wp2_with (at_builtin; refine wpList_append_reads rfl (.tmp 16) (.tmp 17) Tryd.underlying45 info_byt rfl (by omega) rfl base v n (bytV acc) rfl (own.alloc _) (some ⟨_, 0, none⟩) 1 1 (bytV [34]) rfl rfl (reads_lit _ (bytV [34]) _ rfl) (bytV_one _) (by omega) (by simp; omega) ?_; intro v2 w2 o2 g2 e3)
      have hb2 := below_based hb0 g2 hsz (own_base own)
      have hsz2 : base ≤ w2.heap.size := Nat.le_trans hsz (Nat.le_trans (by simp) g2.size)
      rw [← bytV_append] at o2
      clear own hb0 hsz g2 e3 e1 e2
      go_loopw [0, 5, 21] (fun x _ i wr => ∃ (k m : Nat), k ≤ s.size ∧ i = .int .i64 k ∧ m ≤ n + 1 + 2 * k ∧ wr.ownsRow base 5 1 x m (bytV (acc ++ 34 :: escL (s.data.toList.take k))) ∧ base ≤ wr.heap.size ∧ Below base w wr) (fun _ _ i _ => s.size - (intOf i).toNat)
      case atStart => exact ⟨0, n + 1, Nat.zero_le _, rfl, by omega, o2, hsz2, hb2⟩
      case round =>
        obtain ⟨k, m, hk, rfl, hm, own, hsz, hb0⟩ := hrel
        clear hsz2 hb2 o2
        by_cases hlt : k < s.size
        · have Ht := Lib.hid (take_snoc s k hlt)
          obtain ⟨c, hc⟩ : ∃ c, s[k]'hlt = c := ⟨_, rfl⟩
          rw [hc] at Ht
          have hu : c.toNat < 256 := c.toNat_lt
          by_cases h3 : c.toNat = 34 ∨ c.toNat = 92
          · have Hx := Lib.hid (show ((acc ++ 34 :: escL (s.data.toList.take k)) ++ [92]) ++ [c] = acc ++ 34 :: escL (s.data.toList.take (k + 1)) by
              rw [Ht.out, escL_snoc, show escB c = [92, c] by simp [escB, esc, h3]]
              simp)
            rcases h3 with h3 | h3
            · have n1 : ((c.toNat : Int) == 34) = true := by simp; omega
              clear h3
              go_wp2_with (first
                | (at_builtin; refine wpList_append_reads rfl (.tmp 34) (.tmp 35) Tryd.underlying45 info_byt rfl (by omega) rfl base _ m (bytV (acc ++ 34 :: escL (s.data.toList.take k))) rfl (own.alloc _) (some ⟨_, 0, none⟩) 1 1 (bytV [92]) rfl rfl (reads_lit _ (bytV [92]) _ rfl) (bytV_one _) (by omega) (by simp; omega) ?_; intro v2 w2 o2 g2 e3; have hb2 := below_based hb0 g2 hsz (own_base own); have hsz2 : base ≤ w2.heap.size := Nat.le_trans hsz (Nat.le_trans (by simp) g2.size); rw [← bytV_append] at o2)
                | (at_builtin; refine wpList_append_reads rfl (.tmp 37) (.tmp 41) Tryd.underlying45 info_byt rfl (by omega) rfl base _ (m + 1) (bytV ((acc ++ 34 :: escL (s.data.toList.take k)) ++ [92])) rfl (o2.alloc _) (some ⟨_, 0, none⟩) 1 1 (bytV [c]) rfl rfl (reads_lit _ (bytV [c]) _ rfl) (bytV_one _) (by omega) (by simp; omega) ?_; intro v4 w4 o4 g4 e4))
              have hb4 := below_based hb2 g4 hsz2 (own_base o2)
              have hsz4 : base ≤ w4.heap.size := Nat.le_trans hsz2 (Nat.le_trans (by simp) g4.size)
              rw [← bytV_append, Hx.out] at o4
              go_roundw
              case rel => exact ⟨k + 1, m + 2, by omega, by go_num, by omega, o4, hsz4, hb4⟩
              case measure => simp [intOf]; omega
            · have n1 : ((c.toNat : Int) == 34) = false := by simp; omega
              have n2 : ((c.toNat : Int) == 92) = true := by simp; omega
              clear h3
              go_wp2_with (first
                | (at_builtin; refine wpList_append_reads rfl (.tmp 34) (.tmp 35) Tryd.underlying45 info_byt rfl (by omega) rfl base _ m (bytV (acc ++ 34 :: escL (s.data.toList.take k))) rfl (own.alloc _) (some ⟨_, 0, none⟩) 1 1 (bytV [92]) rfl rfl (reads_lit _ (bytV [92]) _ rfl) (bytV_one _) (by omega) (by simp; omega) ?_; intro v2 w2 o2 g2 e3; have hb2 := below_based hb0 g2 hsz (own_base own); have hsz2 : base ≤ w2.heap.size := Nat.le_trans hsz (Nat.le_trans (by simp) g2.size); rw [← bytV_append] at o2)
                | (at_builtin; refine wpList_append_reads rfl (.tmp 37) (.tmp 41) Tryd.underlying45 info_byt rfl (by omega) rfl base _ (m + 1) (bytV ((acc ++ 34 :: escL (s.data.toList.take k)) ++ [92])) rfl (o2.alloc _) (some ⟨_, 0, none⟩) 1 1 (bytV [c]) rfl rfl (reads_lit _ (bytV [c]) _ rfl) (bytV_one _) (by omega) (by simp; omega) ?_; intro v4 w4 o4 g4 e4))
              have hb4 := below_based hb2 g4 hsz2 (own_base o2)
              have hsz4 : base ≤ w4.heap.size := Nat.le_trans hsz2 (Nat.le_trans (by simp) g4.size)
              rw [← bytV_append, Hx.out] at o4
              go_roundw
              case rel => exact ⟨k + 1, m + 2, by omega, by go_num, by omega, o4, hsz4, hb4⟩
              case measure => simp [intOf]; omega
          · have n1 : ((c.toNat : Int) == 34) = false := by simp; omega
            have n2 : ((c.toNat : Int) == 92) = false := by simp; omega
            have Hx := Lib.hid (show (acc ++ 34 :: escL (s.data.toList.take k)) ++ [c] = acc ++ 34 :: escL (s.data.toList.take (k + 1)) by
              rw [Ht.out, escL_snoc, show escB c = [c] by simp [escB, esc]; omega]
              simp)
            clear h3
            go_wp2_with (at_builtin; refine wpList_append_reads rfl (.tmp 37) (.tmp 41) Tryd.underlying45 info_byt rfl (by omega) rfl base _ m (bytV (acc ++ 34 :: escL (s.data.toList.take k))) rfl (own.alloc _) (some ⟨_, 0, none⟩) 1 1 (bytV [c]) rfl rfl (reads_lit _ (bytV [c]) _ rfl) (bytV_one _) (by omega) (by simp; omega) ?_; intro v2 w2 o2 g2 e3)
            have hb2 := below_based hb0 g2 hsz (own_base own)
            have hsz2 : base ≤ w2.heap.size := Nat.le_trans hsz (Nat.le_trans (by simp) g2.size)
            rw [← bytV_append, Hx.out] at o2
            go_roundw
            case rel => exact ⟨k + 1, m + 1, by omega, by go_num, by omega, o2, hsz2, hb2⟩
            case measure => simp [intOf]; omega
        · have Ht := Lib.hid (show (acc ++ 34 :: escL (s.data.toList.take k)) ++ [34] = R by
            rw [← E.out, List.take_of_length_le (by have := HS.out; omega)]
            simp)
          go_wp2_with (at_builtin; refine wpList_append_reads rfl (.tmp 44) (.tmp 45) Tryd.underlying45 info_byt rfl (by omega) rfl base _ m (bytV (acc ++ 34 :: escL (s.data.toList.take k))) rfl (own.alloc _) (some ⟨_, 0, none⟩) 1 1 (bytV [34]) rfl rfl (reads_lit _ (bytV [34]) _ rfl) (bytV_one _) (by omega) (by simp; omega) ?_; intro v2 w2 o2 g2 e3)
          have hb2 := below_based hb0 g2 hsz (own_base own)
          rw [← bytV_append, Ht.out] at o2
          go_ret
          exact ⟨v2, m + 1, rfl, by have := o2.1; rw [bytV_length] at this; omega, o2, hb2⟩
    · obtain ⟨e1, e2⟩ := ne_empty (s := s) (by omega)
      have hany : s.data.toList.any need = true := by
        unfold plainL at hp
        rw [any_all] at hp
        have : s.data.toList.isEmpty = false := by rw [← ByteArray.toList_eq]; exact e1
        rw [this] at hp
        simpa using hp
      have HC := Lib.hid (contains_is hany w (by omega) Hok.out)
      clear hp h0 hany
      go_enter Tryd.func19, Tryd.ntmps19
      go_wp2_with fail
      refine HC.out.mono ?_
      rintro e w1 ⟨rfl, hb⟩
      have own := own_kept hown hb
      have hb0 : Below base w w1 := hb.mono hbase
      have hsz : base ≤ w1.heap.size := Nat.le_trans hbase hb.size
      clear hown hbase HC hb
      go_wp2_with (at_builtin; refine wpList_append_reads rfl (.tmp 16) (.tmp 17) Tryd.underlying45 info_byt rfl (by omega) rfl base v n (bytV acc) rfl (own.alloc _) (some ⟨_, 0, none⟩) 1 1 (bytV [34]) rfl rfl (reads_lit _ (bytV [34]) _ rfl) (bytV_one _) (by omega) (by simp; omega) ?_; intro v2 w2 o2 g2 e3)
      have hb2 := below_based hb0 g2 hsz (own_base own)
      have hsz2 : base ≤ w2.heap.size := Nat.le_trans hsz (Nat.le_trans (by simp) g2.size)
      rw [← bytV_append] at o2
      clear own hb0 hsz g2 e3 e1 e2
      go_loopw [0, 5, 21] (fun x _ i wr => ∃ (k m : Nat), k ≤ s.size ∧ i = .int .i64 k ∧ m ≤ n + 1 + 2 * k ∧ wr.ownsRow base 5 1 x m (bytV (acc ++ 34 :: escL (s.data.toList.take k))) ∧ base ≤ wr.heap.size ∧ Below base w wr) (fun _ _ i _ => s.size - (intOf i).toNat)
      case atStart => exact ⟨0, n + 1, Nat.zero_le _, rfl, by omega, o2, hsz2, hb2⟩
      case round =>
        obtain ⟨k, m, hk, rfl, hm, own, hsz, hb0⟩ := hrel
        clear hsz2 hb2 o2
        by_cases hlt : k < s.size
        · have Ht := Lib.hid (take_snoc s k hlt)
          obtain ⟨c, hc⟩ : ∃ c, s[k]'hlt = c := ⟨_, rfl⟩
          rw [hc] at Ht
          have hu : c.toNat < 256 := c.toNat_lt
          by_cases h3 : c.toNat = 34 ∨ c.toNat = 92
          · have Hx := Lib.hid (show ((acc ++ 34 :: escL (s.data.toList.take k)) ++ [92]) ++ [c] = acc ++ 34 :: escL (s.data.toList.take (k + 1)) by
              rw [Ht.out, escL_snoc, show escB c = [92, c] by simp [escB, esc, h3]]
              simp)
            rcases h3 with h3 | h3
            · have n1 : ((c.toNat : Int) == 34) = true := by simp; omega
              clear h3
              go_wp2_with (first
                | (at_builtin; refine wpList_append_reads rfl (.tmp 34) (.tmp 35) Tryd.underlying45 info_byt rfl (by omega) rfl base _ m (bytV (acc ++ 34 :: escL (s.data.toList.take k))) rfl (own.alloc _) (some ⟨_, 0, none⟩) 1 1 (bytV [92]) rfl rfl (reads_lit _ (bytV [92]) _ rfl) (bytV_one _) (by omega) (by simp; omega) ?_; intro v2 w2 o2 g2 e3; have hb2 := below_based hb0 g2 hsz (own_base own); have hsz2 : base ≤ w2.heap.size := Nat.le_trans hsz (Nat.le_trans (by simp) g2.size); rw [← bytV_append] at o2)
                | (at_builtin; refine wpList_append_reads rfl (.tmp 37) (.tmp 41) Tryd.underlying45 info_byt rfl (by omega) rfl base _ (m + 1) (bytV ((acc ++ 34 :: escL (s.data.toList.take k)) ++ [92])) rfl (o2.alloc _) (some ⟨_, 0, none⟩) 1 1 (bytV [c]) rfl rfl (reads_lit _ (bytV [c]) _ rfl) (bytV_one _) (by omega) (by simp; omega) ?_; intro v4 w4 o4 g4 e4))
              have hb4 := below_based hb2 g4 hsz2 (own_base o2)
              have hsz4 : base ≤ w4.heap.size := Nat.le_trans hsz2 (Nat.le_trans (by simp) g4.size)
              rw [← bytV_append, Hx.out] at o4
              go_roundw
              case rel => exact ⟨k + 1, m + 2, by omega, by go_num, by omega, o4, hsz4, hb4⟩
              case measure => simp [intOf]; omega
            · have n1 : ((c.toNat : Int) == 34) = false := by simp; omega
              have n2 : ((c.toNat : Int) == 92) = true := by simp; omega
              clear h3
              go_wp2_with (first
                | (at_builtin; refine wpList_append_reads rfl (.tmp 34) (.tmp 35) Tryd.underlying45 info_byt rfl (by omega) rfl base _ m (bytV (acc ++ 34 :: escL (s.data.toList.take k))) rfl (own.alloc _) (some ⟨_, 0, none⟩) 1 1 (bytV [92]) rfl rfl (reads_lit _ (bytV [92]) _ rfl) (bytV_one _) (by omega) (by simp; omega) ?_; intro v2 w2 o2 g2 e3; have hb2 := below_based hb0 g2 hsz (own_base own); have hsz2 : base ≤ w2.heap.size := Nat.le_trans hsz (Nat.le_trans (by simp) g2.size); rw [← bytV_append] at o2)
                | (at_builtin; refine wpList_append_reads rfl (.tmp 37) (.tmp 41) Tryd.underlying45 info_byt rfl (by omega) rfl base _ (m + 1) (bytV ((acc ++ 34 :: escL (s.data.toList.take k)) ++ [92])) rfl (o2.alloc _) (some ⟨_, 0, none⟩) 1 1 (bytV [c]) rfl rfl (reads_lit _ (bytV [c]) _ rfl) (bytV_one _) (by omega) (by simp; omega) ?_; intro v4 w4 o4 g4 e4))
              have hb4 := below_based hb2 g4 hsz2 (own_base o2)
              have hsz4 : base ≤ w4.heap.size := Nat.le_trans hsz2 (Nat.le_trans (by simp) g4.size)
              rw [← bytV_append, Hx.out] at o4
              go_roundw
              case rel => exact ⟨k + 1, m + 2, by omega, by go_num, by omega, o4, hsz4, hb4⟩
              case measure => simp [intOf]; omega
          · have n1 : ((c.toNat : Int) == 34) = false := by simp; omega
            have n2 : ((c.toNat : Int) == 92) = false := by simp; omega
            have Hx := Lib.hid (show (acc ++ 34 :: escL (s.data.toList.take k)) ++ [c] = acc ++ 34 :: escL (s.data.toList.take (k + 1)) by
              rw [Ht.out, escL_snoc, show escB c = [c] by simp [escB, esc]; omega]
              simp)
            clear h3
            go_wp2_with (at_builtin; refine wpList_append_reads rfl (.tmp 37) (.tmp 41) Tryd.underlying45 info_byt rfl (by omega) rfl base _ m (bytV (acc ++ 34 :: escL (s.data.toList.take k))) rfl (own.alloc _) (some ⟨_, 0, none⟩) 1 1 (bytV [c]) rfl rfl (reads_lit _ (bytV [c]) _ rfl) (bytV_one _) (by omega) (by simp; omega) ?_; intro v2 w2 o2 g2 e3)
            have hb2 := below_based hb0 g2 hsz (own_base own)
            have hsz2 : base ≤ w2.heap.size := Nat.le_trans hsz (Nat.le_trans (by simp) g2.size)
            rw [← bytV_append, Hx.out] at o2
            go_roundw
            case rel => exact ⟨k + 1, m + 1, by omega, by go_num, by omega, o2, hsz2, hb2⟩
            case measure => simp [intOf]; omega
        · have Ht := Lib.hid (show (acc ++ 34 :: escL (s.data.toList.take k)) ++ [34] = R by
            rw [← E.out, List.take_of_length_le (by have := HS.out; omega)]
            simp)
          go_wp2_with (at_builtin; refine wpList_append_reads rfl (.tmp 44) (.tmp 45) Tryd.underlying45 info_byt rfl (by omega) rfl base _ m (bytV (acc ++ 34 :: escL (s.data.toList.take k))) rfl (own.alloc _) (some ⟨_, 0, none⟩) 1 1 (bytV [34]) rfl rfl (reads_lit _ (bytV [34]) _ rfl) (bytV_one _) (by omega) (by simp; omega) ?_; intro v2 w2 o2 g2 e3)
          have hb2 := below_based hb0 g2 hsz (own_base own)
          rw [← bytV_append, Ht.out] at o2
          go_ret
          exact ⟨v2, m + 1, rfl, by have := o2.1; rw [bytV_length] at this; omega, o2, hb2⟩
  · have E := Lib.hid (show wrL s.data.toList = s.data.toList by unfold wrL; rw [hp]; rfl)
    have h0 : 0 < s.size := by
      rcases Nat.eq_zero_or_pos s.size with h | h
      · rw [is_empty h] at hp; cases hp
      · exact h
    obtain ⟨e1, e2⟩ := ne_empty (s := s) h0
    have hany : s.data.toList.any need = false := by
      unfold plainL at hp
      rw [any_all, Bool.and_eq_true] at hp
      simpa using hp.2
    have HC := Lib.hid (contains_is hany w (by omega) Hok.out)
    clear hp h0 hany
    go_enter Tryd.func19, Tryd.ntmps19
    go_wp2_with fail
    refine HC.out.mono ?_
    rintro e w1 ⟨rfl, hb⟩
    have own := own_kept hown hb
    have hb0 : Below base w w1 := hb.mono hbase
    have hsz : base ≤ w1.heap.size := Nat.le_trans hbase hb.size
    go_wp2_with (at_builtin; refine Lib.wpList_append_own_string _ rfl (.tmp 13) (.tmp 14) _ _ rfl base _ i0 Tryd.underlying45 Tryd.underlying9 hi hz0 hz1 hz2 v n (bytV acc) rfl own s rfl (by unfold maxLen; omega) (by omega) hsz ?_; intro v2 w2 o2 g2 e3)
    go_ret
    rw [strCells_bytV, ← bytV_append] at o2
    exact ⟨v2, _, rfl, by rw [List.length_append, E.out, Hl.out, HS.out], by rw [E.out]; exact o2, below_base hb0 g2 hsz (own_base own)⟩
end Go.Proofs.YtdkhajpkldjlmaaDoor
