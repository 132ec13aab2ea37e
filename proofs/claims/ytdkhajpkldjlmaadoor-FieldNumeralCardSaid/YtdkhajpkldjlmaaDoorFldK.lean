/-
  The contracts of package field that the laws' walks ask, gathered in one structure; the laws' awake and great.
-/
import Derived.Test.YtdkhajpkldjlmaaDoorFldF
namespace Go.Proofs.YtdkhajpkldjlmaaDoor
set_option linter.unusedVariables false
set_option linter.unusedSimpArgs false
open Go.RowKit

/-- what the laws' walks ask of package field -/
structure FldCon : Prop where
  split : ∀ (s : ByteArray) (w : World) (_hs : s.size ≤ 1000000), Calls Tryd.prog 10 #[.string s] w (GivesStrs w (splitL s.data.toList))
  join : ∀ (a : Option Addr) (l : List ByteArray) (n cap : Nat) (w : World) (_hn : l.length = n) (_hb : n ≤ 100000) (_hl : Strs w a l) (_hsz : ∀ s ∈ l, s.size ≤ 1000000),
    Calls Tryd.prog 11 #[.slice a n cap] w fun e w' => e = .returned (.tuple #[.string (ofL (joinL (B l)).1), .int .i64 (joinL (B l)).2]) ∧ Below w.heap.size w w'
  lines : ∀ (s : ByteArray) (w : World) (_hs : s.size ≤ 900000), Calls Tryd.prog 12 #[.string s] w (GivesStrss w (linesL s.data.toList))
  number : ∀ (s : ByteArray) (w : World) (_hs : s.size ≤ 1000000),
    Calls Tryd.prog 5 #[.string s] w fun e w' => e = .returned (.tuple #[.int .i64 (numL s.data.toList).1, .int .i64 (numL s.data.toList).2]) ∧ Below w.heap.size w w'

theorem of_B {l : List ByteArray} {r : List (List UInt8)} (h : B l = r) : l = r.map ofL := by
  subst h
  unfold B
  rw [List.map_map]
  have : (ofL ∘ fun s : ByteArray => s.data.toList) = id := by
    funext s
    rfl
  rw [this, List.map_id]
theorem of_Bs {l : List (List ByteArray)} {r : List (List (List UInt8))} (h : l.map B = r) : l = r.map fun x => x.map ofL := by
  subst h
  rw [List.map_map]
  have : ((fun x : List (List UInt8) => x.map ofL) ∘ B) = id := by
    funext s
    exact (of_B rfl).symm
  rw [this, List.map_id]
theorem B_of (r : List (List UInt8)) : B (r.map ofL) = r := by
  unfold B
  rw [List.map_map]
  have : ((fun s : ByteArray => s.data.toList) ∘ ofL) = id := by
    funext s
    rfl
  rw [this, List.map_id]
theorem strs_lit (w : World) (l : List ByteArray) (t : TypeId) : Strs (w.alloc (.cells (strV l).toArray t)) (some ⟨w.heap.size, 0, none⟩) l := by
  intro _
  refine ⟨w.heap.size, 0, rfl, fun k hk => ?_⟩
  have := strV_at l k hk
  simp [go_sem, this]
theorem strss_one (w : World) (x : Option Addr) (n c : Nat) (l : List ByteArray) (t : TypeId) (hn : l.length = n) (hl : Strs w x l) {m : Nat} (hm : m = w.heap.size) : Strss (w.alloc (.cells #[.slice x n c] t)) (some ⟨m, 0, none⟩) [l] := by
  subst hm
  intro _
  refine ⟨_, _, rfl, fun k hk => ?_⟩
  have : k = 0 := by simp at hk; omega
  subst this
  exact ⟨x, n, c, by simp [go_sem], by simpa using hn, by simpa using hl.kept ((Below.refl _ w).alloc (Nat.le_refl _) _)⟩

theorem rSame_is {l m : List ByteArray} {r : Bool} (h : decide (l = m) = r) (a b : Option Addr) (n c k d : Nat) (w : World) (hn : l.length = n) (hk : m.length = k) (hb : n ≤ 1000000) (hb2 : k ≤ 1000000) (hl : Strs w a l) (hm : Strs w b m) :
    Calls Tryd.prog 13 #[.slice a n c, .slice b k d] w fun e w' => e = .returned (.bool r) ∧ Below w.heap.size w w' := by
  refine (rSame_any a b l m n c k d w hn hk hb hb2 hl hm).mono ?_
  rintro e w' ⟨rfl, q, rfl⟩
  exact ⟨by rw [h], drewN_below w q⟩
theorem rSames_is {l m : List (List ByteArray)} {r : Bool} (h : decide (l = m) = r) (a b : Option Addr) (n c k d : Nat) (w : World) (hn : l.length = n) (hk : m.length = k) (hb : n ≤ 1000000) (hb2 : k ≤ 1000000) (hl : Strss w a l) (hm : Strss w b m) (hs : ∀ x ∈ l, x.length ≤ 1000000) (hs2 : ∀ x ∈ m, x.length ≤ 1000000) :
    Calls Tryd.prog 14 #[.slice a n c, .slice b k d] w fun e w' => e = .returned (.bool r) ∧ Below w.heap.size w w' := by
  refine (rSames_any a b l m n c k d w hn hk hb hb2 hl hm hs hs2).mono ?_
  rintro e w' ⟨rfl, q, rfl⟩
  exact ⟨by rw [h], drewN_below w q⟩

section
variable (K : FldCon)
include K
theorem FldCon.split_is {s : ByteArray} {r : List (List UInt8) × Int} (h : splitL s.data.toList = r) (w : World) (hs : s.size ≤ 1000000) : Calls Tryd.prog 10 #[.string s] w (GivesStrs w r) := by
  have := K.split s w hs
  rwa [h] at this
theorem FldCon.join_is {l : List ByteArray} {r : List UInt8 × Int} (h : joinL (B l) = r) (a : Option Addr) (n cap : Nat) (w : World) (hn : l.length = n) (hb : n ≤ 100000) (hl : Strs w a l) (hsz : ∀ s ∈ l, s.size ≤ 1000000) :
    Calls Tryd.prog 11 #[.slice a n cap] w fun e w' => e = .returned (.tuple #[.string (ofL r.1), .int .i64 r.2]) ∧ Below w.heap.size w w' := by
  have := K.join a l n cap w hn hb hl hsz
  rwa [h] at this
theorem FldCon.lines_is {s : ByteArray} {r : List (List (List UInt8)) × Int} (h : linesL s.data.toList = r) (w : World) (hs : s.size ≤ 900000) : Calls Tryd.prog 12 #[.string s] w (GivesStrss w r) := by
  have := K.lines s w hs
  rwa [h] at this
theorem FldCon.number_is {s : ByteArray} {r : Int × Int} (h : numL s.data.toList = r) (w : World) (hs : s.size ≤ 1000000) :
    Calls Tryd.prog 5 #[.string s] w fun e w' => e = .returned (.tuple #[.int .i64 r.1, .int .i64 r.2]) ∧ Below w.heap.size w w' := by
  have := K.number s w hs
  rwa [h] at this
theorem FldCon.join_str {l : List ByteArray} {v : ByteArray} {x : Int} (h : joinL (B l) = (v.data.toList, x)) (a : Option Addr) (n cap : Nat) (w : World) (hn : l.length = n) (hb : n ≤ 100000) (hl : Strs w a l) (hsz : ∀ s ∈ l, s.size ≤ 1000000) :
    Calls Tryd.prog 11 #[.slice a n cap] w fun e w' => e = .returned (.tuple #[.string v, .int .i64 x]) ∧ Below w.heap.size w w' := by
  have := K.join a l n cap w hn hb hl hsz
  rw [h] at this
  exact this
end
def xA : ByteArray := ⟨#[97]⟩
def xB : ByteArray := ⟨#[98]⟩
def xC : ByteArray := ⟨#[99]⟩
def xBC : ByteArray := ⟨#[98, 32, 99]⟩
def xE : ByteArray := ⟨#[]⟩
def xSay : ByteArray := ⟨#[115, 97, 121, 32, 34, 120, 34]⟩
def xBack : ByteArray := ⟨#[92]⟩
abbrev xLine : ByteArray := ⟨#[97, 32, 34, 98, 32, 99, 34, 32, 34, 34]⟩
abbrev xTwo : ByteArray := ⟨#[34, 115, 97, 121, 32, 92, 34, 120, 92, 34, 34, 32, 34, 92, 92, 34]⟩
theorem small_sizes {l : List ByteArray} (h : (l.all fun s => decide (s.size ≤ 200)) = true) : ∀ s ∈ l, s.size ≤ 1000000 := fun s hs => by
  have := List.all_eq_true.1 h s hs
  simp at this
  omega

section
variable (K : FldCon)
include K
set_option maxRecDepth 100000 in
set_option maxHeartbeats 4000000 in
theorem fldAwake_any (w : World) :
    Calls Tryd.prog 6 #[] w fun e w' => e = .returned (.bool true) ∧ Below w.heap.size w w' := by
  have E1 := Lib.hid (show splitL xLine.data.toList = ([[97], [98, 32, 99], []], 0) by decide +kernel)
  have E2 := Lib.hid (show joinL (B [xA, xBC, xE]) = (xLine.data.toList, 0) by decide +kernel)
  have E3 := Lib.hid (show joinL (B [xSay, xBack]) = (xTwo.data.toList, 0) by decide +kernel)
  have E4 := Lib.hid (show splitL (⟨#[34, 97, 98, 34]⟩ : ByteArray).data.toList = ([], 3) by decide +kernel)
  have E5 := Lib.hid (show linesL (⟨#[35, 32, 97, 10, 10, 98, 32, 99, 10]⟩ : ByteArray).data.toList = ([[[98], [99]]], 0) by decide +kernel)
  have E6 := Lib.hid (show numL (⟨#[45, 49, 50]⟩ : ByteArray).data.toList = (-12, 0) by decide +kernel)
  have E7 := Lib.hid (show numL (⟨#[49, 48, 48, 48, 48, 48, 48, 48, 48, 48, 48, 48, 49]⟩ : ByteArray).data.toList = (0, 1) by decide +kernel)
  have E8 := Lib.hid (show numL (⟨#[48, 48]⟩ : ByteArray).data.toList = (0, 3) by decide +kernel)
  go_enter Tryd.func6, Tryd.ntmps6
  go_wp2_with fail
  refine (K.split_is E1.out _ (by decide)).mono ?_
  rintro e w1 ⟨b1, c1, l1, rfl, hl1, hs1, -, hb1⟩
  obtain rfl := of_B hl1
  clear hl1
  go_wp2_with fail
  refine (K.join_str (v := ⟨#[97, 32, 34, 98, 32, 99, 34, 32, 34, 34]⟩) E2.out _ 3 3 _ rfl (by decide) (strs_lit w1 [xA, xBC, xE] 9) (small_sizes (by decide +kernel))).mono ?_
  rintro e w2 ⟨rfl, hb2⟩
  go_wp2_with fail
  refine (K.join_str (v := ⟨#[34, 115, 97, 121, 32, 92, 34, 120, 92, 34, 34, 32, 34, 92, 92, 34]⟩) E3.out _ 2 2 _ rfl (by decide) (strs_lit w2 [xSay, xBack] 9) (small_sizes (by decide +kernel))).mono ?_
  rintro e w3 ⟨rfl, hb3⟩
  go_wp2_with fail
  refine (K.split_is E4.out _ (by decide)).mono ?_
  rintro e w4 ⟨b4, c4, l4, rfl, -, -, -, hb4⟩
  go_wp2_with fail
  refine (K.lines_is E5.out _ (by decide)).mono ?_
  rintro e w5 ⟨b5, c5, l5, rfl, hl5, hs5, -, hb5⟩
  obtain rfl := of_Bs hl5
  clear hl5
  go_wp2_with fail
  refine (K.number_is E6.out _ (by decide)).mono ?_
  rintro e w6 ⟨rfl, hb6⟩
  go_wp2_with fail
  refine (K.number_is E7.out _ (by decide)).mono ?_
  rintro e w7 ⟨rfl, hb7⟩
  go_wp2_with fail
  refine (K.number_is E8.out _ (by decide)).mono ?_
  rintro e w8 ⟨rfl, hb8⟩
  go_wp2_with fail
  refine (rSame_is (l := [[97], [98, 32, 99], []].map ofL) (m := [xA, xBC, xE]) (r := true) (by decide +kernel) b1 _ 3 c1 3 3 _ rfl rfl (by decide) (by decide) (hs1.kept (by (repeat' first | with_reducible assumption | exact Below.refl _ _ | with_reducible refine Below.drew ?_ | with_reducible refine Below.drewN ?_ _ | with_reducible refine Below.alloc' ?_ _ | with_reducible refine Below.setCell ?_ (by first | exact Nat.le_refl _ | omega | (simp; done) | (simp; omega)) _ | with_reducible refine Below.after ?_ ‹_›))) (strs_lit w8 [xA, xBC, xE] 9)).mono ?_
  rintro e w9 ⟨rfl, hb9⟩
  go_wp2_with fail
  refine (rSames_is (l := [[[98], [99]]].map fun x => x.map ofL) (m := [[xB, xC]]) (r := true) (by decide +kernel) b5 _ 1 c5 1 1 _ rfl rfl (by decide) (by decide) (hs5.kept (by (repeat' first | with_reducible assumption | exact Below.refl _ _ | with_reducible refine Below.drew ?_ | with_reducible refine Below.drewN ?_ _ | with_reducible refine Below.alloc' ?_ _ | with_reducible refine Below.setCell ?_ (by first | exact Nat.le_refl _ | omega | (simp; done) | (simp; omega)) _ | with_reducible refine Below.after ?_ ‹_›))) (strss_one _ _ 2 2 [xB, xC] 31 rfl (strs_lit w9 [xB, xC] 9) (by simp)) (by decide +kernel) (by decide +kernel)).mono ?_
  rintro e w10 ⟨rfl, hb10⟩
  go_wp2
  go_ret
  exact ⟨rfl, by (repeat' first | with_reducible assumption | exact Below.refl _ _ | with_reducible refine Below.drew ?_ | with_reducible refine Below.drewN ?_ _ | with_reducible refine Below.alloc' ?_ _ | with_reducible refine Below.setCell ?_ (by first | exact Nat.le_refl _ | omega | (simp; done) | (simp; omega)) _ | with_reducible refine Below.after ?_ ‹_›)⟩
end
end Go.Proofs.YtdkhajpkldjlmaaDoor
