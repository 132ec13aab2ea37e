/-
  The contracts of package crc that the laws' walks ask, gathered in one structure; the laws' awake.
-/
import Derived.Test.YtedgcgdgdjilhaaCrcD
import Derived.Lib.SlBytesConst
namespace Go.Proofs.Ytedgcgdgdjilhaa
set_option linter.unusedVariables false
set_option linter.unusedSimpArgs false
open Go.RowKit

/-- a call that gives back bytes and an error -/
def GivesF (w : World) (r : List UInt8 × Int) (e : Ending) (w' : World) : Prop :=
  ∃ b c, e = .returned (.tuple #[.slice b r.1.length c, .int .i64 r.2]) ∧ r.1.length ≤ c ∧ Bytes w' b r.1 ∧ Below w.heap.size w w'
/-- a call that gives back bytes, a number and an error -/
def GivesO (w : World) (r : List UInt8 × Nat × Int) (e : Ending) (w' : World) : Prop :=
  ∃ b c, e = .returned (.tuple #[.slice b r.1.length c, .int .i64 (r.2.1 : Int), .int .i64 r.2.2]) ∧ r.1.length ≤ c ∧ Bytes w' b r.1 ∧ Below w.heap.size w w'
theorem GivesFrame.gives {w w' : World} {r : List UInt8 × Int} {e : Ending} (h : GivesFrame w r e w') : GivesF w r e w' := by
  obtain ⟨v, rfl, o, hb⟩ := h
  obtain ⟨b, c, rfl, h1, h2, h3, -⟩ := own_slice o
  exact ⟨b, c, rfl, h2, h3, hb⟩
theorem GivesOpen.gives {w w' : World} {r : List UInt8 × Nat × Int} {e : Ending} (h : GivesOpen w r e w') : GivesO w r e w' := by
  obtain ⟨v, rfl, o, hb⟩ := h
  obtain ⟨b, c, rfl, h1, h2, h3, -⟩ := own_slice o
  exact ⟨b, c, rfl, h2, h3, hb⟩

/-- what the laws' walks ask of package crc -/
structure CrcCon : Prop where
  sum : ∀ (a : Option Addr) (l : List UInt8) (n cap : Nat) (w : World) (_hn : l.length = n) (_hb : n ≤ 900000) (_hc : n ≤ cap) (_hl : Bytes w a l),
    Calls Try.prog 12 #[.slice a n cap] w fun e w' => e = .returned (.int .u32 (sumS l : Int)) ∧ Below w.heap.size w w'
  extend : ∀ (s : Nat) (a : Option Addr) (l : List UInt8) (n cap : Nat) (w : World) (_hs : s < 4294967296) (_hn : l.length = n) (_hb : n ≤ 900000) (_hc : n ≤ cap) (_hl : Bytes w a l),
    Calls Try.prog 15 #[.int .u32 (s : Int), .slice a n cap] w fun e w' => e = .returned (.int .u32 (extS s l : Int)) ∧ Below w.heap.size w w'
  frame : ∀ (a : Option Addr) (l : List UInt8) (n cap : Nat) (w : World) (_hn : l.length = n) (_hb : n ≤ 900000) (_hc : n ≤ cap) (_hl : Bytes w a l),
    Calls Try.prog 17 #[.slice a n cap] w (GivesF w (frameS l))
  open_ : ∀ (a : Option Addr) (l : List UInt8) (n cap : Nat) (w : World) (_hn : l.length = n) (_hb : n ≤ 900000) (_hc : n ≤ cap) (_hl : Bytes w a l),
    Calls Try.prog 19 #[.slice a n cap] w (GivesO w (openS l))
  all : ∀ (a : Option Addr) (l : List UInt8) (n cap : Nat) (w : World) (_hn : l.length = n) (_hb : n ≤ 900000) (_hc : n ≤ cap) (_hl : Bytes w a l),
    Calls Try.prog 22 #[.slice a n cap] w (GivesAll w (allS l))

section
variable (K : CrcCon)
include K
theorem CrcCon.sum_is {l : List UInt8} {x : Nat} (h : sumS l = x) (a : Option Addr) (n cap : Nat) (w : World) (hn : l.length = n) (hb : n ≤ 900000) (hc : n ≤ cap) (hl : Bytes w a l) :
    Calls Try.prog 12 #[.slice a n cap] w fun e w' => e = .returned (.int .u32 (x : Int)) ∧ Below w.heap.size w w' := by
  have := K.sum a l n cap w hn hb hc hl
  rwa [h] at this
theorem CrcCon.extend_is {s : Nat} {l : List UInt8} {x : Nat} (h : extS s l = x) (a : Option Addr) (n cap : Nat) (w : World) (hs : s < 4294967296) (hn : l.length = n) (hb : n ≤ 900000) (hc : n ≤ cap) (hl : Bytes w a l) :
    Calls Try.prog 15 #[.int .u32 (s : Int), .slice a n cap] w fun e w' => e = .returned (.int .u32 (x : Int)) ∧ Below w.heap.size w w' := by
  have := K.extend s a l n cap w hs hn hb hc hl
  rwa [h] at this
theorem CrcCon.frame_is {l f : List UInt8} {e : Int} {m : Nat} (h : frameS l = (f, e)) (hm : f.length = m) (a : Option Addr) (n cap : Nat) (w : World) (hn : l.length = n) (hb : n ≤ 900000) (hc : n ≤ cap) (hl : Bytes w a l) :
    Calls Try.prog 17 #[.slice a n cap] w fun e' w' => ∃ b c, e' = .returned (.tuple #[.slice b m c, .int .i64 e]) ∧ m ≤ c ∧ Bytes w' b f ∧ Below w.heap.size w w' := by
  have := K.frame a l n cap w hn hb hc hl
  unfold GivesF at this
  subst hm
  rwa [h] at this
theorem CrcCon.open_is {l d : List UInt8} {q : Nat} {e : Int} {m : Nat} (h : openS l = (d, q, e)) (hm : d.length = m) (a : Option Addr) (n cap : Nat) (w : World) (hn : l.length = n) (hb : n ≤ 900000) (hc : n ≤ cap) (hl : Bytes w a l) :
    Calls Try.prog 19 #[.slice a n cap] w fun e' w' => ∃ b c, e' = .returned (.tuple #[.slice b m c, .int .i64 (q : Int), .int .i64 e]) ∧ m ≤ c ∧ Bytes w' b d ∧ Below w.heap.size w w' := by
  have := K.open_ a l n cap w hn hb hc hl
  unfold GivesO at this
  subst hm
  rwa [h] at this
theorem CrcCon.all_is {l : List UInt8} {ds : List (List UInt8)} {q m : Nat} (h : allS l = (ds, q)) (hm : ds.length = m) (a : Option Addr) (n cap : Nat) (w : World) (hn : l.length = n) (hb : n ≤ 900000) (hc : n ≤ cap) (hl : Bytes w a l) :
    Calls Try.prog 22 #[.slice a n cap] w fun e' w' => ∃ b c, e' = .returned (.tuple #[.slice b m c, .int .i64 (q : Int)]) ∧ m ≤ c ∧ Bytess w' b ds ∧ Below w.heap.size w w' := by
  have := K.all a l n cap w hn hb hc hl
  unfold GivesAll at this
  subst hm
  rwa [h] at this
end
/-- bytes of a constant: a block with a mark -/
theorem reads_mark (w : World) (vs : List Value) (t : TypeId) (fr : Nat × Nat) {m : Nat} (hm : m = w.heap.size) : Reads (w.alloc (.cells vs.toArray t fr)) (some ⟨m, 0, none⟩) vs := by
  subst hm
  intro _
  refine ⟨w.heap.size, 0, rfl, fun k hk => ?_⟩
  rw [World.cell?_alloc_mark]
  simp
theorem vL_9 : vL 9 = [9] := by rw [vL_one (by decide)]; rfl
theorem frame_nine : frameS [49, 50, 51, 52, 53, 54, 55, 56, 57] = ([9, 49, 50, 51, 52, 53, 54, 55, 56, 57, 203, 244, 57, 38], 0) := by
  unfold frameS
  rw [if_neg (by decide)]
  unfold frameL
  rw [show ([49, 50, 51, 52, 53, 54, 55, 56, 57] : List UInt8).length = 9 from rfl, vL_9]
  decide +kernel

section
variable (K : CrcCon)
include K
set_option maxRecDepth 100000 in
set_option maxHeartbeats 8000000 in
theorem crcAwake_any (w : World) :
    Calls Try.prog 14 #[] w fun e w' => e = .returned (.bool true) ∧ Below w.heap.size w w' := by
  have E2 := Lib.hid (show openS [0, 0, 0, 0, 0, 120] = ([], 5, 0) by decide +kernel)
  have E3 := Lib.hid (show openS [0, 0, 0, 0, 1] = ([], 0, 15) by decide +kernel)
  have E4 := Lib.hid (show allS [9, 49, 50, 51, 52, 53, 54, 55, 56, 57, 203, 244, 57, 38, 9] = ([[49, 50, 51, 52, 53, 54, 55, 56, 57]], 14) by decide +kernel)
  have E5 := Lib.hid (show sumS [49, 50, 51, 52, 53, 54, 55, 56, 57] = 3421780262 by decide +kernel)
  have E6 := Lib.hid (show sumS [] = 0 by decide +kernel)
  have kc := fun (w : World) (C : Array Value) (n c : Nat) => Lib.run_convert_bytes_const (P := Try.prog) w 22 5 C n c Try.underlying22 Try.underlying5
  go_enter Try.func14, Try.ntmps14
  go_wp2_with fail
  refine (K.frame_is (m := 14) frame_nine rfl _ 9 9 _ rfl (by decide) (by decide) (reads_mark w (bytV [49, 50, 51, 52, 53, 54, 55, 56, 57]) 5 _ rfl)).mono ?_
  rintro e w1 ⟨b1, c1, rfl, hc1, hr1, hb1⟩
  go_wp2_with fail
  refine (K.open_is (m := 0) E2.out rfl _ 6 6 _ rfl (by decide) (by decide) (reads_mark w1 (bytV [0, 0, 0, 0, 0, 120]) 5 _ rfl)).mono ?_
  rintro e w2 ⟨b2, c2, rfl, hc2, hr2, hb2⟩
  go_wp2_with fail
  refine (K.open_is (m := 0) E3.out rfl _ 5 5 _ rfl (by decide) (by decide) (reads_mark w2 (bytV [0, 0, 0, 0, 1]) 5 _ rfl)).mono ?_
  rintro e w3 ⟨b3, c3, rfl, hc3, hr3, hb3⟩
  have HR1 := Lib.hid (show Bytes w3 b1 [9, 49, 50, 51, 52, 53, 54, 55, 56, 57, 203, 244, 57, 38] from hr1.kept (by (repeat' first | with_reducible assumption | exact Below.refl _ _ | with_reducible refine Below.drew ?_ | with_reducible refine Below.drewN ?_ _ | with_reducible refine Below.alloc' ?_ _ | with_reducible refine Below.setCell ?_ (by first | exact Nat.le_refl _ | omega | (simp; done) | (simp; omega)) _ | with_reducible refine Below.after ?_ ‹_›)))
  have HB3 : Below w.heap.size w w3 := by (repeat' first | with_reducible assumption | exact Below.refl _ _ | with_reducible refine Below.drew ?_ | with_reducible refine Below.drewN ?_ _ | with_reducible refine Below.alloc' ?_ _ | with_reducible refine Below.setCell ?_ (by first | exact Nat.le_refl _ | omega | (simp; done) | (simp; omega)) _ | with_reducible refine Below.after ?_ ‹_›)
  have HZ3 := HB3.size
  clear hr1 hr2 hr3 hb2 hb3
  go_wp2_with (first
    | (at_builtin; refine wpList_append_reads rfl (.tmp 32) (.tmp 33) Try.underlying22 info_byte rfl (by omega) rfl w3.heap.size (.slice (some ⟨w3.heap.size, 0, none⟩) 0 0) 0 [] rfl (own_made w3 _ rfl (Nat.le_refl _)) b1 14 c1 (bytV [9, 49, 50, 51, 52, 53, 54, 55, 56, 57, 203, 244, 57, 38]) rfl rfl (HR1.out.kept ((Below.refl _ w3).alloc (Nat.le_refl _) _)) (bytV_one _) (by omega) (by simp) ?_; intro v4 w4 o4 g4 e4; have hb4 : Below w3.heap.size w3 w4 := below_grown (Below.refl _ w3) g4 (fun g hg => by simp [Value.ownBlock] at hg; omega); have hs4 := hb4.size)
    | (at_builtin; refine wpList_append_reads rfl (.tmp 34) (.tmp 35) Try.underlying22 info_byte rfl (by omega) rfl w3.heap.size _ 14 _ rfl (o4.alloc _) (some ⟨w4.heap.size, 0, none⟩) 1 1 (bytV [9]) rfl rfl (reads_lit w4 (bytV [9]) _ rfl) (bytV_one _) (by omega) (by simp; omega) ?_; intro v5 w5 o5 g5 e5; have hb5 : Below w3.heap.size w3 w5 := below_grown hb4 g5 (own_base o4); obtain ⟨b5, c5, rfl, h5, hc5, hr5, -⟩ := own_slice o5))
  have HR5 : Bytes w5 b5 [9, 49, 50, 51, 52, 53, 54, 55, 56, 57, 203, 244, 57, 38, 9] := hr5
  have HB5 : Below w.heap.size w w5 := HB3.trans (hb5.mono HB3.size)
  have HZ5 := HB5.size
  have HR15 := HR1.out.kept hb5
  clear hr5 o5 o4 g4 g5 e4 e5 hb4
  refine (K.all_is (m := 1) E4.out rfl b5 15 c5 w5 rfl (by decide) hc5 HR5).mono ?_
  rintro e w6 ⟨b6, c6, rfl, hc6, hr6, hb6⟩
  go_wp2_with fail
  refine (K.sum_is E5.out _ 9 9 _ rfl (by decide) (by decide) (reads_mark w6 (bytV [49, 50, 51, 52, 53, 54, 55, 56, 57]) 5 _ rfl)).mono ?_
  rintro e w7 ⟨rfl, hb7⟩
  go_wp2_with fail
  refine (K.sum_is E6.out none 0 0 _ rfl (by decide) (by decide) (reads_nil _ _)).mono ?_
  rintro e w8 ⟨rfl, hb8⟩
  have hr8 : Bytes w8 b1 [9, 49, 50, 51, 52, 53, 54, 55, 56, 57, 203, 244, 57, 38] := HR15.kept (by (repeat' first | with_reducible assumption | exact Below.refl _ _ | with_reducible refine Below.drew ?_ | with_reducible refine Below.drewN ?_ _ | with_reducible refine Below.alloc' ?_ _ | with_reducible refine Below.setCell ?_ (by first | exact Nat.le_refl _ | omega | (simp; done) | (simp; omega)) _ | with_reducible refine Below.after ?_ ‹_›))
  have hr9 : Bytess w8 b6 [[49, 50, 51, 52, 53, 54, 55, 56, 57]] := hr6.kept (by (repeat' first | with_reducible assumption | exact Below.refl _ _ | with_reducible refine Below.drew ?_ | with_reducible refine Below.drewN ?_ _ | with_reducible refine Below.alloc' ?_ _ | with_reducible refine Below.setCell ?_ (by first | exact Nat.le_refl _ | omega | (simp; done) | (simp; omega)) _ | with_reducible refine Below.after ?_ ‹_›))
  obtain ⟨g, off, x, n, c, rfl, hcell, hn, hnc, hrx⟩ := hr9.at_ (k := 0) (by decide)
  rw [Nat.add_zero] at hcell
  have hn9 : n = 9 := hn.symm
  subst hn9
  have hv1 := run_string_bytes Try.underlying22 Try.underlying5 Try.underlying9 w8 b1 [9, 49, 50, 51, 52, 53, 54, 55, 56, 57, 203, 244, 57, 38] 14 c1 rfl hr8
  have hv2 := run_string_bytes Try.underlying22 Try.underlying5 Try.underlying9 w8 x [49, 50, 51, 52, 53, 54, 55, 56, 57] 9 c rfl hrx
  clear hr6 hr8 hr9 hrx hn hnc
  go_wp2
  go_ret
  refine ⟨rfl, HB5.trans ((?_ : Below w5.heap.size w5 _).mono HZ5)⟩
  (repeat' first | with_reducible assumption | exact Below.refl _ _ | with_reducible refine Below.drew ?_ | with_reducible refine Below.drewN ?_ _ | with_reducible refine Below.alloc' ?_ _ | with_reducible refine Below.setCell ?_ (by first | exact Nat.le_refl _ | omega | (simp; done) | (simp; omega)) _ | with_reducible refine Below.after ?_ ‹_›)
end
end Go.Proofs.Ytedgcgdgdjilhaa
