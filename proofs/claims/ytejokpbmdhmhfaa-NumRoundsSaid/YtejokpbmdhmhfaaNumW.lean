/-
  The closed example that every law of package num ends with: it returns true.
-/
import Derived.Test.YtejokpbmdhmhfaaNumP
import Derived.Test.YtejokpbmdhmhfaaNumE
import Derived.Test.YtejokpbmdhmhfaaNumG
import Derived.Test.YtejokpbmdhmhfaaNumH
namespace Go.Proofs.Ytejokpbmdhmhfaa
open Go.RowKit

theorem add_is {a b x e : Int} (h : addS a b = (x, e)) (w : World) :
    Calls Try.prog 12 #[.int .i64 a, .int .i64 b] w fun r w' => r = .returned (.tuple #[.int .i64 x, .int .i64 e]) ∧ Below w.heap.size w w' := by
  have := add_any a b w
  rwa [h] at this
theorem scale_is {a b c m x e : Int} (h : scaleS a b c m = (x, e)) (w : World) :
    Calls Try.prog 21 #[.int .i64 a, .int .i64 b, .int .i64 c, .int .i64 m] w fun r w' => r = .returned (.tuple #[.int .i64 x, .int .i64 e]) ∧ Below w.heap.size w w' := by
  have := scale_any a b c m w
  rwa [h] at this
theorem gcd_is {a b x e : Int} (h : gcdS a b = (x, e)) (w : World) :
    Calls Try.prog 26 #[.int .i64 a, .int .i64 b] w fun r w' => r = .returned (.tuple #[.int .i64 x, .int .i64 e]) ∧ Below w.heap.size w w' := by
  have := gcd_any a b w
  rwa [h] at this
theorem sum3_is {a b c x e : Int} (h : sumS [a, b, c] = (x, e)) (w : World) (t : TypeId) :
    Calls Try.prog 19 #[.slice (some ⟨w.heap.size, 0, none⟩) 3 3] (w.alloc (.cells #[.int .i64 a, .int .i64 b, .int .i64 c] t)) fun r w' => r = .returned (.tuple #[.int .i64 x, .int .i64 e]) ∧ w.alloc (.cells #[.int .i64 a, .int .i64 b, .int .i64 c] t) = w' := by
  have := sum_any (some ⟨w.heap.size, 0, none⟩) [a, b, c] 3 3 (w.alloc (.cells #[.int .i64 a, .int .i64 b, .int .i64 c] t)) rfl (by omega) (Ints_three w a b c t)
  rwa [h] at this
theorem format_val {n p e : Int} {l : List UInt8} (h : fmtS n p = (l, e)) (w : World) :
    Calls Try.prog 28 #[.int .i64 n, .int .i64 p] w fun r w' => r = .returned (.tuple #[str l, .int .i64 e]) ∧ Below w.heap.size w w' := by
  have := format_any n p w
  rwa [h] at this
theorem parse_val {l : List UInt8} {p x e : Int} (h : parseS l p = (x, e)) (hl : l.length ≤ 1000) (w : World) :
    Calls Try.prog 30 #[.string ⟨l.toArray⟩, .int .i64 p] w fun r w' => r = .returned (.tuple #[.int .i64 x, .int .i64 e]) ∧ Below w.heap.size w w' := by
  have := parse_any ⟨l.toArray⟩ p w (by show l.toArray.size ≤ _; simp; omega)
  simp only [] at this
  rwa [h] at this

set_option maxRecDepth 100000 in
set_option maxHeartbeats 4000000 in
theorem awake_any (w : World) :
    Calls Try.prog 16 #[] w fun e w' => e = .returned (.bool true) ∧ Below w.heap.size w w' := by
  go_enter Try.func16, Try.ntmps16
  go_wp2_with fail
  refine (add_is (a := 2) (b := 3) (x := 5) (e := 0) (by decide) _).mono ?_
  rintro e w1 ⟨rfl, hb1⟩
  go_wp2_with fail
  refine (add_is (a := 1125899906842624) (b := 1) (x := 0) (e := 2) (by decide) _).mono ?_
  rintro e w2 ⟨rfl, hb2⟩
  go_wp2_with fail
  refine (scale_is (a := -7) (b := 1) (c := 2) (m := 0) (x := -4) (e := 0) (by decide) _).mono ?_
  rintro e w3 ⟨rfl, hb3⟩
  go_wp2_with fail
  refine (scale_is (a := 5) (b := 1) (c := 2) (m := 3) (x := 2) (e := 0) (by decide) _).mono ?_
  rintro e w4 ⟨rfl, hb4⟩
  go_wp2_with fail
  refine (sum3_is (a := 1125899906842624) (b := 1125899906842624) (c := -1125899906842624) (x := 1125899906842624) (e := 0) (by decide) _ _).mono ?_
  rintro e w5 ⟨rfl, rfl⟩
  have hb5 := (Below.refl w4.heap.size w4).alloc (Nat.le_refl _) (.cells #[.int .i64 1125899906842624, .int .i64 1125899906842624, .int .i64 (-1125899906842624)] 3)
  go_wp2_with fail
  refine (gcd_is (a := 12) (b := -18) (x := 6) (e := 0) (by decide) _).mono ?_
  rintro e w6 ⟨rfl, hb6⟩
  go_wp2_with fail
  refine (format_val (n := -5) (p := 2) (l := [45, 48, 46, 48, 53]) (e := 0) (by decide) _).mono ?_
  rintro e w7 ⟨rfl, hb7⟩
  unfold str
  go_wp2_with fail
  refine (parse_val (l := [49, 50, 46, 51, 48]) (p := 2) (x := 1230) (e := 0) (by decide) (by decide) _).mono ?_
  rintro e w8 ⟨rfl, hb8⟩
  go_wp2_with fail
  refine (parse_val (l := [49, 50, 46, 51]) (p := 2) (x := 0) (e := 3) (by decide) (by decide) _).mono ?_
  rintro e w9 ⟨rfl, hb9⟩
  go_wp2
  go_ret
  have c1 := hb1.trans (hb2.mono hb1.size)
  have c2 := c1.trans (hb3.mono c1.size)
  have c3 := c2.trans (hb4.mono c2.size)
  have c4 := c3.trans (hb5.mono c3.size)
  have c5 := c4.trans (hb6.mono c4.size)
  have c6 := c5.trans (hb7.mono c5.size)
  have c7 := c6.trans (hb8.mono c6.size)
  have c8 := c7.trans (hb9.mono c7.size)
  exact ⟨rfl, c8⟩
end Go.Proofs.Ytejokpbmdhmhfaa
