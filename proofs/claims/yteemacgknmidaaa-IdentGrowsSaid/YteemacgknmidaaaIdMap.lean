/-
  A map from names to their numbers, against the list of the names.
-/
import Derived.Test.YteemacgknmidaaaIdK
import Derived.Maps.OwnSet
import Derived.StringKeys
namespace Go.Proofs.Yteemacgknmidaaa
set_option linter.unusedVariables false
set_option linter.unusedSimpArgs false
open Go.RowKit

abbrev keyL (s : ByteArray) : Lit := .string s.data.toList
theorem keyL_inj {s t : ByteArray} (h : s ≠ t) : keyL s ≠ keyL t := fun e => h (by
  simp only [keyL, Lit.string.injEq] at e
  exact ByteArray.ext (Array.toList_inj.1 e))
theorem findS_snoc (l : List ByteArray) (s x : ByteArray) : findS (l ++ [s]) x = if (findS l x).2 then findS l x else if s = x then ((l.length : Int), true) else (0, false) := by
  induction l with
  | nil => simp [findS]
  | cons y l ih =>
    rw [List.cons_append]
    by_cases hy : y = x
    · simp [findS, hy]
    · simp only [findS, hy, if_false, ih]
      cases hf : (findS l x).2
      · by_cases hs : s = x
        · simp [hs]
        · simp [hs]
      · simp [hf]

/-- the map D says what Find says of the list l -/
def MapOf (D : DataW Unit) (l : List ByteArray) : Prop :=
  Maps.IsMap D ∧ ∀ x, Maps.has D (keyL x) = (findS l x).2 ∧ D.atKey (keyL x) (.lit (.int .i64 0)) = .lit (.int .i64 (findS l x).1)
theorem mapOf_nil : MapOf (.map []) [] := ⟨Maps.isMap_empty, fun x => ⟨rfl, rfl⟩⟩
theorem mapOf_put {D : DataW Unit} {l : List ByteArray} {s : ByteArray} (h : MapOf D l) (hs : (findS l s).2 = false) : MapOf (D.put (keyL s) (.lit (.int .i64 l.length))) (l ++ [s]) := by
  refine ⟨h.1.put _ _, fun x => ?_⟩
  rw [findS_snoc]
  by_cases hx : s = x
  · subst hx
    rw [hs]
    exact ⟨by rw [Maps.has_put_same h.1 (show WideAt.IsKeyLit (keyL s) from trivial)]; simp, by rw [Maps.atKey_put_same h.1 (show WideAt.IsKeyLit (keyL s) from trivial)]; simp⟩
  · have hk := keyL_inj (Ne.symm hx)
    rw [Maps.has_put_other hk, Maps.atKey_put_other hk, (h.2 x).1, (h.2 x).2, if_neg hx]
    cases hf : (findS l x).2
    · have h0 : findS l x = (0, false) := by
        rcases findS_cases l x with ⟨k, _, _, _, e⟩ | ⟨_, e⟩
        · rw [e] at hf; cases hf
        · exact e
      simp [h0]
    · simp [hf]
theorem find_none_of {l : List ByteArray} {x : ByteArray} (h : (findS l x).2 = false) : findS l x = (0, false) := by
  rcases findS_cases l x with ⟨k, _, _, _, e⟩ | ⟨_, e⟩
  · rw [e] at h; cases h
  · exact e
end Go.Proofs.Yteemacgknmidaaa
