/-
  Walks over package span: sums of ends; Add, Sub, Sum.
-/
import Derived.Test.YtnehmkdcifgpnaaSpanC
namespace Go.Proofs.Ytnehmkdcifgpnaa
open Go.RowKit

def loSum (l : List (Int × Int)) : Int := (l.map Prod.fst).sum
def hiSum (l : List (Int × Int)) : Int := (l.map Prod.snd).sum
theorem loSum_succ (l : List (Int × Int)) (k : Nat) (hk : k < l.length) : loSum (l.take (k + 1)) = loSum (l.take k) + (l[k]?.getD (0, 0)).1 := by
  unfold loSum
  rw [List.take_add_one, List.map_append, List.sum_append]
  simp [List.getElem?_eq_getElem hk]
theorem hiSum_succ (l : List (Int × Int)) (k : Nat) (hk : k < l.length) : hiSum (l.take (k + 1)) = hiSum (l.take k) + (l[k]?.getD (0, 0)).2 := by
  unfold hiSum
  rw [List.take_add_one, List.map_append, List.sum_append]
  simp [List.getElem?_eq_getElem hk]
theorem allV_take {l : List (Int × Int)} (h : allV l = true) (k : Nat) : allV (l.take k) = true := by
  unfold allV at *
  rw [List.all_eq_true] at *
  exact fun z hz => h z (List.mem_of_mem_take hz)
theorem sums_bd : ∀ (l : List (Int × Int)), allV l = true →
    (-((l.length : Int) * 70368744177664) ≤ loSum l ∧ loSum l ≤ (l.length : Int) * 70368744177664) ∧ (-((l.length : Int) * 70368744177664) ≤ hiSum l ∧ hiSum l ≤ (l.length : Int) * 70368744177664)
  | [], _ => by simp [loSum, hiSum]
  | z :: l, h => by
    have h1 : vB z.1 z.2 = true ∧ allV l = true := by simpa [allV] using h
    have h2 := vB_true.1 h1.1
    have ih := sums_bd l h1.2
    have e1 : loSum (z :: l) = z.1 + loSum l := by simp [loSum]
    have e2 : hiSum (z :: l) = z.2 + hiSum l := by simp [hiSum]
    have e3 : ((z :: l).length : Int) = (l.length : Int) + 1 := by simp
    rw [e1, e2, e3]
    omega
theorem sums_bd_take {l : List (Int × Int)} (h : allV l = true) (k : Nat) (hk : k ≤ l.length) :
    (-((k : Int) * 70368744177664) ≤ loSum (l.take k) ∧ loSum (l.take k) ≤ (k : Int) * 70368744177664) ∧ (-((k : Int) * 70368744177664) ≤ hiSum (l.take k) ∧ hiSum (l.take k) ≤ (k : Int) * 70368744177664) := by
  have := sums_bd (l.take k) (allV_take h k)
  rwa [show ((l.take k).length : Int) = (k : Int) by rw [List.length_take]; omega] at this

theorem sums_bd_take_of {l : List (Int × Int)} {k : Nat} (h : allV (l.take k) = true) :
    (-((k : Int) * 70368744177664) ≤ loSum (l.take k) ∧ loSum (l.take k) ≤ (k : Int) * 70368744177664) ∧ (-((k : Int) * 70368744177664) ≤ hiSum (l.take k) ∧ hiSum (l.take k) ≤ (k : Int) * 70368744177664) := by
  have := sums_bd (l.take k) h
  have h2 : (l.take k).length ≤ k := by rw [List.length_take]; omega
  omega

theorem joinPlus_any (a b : Int) (s : Option Addr) (l : List (Int × Int)) (n cap : Nat) (w : World) (hn : l.length = n) (hb : n ≤ 65536) (hl : Spans w s l) (hv : allV l = true)
    (h0 : vB a b = true) :
    Calls Try.prog 37 #[.func (.func 38) #[] #[], .func (.func 38) #[] #[], .agg #[.int .i64 a, .int .i64 b], .slice s n cap] w fun e w' =>
      e = .returned (.agg #[.int .i64 (a + loSum l), .int .i64 (b + hiSum l)]) ∧ Below w.heap.size w w' := by
  have hab := vB_true.1 h0
  have := join_any 38 38 (fun k => a + loSum (l.take k)) (fun k => b + hiSum (l.take k)) s l n cap w hn (by omega) hl plus_enters plus_enters
    (fun k hk W => by
      have hk' : k < l.length := by omega
      have h1 := sums_bd_take hv k (by omega)
      have h2 := sums_bd_take hv (k + 1) (by omega)
      have e := loSum_succ l k hk'
      refine (plus_any _ _ W ?_).mono ?_
      · rw [Int.add_assoc, ← e]; omega
      · rintro r w' ⟨rfl, rfl⟩
        exact ⟨by rw [Int.add_assoc, ← e], rfl⟩)
    (fun k hk W => by
      have hk' : k < l.length := by omega
      have h1 := sums_bd_take hv k (by omega)
      have h2 := sums_bd_take hv (k + 1) (by omega)
      have e := hiSum_succ l k hk'
      refine (plus_any _ _ W ?_).mono ?_
      · rw [Int.add_assoc, ← e]; omega
      · rintro r w' ⟨rfl, rfl⟩
        exact ⟨by rw [Int.add_assoc, ← e], rfl⟩)
  have t0 : l.take n = l := by rw [← hn, List.take_length]
  simpa [t0, loSum, hiSum] using this

theorem joinPlus_one (a b c d : Int) (m : Nat) (w : World) (t : TypeId) (hm : m = w.heap.size) (h0 : vB a b = true) (h1 : vB c d = true) :
    Calls Try.prog 37 #[.func (.func 38) #[] #[], .func (.func 38) #[] #[], .agg #[.int .i64 a, .int .i64 b], .slice (some ⟨m, 0, none⟩) 1 1] (w.alloc (.cells #[.int .i64 c, .int .i64 d] t)) fun e w' =>
      e = .returned (.agg #[.int .i64 (a + c), .int .i64 (b + d)]) ∧ Below (w.alloc (.cells #[.int .i64 c, .int .i64 d] t)).heap.size (w.alloc (.cells #[.int .i64 c, .int .i64 d] t)) w' := by
  subst hm
  have := joinPlus_any a b (some ⟨w.heap.size, 0, none⟩) [(c, d)] 1 1 (w.alloc (.cells #[.int .i64 c, .int .i64 d] t)) rfl (by omega) (Spans_one w c d t) (by simp [allV, h1]) h0
  simpa [loSum, hiSum] using this

theorem joinEnds_one (a b c d : Int) (m : Nat) (w : World) (t : TypeId) (hm : m = w.heap.size) :
    Calls Try.prog 37 #[.func (.func 40) #[] #[], .func (.func 41) #[] #[], .agg #[.int .i64 a, .int .i64 b], .slice (some ⟨m, 0, none⟩) 1 1] (w.alloc (.cells #[.int .i64 c, .int .i64 d] t)) fun e w' =>
      e = .returned (.agg #[.int .i64 (min a c), .int .i64 (max b d)]) ∧ Below (w.alloc (.cells #[.int .i64 c, .int .i64 d] t)).heap.size (w.alloc (.cells #[.int .i64 c, .int .i64 d] t)) w' := by
  subst hm
  have := join_any 40 41 (fun k => if k = 0 then a else min a c) (fun k => if k = 0 then b else max b d) (some ⟨w.heap.size, 0, none⟩) [(c, d)] 1 1 (w.alloc (.cells #[.int .i64 c, .int .i64 d] t)) rfl (by omega) (Spans_one w c d t) lesser_enters larger_enters
    (fun k hk W => by
      obtain rfl : k = 0 := by omega
      exact (lesser_any a c W).mono fun _ _ ⟨h1, h2⟩ => ⟨by simpa using h1, h2.symm⟩)
    (fun k hk W => by
      obtain rfl : k = 0 := by omega
      exact (larger_any b d W).mono fun _ _ ⟨h1, h2⟩ => ⟨by simpa using h1, h2.symm⟩)
  simpa using this

theorem allValid_two (a b c d : Int) (m : Nat) (w : World) (t : TypeId) (hm : m = w.heap.size) (r : Bool) (h : (vB a b && vB c d) = r) :
    Calls Try.prog 35 #[.slice (some ⟨m, 0, none⟩) 2 2] (w.alloc (.cells #[.int .i64 a, .int .i64 b, .int .i64 c, .int .i64 d] t)) fun e w' =>
      e = .returned (.bool r) ∧ Below (w.alloc (.cells #[.int .i64 a, .int .i64 b, .int .i64 c, .int .i64 d] t)).heap.size (w.alloc (.cells #[.int .i64 a, .int .i64 b, .int .i64 c, .int .i64 d] t)) w' := by
  subst hm
  have := allValid_any (some ⟨w.heap.size, 0, none⟩) [(a, b), (c, d)] 2 2 (w.alloc (.cells #[.int .i64 a, .int .i64 b, .int .i64 c, .int .i64 d] t)) rfl (by omega) (Spans_two w a b c d t)
  rwa [show allV [(a, b), (c, d)] = r by simpa [allV] using h] at this
end Go.Proofs.Ytnehmkdcifgpnaa
