/-
  Strings in a walk: the string of a list of bytes; a byte ahead of a string; one byte as a string.
-/
import Derived.Test.YtdkhajpkldjlmaaDoorMem
import Derived.Test.YtdkhajpkldjlmaaDoorNumText
namespace Go.Proofs.YtdkhajpkldjlmaaDoor
open Go.RowKit

/-- the string of a list of bytes -/
def str (l : List UInt8) : Value := .string ⟨l.toArray⟩
theorem str_of {s : ByteArray} {l : List UInt8} (h : s.data.toList = l) : Value.string s = str l := by
  unfold str
  congr 1
  apply ByteArray.ext
  show s.data = l.toArray
  rw [← h]
theorem data_add (c : UInt8) (s : ByteArray) : ((⟨#[c]⟩ : ByteArray) ++ s).data.toList = c :: s.data.toList := by
  simp [ByteArray.data_append]
theorem data_app (a b : ByteArray) : (a ++ b).data.toList = a.data.toList ++ b.data.toList := by
  simp [ByteArray.data_append]
theorem size_add (c : UInt8) (s : ByteArray) : ((⟨#[c]⟩ : ByteArray) ++ s).size = s.size + 1 := by
  rw [ByteArray.size_append]
  show 1 + s.size = _
  omega
theorem div_next {N k m : Nat} (h : N / 10 ^ k = m) : N / 10 ^ (k + 1) = m / 10 := by
  rw [Nat.pow_succ, ← Nat.div_div_eq_div_mul, h]
theorem byte_dg (m : Nat) : UInt8.ofNat (48 + (m : Int) % 10).toNat = dg m := by
  unfold dg
  congr 1
theorem run_byte_string (x : Int) (W : World) :
    (convert 45 9 (.slice (some ⟨W.heap.size, 0, none⟩) 1 1)).run Tryd.prog (W.alloc (.cells #[.int .u8 x] 5)) =
      .ok (.string ⟨#[UInt8.ofNat x.toNat]⟩) (W.alloc (.cells #[.int .u8 x] 5)) := by
  rw [run_convert_bytes_string _ 45 9 5 _ _ _ Tryd.underlying45 Tryd.underlying5 Tryd.underlying9]
  rw [run_bytesToString _ _ _ _ [x]]
  · rfl
  · simp [go_sem, loadCells]
theorem size_of {s : ByteArray} {l : List UInt8} (h : s.data.toList = l) : s.size = l.length := by rw [← h]; rfl
theorem tail_at (s : ByteArray) (pos : Nat) (h : pos < s.size) : s.data.toList.drop pos = s[pos] :: s.data.toList.drop (pos + 1) := by
  have hl : pos < s.data.toList.length := by simpa using h
  rw [List.drop_eq_getElem_cons hl]; rfl
theorem tail_end (s : ByteArray) (pos : Nat) (h : ¬ pos < s.size) : s.data.toList.drop pos = [] := by
  apply List.drop_eq_nil_of_le
  have : s.data.toList.length = s.size := by simp
  omega
theorem isD_is (c : UInt8) : isD c = decide (48 ≤ c.toNat ∧ c.toNat ≤ 57) := rfl
theorem ext_data (s : ByteArray) (a b : Nat) : (s.extract a b).data.toList = (s.data.toList.drop a).take (b - a) := by
  obtain ⟨⟨l⟩⟩ := s
  rw [ByteArray.extract_mk]
theorem ext_size (s : ByteArray) (a b : Nat) (h : b ≤ s.size) : (s.extract a b).size = b - a := by
  rw [ByteArray.size_extract]
  omega
/-- s[:n] -/
theorem slice_to (s : ByteArray) (n : Nat) (h : n ≤ s.size) : ∃ a : ByteArray, a.data.toList = s.data.toList.take n ∧ a.size = n ∧
    ∀ W, (Instr.slice 9 (.string s) none (some (.int .i64 n)) none).run Tryd.prog W = .ok (.string a) W := by
  refine ⟨s.extract 0 n, by rw [ext_data]; rfl, by rw [ext_size _ _ _ h]; rfl, fun W => ?_⟩
  rw [run_slice_string_to_if _ _ _ _ _ Tryd.underlying9, if_pos ⟨by omega, by omega⟩]
  rfl
/-- s[i:j] -/
theorem slice_mid (s : ByteArray) (n i j : Nat) (I J : Int) (hI : (i : Int) = I) (hJ : (j : Int) = J) (hij : i ≤ j) (h : n + j ≤ s.size) : ∃ a : ByteArray, a.data.toList = (s.data.toList.drop (n + i)).take (j - i) ∧ a.size = j - i ∧
    ∀ W, (Instr.slice 9 (.string s) (some (.int .i64 ((n : Int) + I))) (some (.int .i64 ((n : Int) + J))) none).run Tryd.prog W = .ok (.string a) W := by
  subst hI hJ
  refine ⟨s.extract (n + i) (n + j), by rw [ext_data, Nat.add_sub_add_left], by rw [ext_size _ _ _ h, Nat.add_sub_add_left], fun W => ?_⟩
  rw [run_slice_string _ _ _ _ _ _ _ Tryd.underlying9 (by omega) (by omega) (by omega)]
  rfl
/-- s[i:] -/
theorem slice_from (s : ByteArray) (n i : Nat) (I : Int) (hI : (i : Int) = I) (h : n + i ≤ s.size) : ∃ a : ByteArray, a.data.toList = s.data.toList.drop (n + i) ∧ a.size = s.size - (n + i) ∧
    ∀ W, (Instr.slice 9 (.string s) (some (.int .i64 ((n : Int) + I))) none none).run Tryd.prog W = .ok (.string a) W := by
  subst hI
  refine ⟨s.extract (n + i) s.size, by rw [ext_data]; exact List.take_of_length_le (by simp), by rw [ext_size _ _ _ (Nat.le_refl _)], fun W => ?_⟩
  rw [run_slice_string_from_if _ _ _ _ _ Tryd.underlying9, if_pos ⟨by omega, by omega⟩]
  rfl
/-- for a measure: how long the string in a slot is -/
def lenOf : Value → Nat | .string s => s.size | _ => 0
end Go.Proofs.YtdkhajpkldjlmaaDoor
