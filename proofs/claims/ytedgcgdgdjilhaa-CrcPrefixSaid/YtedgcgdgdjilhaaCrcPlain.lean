/-
  Checksums and frames in plain words (no program): the register, its injectivity, frames and what opens.
-/
import Derived.Test.YtedgcgdgdjilhaaWirPlain
namespace Go.Proofs.Ytedgcgdgdjilhaa
set_option linter.unusedVariables false
set_option linter.unusedSimpArgs false

/-- one shift of the register -/
def bitS (x : Nat) : Nat := if x % 2 = 1 then (x / 2) ^^^ 3988292384 else x / 2
def bitsS : Nat → Nat → Nat
  | 0, x => x
  | k + 1, x => bitsS k (bitS x)
def byteS (x c : Nat) : Nat := bitsS 8 (x ^^^ c)
def runS : Nat → List UInt8 → Nat
  | x, [] => x
  | x, c :: r => runS (byteS x c.toNat) r
def extS (s : Nat) (l : List UInt8) : Nat := 4294967295 - runS (4294967295 - s) l
def sumS (l : List UInt8) : Nat := extS 0 l

theorem xor_lt32 {x y : Nat} (hx : x < 4294967296) (hy : y < 4294967296) : x ^^^ y < 4294967296 := by
  have := Nat.xor_lt_two_pow (n := 32) (show x < 2 ^ 32 by omega) (show y < 2 ^ 32 by omega)
  omega
theorem bitS_lt {x : Nat} (h : x < 4294967296) : bitS x < 4294967296 := by
  unfold bitS
  split
  · exact xor_lt32 (by omega) (by decide)
  · omega
theorem bitsS_lt : ∀ (k : Nat) {x : Nat}, x < 4294967296 → bitsS k x < 4294967296
  | 0, _, h => h
  | k + 1, _, h => bitsS_lt k (bitS_lt h)
theorem byteS_lt {x : Nat} {c : Nat} (h : x < 4294967296) (hc : c < 256) : byteS x c < 4294967296 := bitsS_lt 8 (xor_lt32 h (by omega))
theorem runS_lt : ∀ (l : List UInt8) {x : Nat}, x < 4294967296 → runS x l < 4294967296
  | [], _, h => h
  | c :: r, _, h => runS_lt r (byteS_lt h c.toNat_lt)
theorem extS_lt (s : Nat) (l : List UInt8) : extS s l < 4294967296 := by unfold extS; omega
theorem runS_cons (x : Nat) (c : UInt8) (r : List UInt8) : runS x (c :: r) = runS (byteS x c.toNat) r := rfl
theorem runS_append (l m : List UInt8) (x : Nat) : runS x (l ++ m) = runS (runS x l) m := by
  induction l generalizing x with
  | nil => rfl
  | cons c r ih => rw [List.cons_append, runS_cons, runS_cons, ih]
theorem ext_sum (l m : List UInt8) : extS (sumS l) m = sumS (l ++ m) := by
  have := runS_lt l (x := 4294967295 - 0) (by omega)
  unfold sumS extS
  rw [runS_append]
  congr 2
  omega
theorem ext_nil {s : Nat} (h : s < 4294967296) : extS s [] = s := by
  show 4294967295 - (4294967295 - s) = s
  omega

theorem xor_inj {x y z : Nat} (h : x ^^^ z = y ^^^ z) : x = y := by
  have := congrArg (· ^^^ z) h
  simpa [Nat.xor_assoc, Nat.xor_self] using this
theorem xor_inj' {x y z : Nat} (h : z ^^^ x = z ^^^ y) : x = y := by
  rw [Nat.xor_comm z x, Nat.xor_comm z y] at h
  exact xor_inj h
theorem top_bit {x y : Nat} (hx : x < 2147483648) (hy : y < 2147483648) : x ^^^ 3988292384 ≠ y := by
  intro h
  have h1 := congrArg (Nat.testBit · 31) h
  have hx31 : x.testBit 31 = false := Nat.testBit_lt_two_pow (by exact hx)
  have hy31 : y.testBit 31 = false := Nat.testBit_lt_two_pow (by exact hy)
  simp only [Nat.testBit_xor, hx31, hy31] at h1
  exact absurd h1 (by decide)
theorem bitS_inj {x y : Nat} (hx : x < 4294967296) (hy : y < 4294967296) (h : bitS x = bitS y) : x = y := by
  unfold bitS at h
  split at h <;> split at h
  · have := xor_inj h; omega
  · exact absurd h (top_bit (by omega) (by omega))
  · exact absurd h.symm (top_bit (by omega) (by omega))
  · omega
theorem bitsS_inj : ∀ (k : Nat) {x y : Nat}, x < 4294967296 → y < 4294967296 → bitsS k x = bitsS k y → x = y
  | 0, _, _, _, _, h => h
  | k + 1, _, _, hx, hy, h => bitS_inj hx hy (bitsS_inj k (bitS_lt hx) (bitS_lt hy) h)
theorem byteS_inj {x y c : Nat} (hx : x < 4294967296) (hy : y < 4294967296) (hc : c < 256) (h : byteS x c = byteS y c) : x = y :=
  xor_inj (bitsS_inj 8 (xor_lt32 hx (by omega)) (xor_lt32 hy (by omega)) h)
theorem byteS_inj' {x c d : Nat} (hx : x < 4294967296) (hc : c < 256) (hd : d < 256) (h : byteS x c = byteS x d) : c = d :=
  xor_inj' (bitsS_inj 8 (xor_lt32 hx (by omega)) (xor_lt32 hx (by omega)) h)
theorem runS_inj : ∀ (l : List UInt8) {x y : Nat}, x < 4294967296 → y < 4294967296 → runS x l = runS y l → x = y
  | [], _, _, _, _, h => h
  | c :: r, _, _, hx, hy, h => byteS_inj hx hy c.toNat_lt (runS_inj r (byteS_lt hx c.toNat_lt) (byteS_lt hy c.toNat_lt) h)
/-- one byte changed: another checksum -/
theorem sum_set (l : List UInt8) (i : Nat) (c : UInt8) {x : Nat} (hx : x < 4294967296) (h : i < l.length) (hne : c ≠ l[i]) : runS x (l.set i c) ≠ runS x l := by
  induction l generalizing i x with
  | nil => simp at h
  | cons d r ih =>
    cases i with
    | zero =>
      intro he
      rw [List.set_cons_zero, runS_cons, runS_cons] at he
      have := byteS_inj' hx c.toNat_lt d.toNat_lt (runS_inj r (byteS_lt hx c.toNat_lt) (byteS_lt hx d.toNat_lt) he)
      exact hne (UInt8.toNat_inj.1 this)
    | succ i =>
      rw [List.set_cons_succ, runS_cons, runS_cons]
      exact ih i (byteS_lt hx d.toNat_lt) (by simpa using h) (by simpa using hne)
theorem sumS_set {l : List UInt8} {i : Nat} {c : UInt8} (h : i < l.length) (hne : c ≠ l[i]) : sumS (l.set i c) ≠ sumS l := by
  intro he
  unfold sumS extS at he
  have h1 := runS_lt (l.set i c) (show 4294967295 - 0 < 4294967296 by omega)
  have h2 := runS_lt l (show 4294967295 - 0 < 4294967296 by omega)
  exact sum_set l i c (x := 4294967295 - 0) (by omega) h hne (by omega)

/-- a checksum in four bytes -/
def tailL (s : Nat) : List UInt8 := [UInt8.ofNat (s / 16777216 % 256), UInt8.ofNat (s / 65536 % 256), UInt8.ofNat (s / 256 % 256), UInt8.ofNat (s % 256)]
theorem tailL_length (s : Nat) : (tailL s).length = 4 := rfl
theorem tailL_inj {s t : Nat} (hs : s < 4294967296) (ht : t < 4294967296) (h : tailL s = tailL t) : s = t := by
  simp only [tailL, List.cons.injEq, and_true] at h
  obtain ⟨h1, h2, h3, h4⟩ := h
  have e1 := congrArg UInt8.toNat h1
  have e2 := congrArg UInt8.toNat h2
  have e3 := congrArg UInt8.toNat h3
  have e4 := congrArg UInt8.toNat h4
  rw [byte_of (Nat.mod_lt _ (by decide)), byte_of (Nat.mod_lt _ (by decide))] at e1 e2 e3 e4
  omega

def frameL (l : List UInt8) : List UInt8 := vL l.length ++ l ++ tailL (sumS l)
theorem frameL_length (l : List UInt8) : (frameL l).length = (vL l.length).length + l.length + 4 := by simp [frameL, tailL_length]; omega
/-- what opens at the beginning of l: the content, the bytes of the frame, the error -/
def openS (l : List UInt8) : List UInt8 × Nat × Int :=
  if (takeU l).2.2 = 0 then
    (if 65536 < (takeU l).1 then ([], 0, 8)
     else if l.length < (takeU l).2.1 + (takeU l).1 + 4 then ([], 0, 4)
     else if ((l.drop ((takeU l).2.1 + (takeU l).1)).take 4) = tailL (sumS ((l.drop (takeU l).2.1).take (takeU l).1)) then ((l.drop (takeU l).2.1).take (takeU l).1, (takeU l).2.1 + (takeU l).1 + 4, 0)
     else ([], 0, 15))
  else ([], 0, (takeU l).2.2)
theorem openS_err (l : List UInt8) : (openS l).2.2 = 0 ∨ ((openS l).2.2 ≠ 0 ∧ openS l = ([], 0, (openS l).2.2)) := by
  unfold openS
  split
  · split
    · exact .inr ⟨by decide, rfl⟩
    · split
      · exact .inr ⟨by decide, rfl⟩
      · split
        · exact .inl rfl
        · exact .inr ⟨by decide, rfl⟩
  · rename_i h
    exact .inr ⟨h, rfl⟩
/-- bytes of the form of a frame: what opens there -/
theorem open_form (d t r : List UInt8) (hd : d.length ≤ 65536) (ht : t.length = 4) :
    openS (vL d.length ++ d ++ t ++ r) = if t = tailL (sumS d) then (d, (vL d.length).length + d.length + 4, 0) else ([], 0, 15) := by
  have hp := take_put d.length (d ++ t ++ r) (by omega)
  rw [show vL d.length ++ (d ++ t ++ r) = vL d.length ++ d ++ t ++ r by simp] at hp
  unfold openS
  rw [hp]
  simp only [if_true]
  rw [if_neg (by omega), if_neg (by simp; omega)]
  have e1 : ((vL d.length ++ d ++ t ++ r).drop ((vL d.length).length + d.length)).take 4 = t := by
    rw [show vL d.length ++ d ++ t ++ r = (vL d.length ++ d) ++ (t ++ r) by simp, ← List.length_append, List.drop_left, ← ht, List.take_left]
  have e2 : ((vL d.length ++ d ++ t ++ r).drop (vL d.length).length).take d.length = d := by
    rw [show vL d.length ++ d ++ t ++ r = vL d.length ++ (d ++ (t ++ r)) by simp, List.drop_left, List.take_left]
  rw [e1, e2]
theorem open_frame (l r : List UInt8) (h : l.length ≤ 65536) : openS (frameL l ++ r) = (l, (frameL l).length, 0) := by
  rw [frameL_length]
  unfold frameL
  rw [open_form l (tailL (sumS l)) r h rfl, if_pos rfl]
theorem open_back {o d : List UInt8} {m : Nat} (h : openS o = (d, m, 0)) : o.take m = frameL d ∧ m = (frameL d).length ∧ m ≤ o.length ∧ d.length ≤ 65536 := by
  unfold openS at h
  split at h
  · rename_i h0
    obtain ⟨hu, hk, hko, hx⟩ := take_back (l := o) (x := (takeU o).1) (k := (takeU o).2.1) (by rw [← h0])
    split at h
    · simp at h
    · split at h
      · simp at h
      · split at h
        · rename_i h1 h2 h3
          simp only [Prod.mk.injEq, and_true] at h
          obtain ⟨rfl, rfl⟩ := h
          have hdl : ((o.drop (takeU o).2.1).take (takeU o).1).length = (takeU o).1 := by simp; omega
          refine ⟨?_, ?_, by omega, by omega⟩
          · unfold frameL
            rw [hdl, ← hu, ← h3, List.take_add, List.take_add]
          · rw [frameL_length, hdl, ← hu]
            simp
            omega
        · simp at h
  · rename_i h0
    simp only [Prod.mk.injEq] at h
    exact absurd h.2.2 h0
end Go.Proofs.Ytedgcgdgdjilhaa
