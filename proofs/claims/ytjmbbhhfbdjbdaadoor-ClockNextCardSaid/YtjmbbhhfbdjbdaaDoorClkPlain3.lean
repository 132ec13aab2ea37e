/-
  Plain: the first open moment of a week.
-/
import Derived.Test.YtjmbbhhfbdjbdaaDoorClkF
namespace Go.Proofs.YtjmbbhhfbdjbdaaDoor

/-- the window of a day -/
def dayW (wk : List (Int × Int)) (d : Int) : Int × Int := wk[(d % 7).toNat]?.getD (0, 0)
theorem opB_day (wk : List (Int × Int)) (t : Int) : opB wk t = (decide ((dayW wk (t / 86400)).1 ≤ t % 86400) && decide (t % 86400 < (dayW wk (t / 86400)).2)) := rfl
/-- whether a day has a window that begins at t or later -/
def candB (wk : List (Int × Int)) (t d : Int) : Bool := decide ((dayW wk d).1 < (dayW wk d).2) && decide (t ≤ d * 86400 + (dayW wk d).1)

/-- what Next returns: the number and the error -/
def NextIs (wk : List (Int × Int)) (t n e : Int) : Prop :=
  (e = 1 ∧ n = 0 ∧ (mB t && wk.all dB) = false) ∨
  (e = 0 ∧ (mB t && wk.all dB) = true ∧ t ≤ n ∧ n ≤ 3155759999 ∧ opB wk n = true ∧ ∀ u, t ≤ u → u < n → opB wk u = false) ∨
  (e = 7 ∧ n = 0 ∧ (mB t && wk.all dB) = true ∧ ∀ u, t ≤ u → u ≤ 3155759999 → opB wk u = false)

theorem next_unique {wk : List (Int × Int)} {t n e n' e' : Int} (h : NextIs wk t n e) (h' : NextIs wk t n' e') : n = n' ∧ e = e' := by
  rcases h with ⟨rfl, rfl, h1⟩ | ⟨rfl, h1, h2, h3, h4, h5⟩ | ⟨rfl, rfl, h1, h2⟩
  · rcases h' with ⟨rfl, rfl, g1⟩ | ⟨rfl, g1, _⟩ | ⟨rfl, rfl, g1, _⟩
    · exact ⟨rfl, rfl⟩
    · rw [h1] at g1; cases g1
    · rw [h1] at g1; cases g1
  · rcases h' with ⟨rfl, rfl, g1⟩ | ⟨rfl, g1, g2, g3, g4, g5⟩ | ⟨rfl, rfl, g1, g2⟩
    · rw [h1] at g1; cases g1
    · rcases Int.lt_trichotomy n n' with hlt | heq | hgt
      · have := g5 n h2 hlt; rw [h4] at this; cases this
      · exact ⟨heq, rfl⟩
      · have := h5 n' g2 hgt; rw [g4] at this; cases this
    · have := g2 n h2 h3; rw [h4] at this; cases this
  · rcases h' with ⟨rfl, rfl, g1⟩ | ⟨rfl, g1, g2, g3, g4, g5⟩ | ⟨rfl, rfl, g1, g2⟩
    · rw [h1] at g1; cases g1
    · have := h2 n' g2 g3; rw [g4] at this; cases this
    · exact ⟨rfl, rfl⟩

theorem dayW_right {wk : List (Int × Int)} (h : wk.all dB = true) (hl : wk.length = 7) (d : Int) : 0 ≤ (dayW wk d).1 ∧ (dayW wk d).1 ≤ (dayW wk d).2 ∧ (dayW wk d).2 ≤ 86400 := by
  have hk : (d % 7).toNat < wk.length := by omega
  have := List.all_eq_true.1 h _ (List.getElem_mem hk)
  unfold dayW
  rw [List.getElem?_eq_getElem hk]
  simp [dB] at this
  simp only [Option.getD_some]
  omega

/-- a day without such a window is closed from t on -/
theorem closed_day {wk : List (Int × Int)} {t u : Int} (hn : opB wk t = false) (hu : t ≤ u) (hr : ∀ d, 0 ≤ (dayW wk d).1) (hc : candB wk t (u / 86400) = false) : opB wk u = false := by
  rw [opB_day] at hn ⊢
  unfold candB at hc
  have h0 := hr (u / 86400)
  by_cases hd : u / 86400 = t / 86400
  · rw [hd] at hc h0 ⊢
    revert hn hc h0
    generalize dayW wk (t / 86400) = z
    intro hn hc h0
    simp at *
    omega
  · revert hc h0
    generalize dayW wk (u / 86400) = z
    intro hc h0
    simp at *
    omega
/-- the window found is the first open moment -/
theorem next_found {wk : List (Int × Int)} {t d : Int} (hv : (mB t && wk.all dB) = true) (hl : wk.length = 7) (hn : opB wk t = false) (hd2 : d ≤ 36524) (hc : candB wk t d = true)
    (hf : ∀ i, t / 86400 ≤ i → i < d → candB wk t i = false) : NextIs wk t (d * 86400 + (dayW wk d).1) 0 := by
  have hv' : mB t = true ∧ wk.all dB = true := by simpa using hv
  have hw := dayW_right hv'.2 hl
  have hd := hw d
  have hc' : (dayW wk d).1 < (dayW wk d).2 ∧ t ≤ d * 86400 + (dayW wk d).1 := by simpa [candB] using hc
  have hm := mB_true.1 hv'.1
  have e1 : (d * 86400 + (dayW wk d).1) / 86400 = d := by omega
  have e2 : (d * 86400 + (dayW wk d).1) % 86400 = (dayW wk d).1 := by omega
  refine Or.inr (Or.inl ⟨rfl, hv, hc'.2, by omega, ?_, fun u h1 h2 => ?_⟩)
  · rw [opB_day, e1, e2]
    simp
    exact hc'.1
  · by_cases hud : u / 86400 < d
    · exact closed_day hn h1 (fun i => (hw i).1) (hf _ (by omega) hud)
    · have : u / 86400 = d := by omega
      rw [opB_day, this]
      have : u % 86400 < (dayW wk d).1 := by omega
      simp
      omega
theorem next_none {wk : List (Int × Int)} {t : Int} (hv : (mB t && wk.all dB) = true) (hl : wk.length = 7) (hn : opB wk t = false)
    (hf : ∀ i, t / 86400 ≤ i → i ≤ t / 86400 + 7 → i ≤ 36524 → candB wk t i = false) : NextIs wk t 0 7 := by
  have hv' : mB t = true ∧ wk.all dB = true := by simpa using hv
  have hw := dayW_right hv'.2 hl
  have hm := mB_true.1 hv'.1
  refine Or.inr (Or.inr ⟨rfl, rfl, hv, fun u h1 h2 => ?_⟩)
  by_cases hu : u / 86400 ≤ t / 86400 + 7
  · exact closed_day hn h1 (fun i => (hw i).1) (hf _ (by omega) hu (by omega))
  · -- a day of the same weekday, a later one than that of t
    obtain ⟨i, hi1, hi2, hi3⟩ : ∃ i, t / 86400 + 1 ≤ i ∧ i ≤ t / 86400 + 7 ∧ i % 7 = u / 86400 % 7 :=
      ⟨t / 86400 + 1 + (u / 86400 - t / 86400 - 1) % 7, by omega, by omega, by omega⟩
    have hc := hf i (by omega) hi2 (by omega)
    have hsame : dayW wk i = dayW wk (u / 86400) := by unfold dayW; rw [hi3]
    unfold candB at hc
    have h0 := (hw i).1
    rw [hsame] at hc h0
    rw [opB_day]
    revert hc h0
    generalize dayW wk (u / 86400) = z
    intro hc h0
    simp at *
    omega
end Go.Proofs.YtjmbbhhfbdjbdaaDoor
