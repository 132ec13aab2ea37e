/-
  The contracts of package clock, gathered.
-/
import Derived.Test.YtjmbbhhfbdjbdaaDoorClkK
import Derived.Test.YtjmbbhhfbdjbdaaDoorClkP
import Derived.Test.YtjmbbhhfbdjbdaaDoorClkX
import Derived.Test.YtjmbbhhfbdjbdaaDoorClkY
namespace Go.Proofs.YtjmbbhhfbdjbdaaDoor
open Go.RowKit

theorem contracts : ClkCon := {
  date := fun t w => (date_any t w).mono (by rintro e w' ⟨h1, rfl⟩; exact ⟨h1, Below.refl _ _⟩)
  weekday := fun d w => (weekday_any d w).mono (by rintro e w' ⟨h1, rfl⟩; exact ⟨h1, Below.refl _ _⟩)
  format := fun t w hT => format_any t w hT
  parse := fun s w _ hT => parse_any s w hT
  merge := fun a l n cap w hn hb hl => (merge_any a l n cap w hn (by omega) hl).mono (fun _ _ h => h.list)
  inside := fun a l n cap t w hn hb hl => inside_any a l n cap t w hn (by omega) hl
  common := fun a b l m n n' cap cap' w hn hn' hb hb' hl hm => (common_any a b l m n n' cap cap' w hn hn' (by omega) (by omega) hl hm).mono (fun _ _ h => h.list)
  opens := fun cs wk t w h => open_any cs wk t w h
  next := fun cs wk t w h => next_any cs wk t w h }
end Go.Proofs.YtjmbbhhfbdjbdaaDoor
