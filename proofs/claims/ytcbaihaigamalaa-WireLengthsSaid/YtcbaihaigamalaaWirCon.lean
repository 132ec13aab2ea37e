/-
  The contracts of the landed package wire, gathered: what the laws' walks ask.
-/
import Derived.Test.YtcbaihaigamalaaWirConD
import Derived.Test.YtcbaihaigamalaaWirK
namespace Go.Proofs.Ytcbaihaigamalaa
open Go.RowKit

theorem wirCon : WirCon where
  putUint a l n cap u w hn hb _ hl hu := (putUint_any a l n cap u w hn hb hl hu).mono fun _ _ h => h.gives
  takeUint a l n cap w hn hb _ hl := (takeUint_any a l n cap w hn (by omega) hl).mono fun _ _ ⟨h1, h2⟩ => ⟨h1, h2 ▸ Below.refl _ _⟩
  putInt a l n cap x w hn hb _ hl h1 h2 := (putInt_any a l n cap x w hn hb hl h1 h2).mono fun _ _ h => h.gives
  takeInt a l n cap w hn hb _ hl := (takeInt_any a l n cap w hn (by omega) hl).mono fun _ _ ⟨h1, h2⟩ => ⟨h1, h2 ▸ Below.refl _ _⟩
  putText a l n cap s w hn hb _ hl hs := (putText_any a l n cap s w hn hb hl hs).mono fun _ _ h => h.gives
  takeText a l n cap most w hn hb hc hl _ hm := (takeText_any a l n cap most w hn (by omega) hc hl hm).mono fun _ _ ⟨h1, h2⟩ => ⟨h1, h2 ▸ Below.refl _ _⟩
  putList a l n cap b x m c w hn hm hb hb2 _ _ hl hx hr := (putList_any a l n cap b x m c w hn hm hb hb2 hl hx hr).mono fun _ _ h => h.gives
  takeList a l n cap most w hn hb hc hl _ hm := takeList_any a l n cap most w hn hb hc hl hm
end Go.Proofs.Ytcbaihaigamalaa
