/- ManifestPuts, ManifestTakes, ManifestBack: the rows. -/
import Derived.Test.YtakejacamkdncaaDoorYa
import Derived.Test.YtakejacamkdncaaDoorMt
namespace Go.Proofs.YtakejacamkdncaaDoor
open Go.RowKit
set_option linter.unusedVariables false
theorem rowTakes (s : ByteArray) (W : World) (hs : s.size ≤ maxLen) (hL : laidMetH Tryd.prog laidList W) :
    Calls Tryd.prog 4 #[.string s] W fun E w' => E = .returned (.bool true) ∧ Below W.heap.size W w' := by
  have := law_takes s.data.toList W (by simpa using hs) (tab_of_laid hL)
  rwa [← str_of] at this
theorem rowBack (m : Mf) (so : Option Addr) (sc : Nat) (co : Option Addr) (cc : Nat) (s : ByteArray) (W : World) (h : MfAt W m so co) (hs : s.size ≤ maxLen) (hL : laidMetH Tryd.prog laidList W) :
    Calls Tryd.prog 5 #[.agg (mcs m so sc co cc), .string s] W fun E w' => E = .returned (.bool true) ∧ Below W.heap.size W w' := by
  have := law_back m so sc co cc s.data.toList W h (by simpa using hs) (tab_of_laid hL)
  rwa [← str_of] at this
end Go.Proofs.YtakejacamkdncaaDoor
