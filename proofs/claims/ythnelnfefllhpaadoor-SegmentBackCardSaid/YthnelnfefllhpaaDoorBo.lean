/- The arguments of SegmentScans as they come in. -/
import Derived.Test.YthnelnfefllhpaaDoorBn
import Derived.Test.YthnelnfefllhpaaDoorBr
import Derived.Test.YthnelnfefllhpaaDoorQo
import Derived.Test.YthnelnfefllhpaaDoorLaid
namespace Go.Proofs.YthnelnfefllhpaaDoor
open Go.RowKit
set_option linter.unusedVariables false
theorem rowScans (s : ByteArray) (n : Int) (W : World) (hs : s.size ≤ maxLen) (hn : (Lit.int .u64 n).wf = true) (hL : laidMetH Tryd.prog laidList W) :
    Calls Tryd.prog 3 #[.string s, .int .u64 n] W fun e w' => e = .returned (.bool true) ∧ Below W.heap.size W w' := by
  obtain ⟨k, rfl, hk⟩ := n_u64 hn
  have := law_scans s.data.toList k W (by simpa using hs) hk (tab_of_laid hL)
  rwa [← str_of] at this
theorem rowOrder (s : ByteArray) (n : Int) (W : World) (hs : s.size ≤ maxLen) (hn : (Lit.int .u64 n).wf = true) (hL : laidMetH Tryd.prog laidList W) :
    Calls Tryd.prog 5 #[.string s, .int .u64 n] W fun e w' => e = .returned (.bool true) ∧ Below W.heap.size W w' := by
  obtain ⟨k, rfl, hk⟩ := n_u64 hn
  have := law_order s.data.toList k W (by simpa using hs) hk (tab_of_laid hL)
  rwa [← str_of] at this
end Go.Proofs.YthnelnfefllhpaaDoor
