/- The row's walk: DiskPlays. -/
import Derived.Test.YtecchaogpcpooaaDs
import Derived.Test.YtecchaogpcpooaaEn
namespace Go.Proofs.Ytecchaogpcpooaa
open Go.RowKit
set_option linter.unusedVariables false
theorem rowPlays (qi : Int) (lo : Option Addr) (len cap : Nat) (l : List Act2) (W : World) (h : ActArg W lo len l) :
    Calls Try.prog 3 #[.int .i64 qi, .slice lo len cap] W fun E w' => E = .returned (.bool true) ∧ Below W.heap.size W w' := by
  obtain ⟨rfl, h1, h2⟩ := h
  exact law_plays qi l lo cap W h2 h1
end Go.Proofs.Ytecchaogpcpooaa
