/- The walks of GeomOver, GeomMoves, GeomNear, over the numbers as a row reads them. Conditions: the numbers are of 32 bits. -/
import Derived.Test.YtmgopmcindlcmaaGj
import Derived.Test.YtmgopmcindlcmaaGr
namespace Go.Proofs.Ytmgopmcindlcmaa
open Go.RowKit
set_option linter.unusedVariables false

theorem rowOver (x0a x0b x0c x0d x1a x1b x1c x1d : Int) (w : World) (h0a : (Lit.int .i32 x0a).wf = true) (h0b : (Lit.int .i32 x0b).wf = true) (h0c : (Lit.int .i32 x0c).wf = true) (h0d : (Lit.int .i32 x0d).wf = true) (h1a : (Lit.int .i32 x1a).wf = true) (h1b : (Lit.int .i32 x1b).wf = true) (h1c : (Lit.int .i32 x1c).wf = true) (h1d : (Lit.int .i32 x1d).wf = true) : Calls Try.prog 3 #[.agg #[.int .i32 x0a, .int .i32 x0b, .int .i32 x0c, .int .i32 x0d], .agg #[.int .i32 x1a, .int .i32 x1b, .int .i32 x1c, .int .i32 x1d]] w fun e w' => e = .returned (.bool true) ∧ Below w.heap.size w w' :=
  gOver ⟨x0a, x0b, x0c, x0d⟩ ⟨x1a, x1b, x1c, x1d⟩ w ⟨i32_of h0a, i32_of h0b, i32_of h0c, i32_of h0d⟩ ⟨i32_of h1a, i32_of h1b, i32_of h1c, i32_of h1d⟩
theorem rowMoves (x0 x1 x2a x2b : Int) (w : World) (h0 : (Lit.int .i32 x0).wf = true) (h1 : (Lit.int .i32 x1).wf = true) (h2a : (Lit.int .i32 x2a).wf = true) (h2b : (Lit.int .i32 x2b).wf = true) : Calls Try.prog 4 #[.int .i32 x0, .int .i32 x1, .agg #[.int .i32 x2a, .int .i32 x2b]] w fun e w' => e = .returned (.bool true) ∧ Below w.heap.size w w' :=
  gMoves x0 x1 x2a x2b w (i32_of h0) (i32_of h1) (i32_of h2a) (i32_of h2b)
theorem rowNear (x0a x0b x0c x0d x1a x1b x1c x1d : Int) (w : World) (h0a : (Lit.int .i32 x0a).wf = true) (h0b : (Lit.int .i32 x0b).wf = true) (h0c : (Lit.int .i32 x0c).wf = true) (h0d : (Lit.int .i32 x0d).wf = true) (h1a : (Lit.int .i32 x1a).wf = true) (h1b : (Lit.int .i32 x1b).wf = true) (h1c : (Lit.int .i32 x1c).wf = true) (h1d : (Lit.int .i32 x1d).wf = true) : Calls Try.prog 5 #[.agg #[.int .i32 x0a, .int .i32 x0b, .int .i32 x0c, .int .i32 x0d], .agg #[.int .i32 x1a, .int .i32 x1b, .int .i32 x1c, .int .i32 x1d]] w fun e w' => e = .returned (.bool true) ∧ Below w.heap.size w w' :=
  gNear ⟨x0a, x0b, x0c, x0d⟩ ⟨x1a, x1b, x1c, x1d⟩ w ⟨i32_of h0a, i32_of h0b, i32_of h0c, i32_of h0d⟩ ⟨i32_of h1a, i32_of h1b, i32_of h1c, i32_of h1d⟩
end Go.Proofs.Ytmgopmcindlcmaa
