/- The walk of GeomPoint, over the numbers as a row reads them. Conditions: the numbers are of 32 bits. -/
import Derived.Test.YtmgopmcindlcmaaGp
import Derived.Test.YtmgopmcindlcmaaGr
namespace Go.Proofs.Ytmgopmcindlcmaa
open Go.RowKit
set_option linter.unusedVariables false

theorem in40_max (a b : Int) (ha : in32 a) (hb : in32 b) : in40 (max a b) := by unfold in40; unfold in32 at *; omega
theorem in40_of (a : Int) (ha : in32 a) : in40 a := by unfold in40; unfold in32 at *; omega
theorem gPoint (a b : Bx) (u v : Int) (w : World) (ha : a.ok) (hb : b.ok) (hu : in32 u) (hv : in32 v) :
    Calls Try.prog 7 #[.agg #[.int .i32 a.x, .int .i32 a.y, .int .i32 a.u, .int .i32 a.v], .agg #[.int .i32 b.x, .int .i32 b.y, .int .i32 b.u, .int .i32 b.v], .agg #[.int .i32 u, .int .i32 v]] w fun e w' => e = .returned (.bool true) ∧ Below w.heap.size w w' :=
  point_walk a b u v _ _ (ovr a b) (has a (max a.x b.x) (max a.y b.y)) (has b (max a.x b.x) (max a.y b.y)) (ins a b) (has a u v) (has b u v) w rfl rfl
    (fun W => over a b W ha hb) (fun W => ovr_turned a b ▸ over b a W hb ha)
    (fun W => lawHas a _ _ W ha (in40_max _ _ ha.x hb.x) (in40_max _ _ ha.y hb.y)) (fun W => lawHas b _ _ W hb (in40_max _ _ ha.x hb.x) (in40_max _ _ ha.y hb.y))
    (fun W => inside a b W ha hb) (fun W => lawHas a u v W ha (in40_of _ hu) (in40_of _ hv)) (fun W => lawHas b u v W hb (in40_of _ hu) (in40_of _ hv))
    ha.x ha.y hb.x hb.y hu hv (point_says a b u v)
theorem rowPoint (x0a x0b x0c x0d x1a x1b x1c x1d x2a x2b : Int) (w : World) (h0a : (Lit.int .i32 x0a).wf = true) (h0b : (Lit.int .i32 x0b).wf = true) (h0c : (Lit.int .i32 x0c).wf = true) (h0d : (Lit.int .i32 x0d).wf = true) (h1a : (Lit.int .i32 x1a).wf = true) (h1b : (Lit.int .i32 x1b).wf = true) (h1c : (Lit.int .i32 x1c).wf = true) (h1d : (Lit.int .i32 x1d).wf = true) (h2a : (Lit.int .i32 x2a).wf = true) (h2b : (Lit.int .i32 x2b).wf = true) : Calls Try.prog 7 #[.agg #[.int .i32 x0a, .int .i32 x0b, .int .i32 x0c, .int .i32 x0d], .agg #[.int .i32 x1a, .int .i32 x1b, .int .i32 x1c, .int .i32 x1d], .agg #[.int .i32 x2a, .int .i32 x2b]] w fun e w' => e = .returned (.bool true) ∧ Below w.heap.size w w' :=
  gPoint ⟨x0a, x0b, x0c, x0d⟩ ⟨x1a, x1b, x1c, x1d⟩ x2a x2b w ⟨i32_of h0a, i32_of h0b, i32_of h0c, i32_of h0d⟩ ⟨i32_of h1a, i32_of h1b, i32_of h1c, i32_of h1d⟩ (i32_of h2a) (i32_of h2b)
end Go.Proofs.Ytmgopmcindlcmaa
