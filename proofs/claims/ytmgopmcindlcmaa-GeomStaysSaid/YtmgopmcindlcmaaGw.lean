/- The walk of GeomStays, over the numbers as a row reads them. Conditions: the numbers are of 32 bits. -/
import Derived.Test.YtmgopmcindlcmaaGs
import Derived.Test.YtmgopmcindlcmaaGr
namespace Go.Proofs.Ytmgopmcindlcmaa
open Go.RowKit
set_option linter.unusedVariables false

theorem near_turned (a b : Bx) : bo (max (gp b.x (b.x + po b.u) a.x (a.x + po a.u)) (gp b.y (b.y + po b.v) a.y (a.y + po a.v))) = bo (max (gp a.x (a.x + po a.u) b.x (b.x + po b.u)) (gp a.y (a.y + po a.v) b.y (b.y + po b.v))) := by
  congr 1
  unfold gp
  omega
theorem near_pos (a b : Bx) : 0 ≤ bo (max (gp a.x (a.x + po a.u) b.x (b.x + po b.u)) (gp a.y (a.y + po a.v) b.y (b.y + po b.v))) := by
  unfold bo cl gp
  omega
theorem near_over (a b : Bx) (h : ovr a b = true) : bo (max (gp a.x (a.x + po a.u) b.x (b.x + po b.u)) (gp a.y (a.y + po a.v) b.y (b.y + po b.v))) = 0 := by
  unfold ovr at h
  rw [decide_eq_true_iff] at h
  unfold Ovr at h
  unfold bo cl gp po
  omega
theorem cl_in (n l u : Int) (h : l ≤ u) : l ≤ cl n l u ∧ cl n l u ≤ u := by unfold cl; omega
theorem in32_min {a b : Int} (ha : in32 a) (hb : in32 b) : in32 (min a b) := by unfold in32 at *; omega
theorem in32_max {a b : Int} (ha : in32 a) (hb : in32 b) : in32 (max a b) := by unfold in32 at *; omega
theorem in32_cl {n l u : Int} (hl : in32 l) (hu : in32 u) : in32 (cl n l u) := by unfold in32 cl at *; omega
theorem in32_mv {x v l u : Int} (hv : in32 v) : in32 (mv x v l u) := by
  unfold mv
  split
  · unfold in32; omega
  · exact hv
theorem gStays (a b : Bx) (x v c d : Int) (w : World) (ha : a.ok) (hb : b.ok) (hx : in32 x) (hv : in32 v) (hc : in32 c) (hd : in32 d) :
    Calls Try.prog 8 #[.agg #[.int .i32 a.x, .int .i32 a.y, .int .i32 a.u, .int .i32 a.v], .agg #[.int .i32 b.x, .int .i32 b.y, .int .i32 b.u, .int .i32 b.v], .agg #[.int .i32 x, .int .i32 v, .int .i32 c, .int .i32 d]] w fun e w' => e = .returned (.bool true) ∧ Below w.heap.size w w' := by
  have hl := in32_min hc hd
  have hh := in32_max hc hd
  have hle : min c d ≤ max c d := by omega
  refine stays_walk a b x v c d _ _ _ _ _ _ _ (ovr a b) w rfl rfl (fun W => near_c a b W ha hb) (fun W => near_turned a b ▸ near_c b a W hb ha) (fun W => over a b W ha hb)
    (fun W => move x v _ _ W hx hv hl hh) (fun W => move _ _ _ _ W (in32_cl hl hh) (in32_mv hv) hl hh) hx hv hl hh (near_pos a b) (near_over a b) (cl_in _ _ _ hle) ?_ ?_
  all_goals generalize min c d = l at *
  all_goals generalize max c d = u at *
  all_goals clear hc hd
  · by_cases h : cl (x + v) l u = x + v
    · refine .inl ⟨?_, ?_, h, ?_⟩
      · have := cl_in (x + v) l u hle; omega
      · have := cl_in (x + v) l u hle; omega
      · unfold mv; rw [if_neg (by omega)]
    · refine .inr ⟨?_, h, ?_⟩
      · unfold cl at h; omega
      · unfold mv; rw [if_pos (.inr h)]
  · have hs : (cl (x + v) l u = x + v ∧ mv x v l u = v) ∨ mv x v l u = 0 := by
      by_cases h : cl (x + v) l u = x + v
      · exact .inl ⟨h, by unfold mv; rw [if_neg (by omega)]⟩
      · exact .inr (by unfold mv; rw [if_pos (.inr h)])
    have ht := cl_in (x + v) l u hle
    generalize mv x v l u = s at *
    generalize cl (x + v) l u = t at *
    unfold cl
    omega
theorem rowStays (x0a x0b x0c x0d x1a x1b x1c x1d x2a x2b x2c x2d : Int) (w : World) (h0a : (Lit.int .i32 x0a).wf = true) (h0b : (Lit.int .i32 x0b).wf = true) (h0c : (Lit.int .i32 x0c).wf = true) (h0d : (Lit.int .i32 x0d).wf = true) (h1a : (Lit.int .i32 x1a).wf = true) (h1b : (Lit.int .i32 x1b).wf = true) (h1c : (Lit.int .i32 x1c).wf = true) (h1d : (Lit.int .i32 x1d).wf = true) (h2a : (Lit.int .i32 x2a).wf = true) (h2b : (Lit.int .i32 x2b).wf = true) (h2c : (Lit.int .i32 x2c).wf = true) (h2d : (Lit.int .i32 x2d).wf = true) : Calls Try.prog 8 #[.agg #[.int .i32 x0a, .int .i32 x0b, .int .i32 x0c, .int .i32 x0d], .agg #[.int .i32 x1a, .int .i32 x1b, .int .i32 x1c, .int .i32 x1d], .agg #[.int .i32 x2a, .int .i32 x2b, .int .i32 x2c, .int .i32 x2d]] w fun e w' => e = .returned (.bool true) ∧ Below w.heap.size w w' :=
  gStays ⟨x0a, x0b, x0c, x0d⟩ ⟨x1a, x1b, x1c, x1d⟩ x2a x2b x2c x2d w ⟨i32_of h0a, i32_of h0b, i32_of h0c, i32_of h0d⟩ ⟨i32_of h1a, i32_of h1b, i32_of h1c, i32_of h1d⟩ (i32_of h2a) (i32_of h2b) (i32_of h2c) (i32_of h2d)
end Go.Proofs.Ytmgopmcindlcmaa
