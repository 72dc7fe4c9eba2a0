/-
  PROVED HERE: the statement 'Rows.GeomPointSaid': called with any input, the Go function hindcast's GeomPoint returns true, and its arguments read as they did. Conditions: none beyond the row's own. The walk of the program's text is Gv's; the rest is the row's step.
-/
import Derived.Test.YtmgopmcindlcmaaRows
import Derived.Test.YtmgopmcindlcmaaGv
import Derived.ShutString
import Derived.ChangeOld
import Derived.Below
namespace Go.Proofs.Ytmgopmcindlcmaa.geomPoint
open Go.ChangeShapes Go.WideShapes Go.ChangeAt Go.RowKit
open Go.ChangeMaps (open_string shut_string)
set_option linter.unusedVariables false

theorem own : ownKnob Try.prog.godebug = none := by kernel_rfl
theorem laidOut : laidOutB Try.prog = true := by kernel_rfl

set_option maxRecDepth 100000 in
theorem lifted (os : Os) (started : os.Started) (H : Type) (enc : TypeId × Value → H) :
    ReturnsInHanded {} Try.checked os 7 .any (Rows.geomPointSpec.pre6 enc Try.prog Try.f7 Rows.geomPointRow.domain false) (Rows.geomPointSpec.post enc Try.prog Try.f7 false true false false) := by
  refine returnsInHanded_of_change (C := Try.checked) own started (by kernel_rfl) Try.func7
    (ChangeSpec.witness6 (enc := enc) (C := Try.checked) false ⟨#[], #[.agg #[.int .i32 0, .int .i32 0, .int .i32 0, .int .i32 0], .agg #[.int .i32 0, .int .i32 0, .int .i32 0, .int .i32 0], .agg #[.int .i32 0, .int .i32 0]], []⟩ 8 (by kernel_rfl) (by kernel_rfl) (by kernel_rfl) (by kernel_rfl)) ?_
  intro W base args ds gs before hval0 hW hcnd _
  have hval : ∀ (j : Nat) t v, Try.f7.params[j]? = some t → args[j]? = some v → Value.okWide Try.prog W .any base t v := hval0
  have hW' := hW
  obtain ⟨p, q, hA0, hV, rfl, hfz, hnd⟩ := hW
  have hA : DataW.TrodAll enc Try.prog W 0 (fun _ => true) true Try.f7.params.toList args.toList ds p := hA0
  rw [Try.params7] at hA hval
  obtain ⟨v0, vs0, d0, ds0, p0, q0, hargs, rfl, rfl, h0, r0⟩ := trodAll_cons hA
  obtain ⟨v1, vs1, d1, ds1, p1, q1, rfl, rfl, rfl, h1, r1⟩ := trodAll_cons r0
  obtain ⟨v2, vs2, d2, ds2, p2, q2, rfl, rfl, rfl, h2, r2⟩ := trodAll_cons r1
  obtain ⟨rfl, rfl, rfl⟩ := trodAll_nil r2
  obtain rfl : args = #[v0, v1, v2] := by cases args; simp_all
  obtain ⟨rfl, rfl⟩ := trodVars_none hV
  obtain ⟨c0a, c0b, c0c, c0d, y0a, y0b, y0c, y0d, m0, rfl, rfl, rfl, hy0a, hy0b, hy0c, hy0d⟩ := Joins.open_agg4 Try.underlying23 (by kernel_rfl) (show Try.prog.cellsOf 23 = 4 by kernel_rfl) (hval 0 23 v0 rfl rfl) h0
  obtain ⟨a0a, e0a, rfl, w0a⟩ := DataW.trod_int Try.underlying21 hy0a
  obtain ⟨a0b, e0b, rfl, w0b⟩ := DataW.trod_int Try.underlying21 hy0b
  obtain ⟨a0c, e0c, rfl, w0c⟩ := DataW.trod_int Try.underlying21 hy0c
  obtain ⟨a0d, e0d, rfl, w0d⟩ := DataW.trod_int Try.underlying21 hy0d
  simp at e0a e0b e0c e0d
  subst e0a e0b e0c e0d
  obtain ⟨c1a, c1b, c1c, c1d, y1a, y1b, y1c, y1d, m1, rfl, rfl, rfl, hy1a, hy1b, hy1c, hy1d⟩ := Joins.open_agg4 Try.underlying23 (by kernel_rfl) (show Try.prog.cellsOf 23 = 4 by kernel_rfl) (hval 1 23 v1 rfl rfl) h1
  obtain ⟨a1a, e1a, rfl, w1a⟩ := DataW.trod_int Try.underlying21 hy1a
  obtain ⟨a1b, e1b, rfl, w1b⟩ := DataW.trod_int Try.underlying21 hy1b
  obtain ⟨a1c, e1c, rfl, w1c⟩ := DataW.trod_int Try.underlying21 hy1c
  obtain ⟨a1d, e1d, rfl, w1d⟩ := DataW.trod_int Try.underlying21 hy1d
  simp at e1a e1b e1c e1d
  subst e1a e1b e1c e1d
  obtain ⟨c2a, c2b, y2a, y2b, m2, rfl, rfl, rfl, hy2a, hy2b⟩ := open_arr2 Try.underlying26 (show Try.prog.cellsOf 21 = 1 by kernel_rfl) (show Try.prog.cellsOf 26 = 2 by kernel_rfl) (hval 2 26 v2 rfl rfl) h2
  obtain ⟨a2a, e2a, rfl, w2a⟩ := DataW.trod_int Try.underlying21 hy2a
  obtain ⟨a2b, e2b, rfl, w2b⟩ := DataW.trod_int Try.underlying21 hy2b
  simp at e2a e2b
  subst e2a e2b
  clear hA0 hval0
  refine (rowPoint a0a a0b a0c a0d a1a a1b a1c a1d a2a a2b W w0a w0b w0c w0d w1a w1b w1c w1d w2a w2b).mono fun e W' ⟨he, bel⟩ => ?_
  subst he
  exact ⟨_, rfl, _, _, _, [], _, [], hW', trodAll_mk1 (shut_bool Try.underlying4 _), (trodAll_cons_mk (Joins.shut_agg4 (y0 := (.lit (.int .i32 a0a), [])) (y1 := (.lit (.int .i32 a0b), [])) (y2 := (.lit (.int .i32 a0c), [])) (y3 := (.lit (.int .i32 a0d), [])) Try.underlying23 (by kernel_rfl) (show Try.prog.cellsOf 23 = 4 by kernel_rfl) ⟨1, trod_int_mk 0 Try.underlying21 w0a⟩ ⟨1, trod_int_mk 0 Try.underlying21 w0b⟩ ⟨1, trod_int_mk 0 Try.underlying21 w0c⟩ ⟨1, trod_int_mk 0 Try.underlying21 w0d⟩) (trodAll_cons_mk (Joins.shut_agg4 (y0 := (.lit (.int .i32 a1a), [])) (y1 := (.lit (.int .i32 a1b), [])) (y2 := (.lit (.int .i32 a1c), [])) (y3 := (.lit (.int .i32 a1d), [])) Try.underlying23 (by kernel_rfl) (show Try.prog.cellsOf 23 = 4 by kernel_rfl) ⟨1, trod_int_mk 0 Try.underlying21 w1a⟩ ⟨1, trod_int_mk 0 Try.underlying21 w1b⟩ ⟨1, trod_int_mk 0 Try.underlying21 w1c⟩ ⟨1, trod_int_mk 0 Try.underlying21 w1d⟩) (trodAll_cons_mk (shut_arr2 (y0 := (.lit (.int .i32 a2a), [])) (y1 := (.lit (.int .i32 a2b), [])) Try.underlying26 (show Try.prog.cellsOf 21 = 1 by kernel_rfl) (show Try.prog.cellsOf 26 = 2 by kernel_rfl) ⟨1, trod_int_mk 0 Try.underlying21 w2a⟩ ⟨1, trod_int_mk 0 Try.underlying21 w2b⟩) trodAll_mk0))), rfl, bel.frame _, fun h => by cases h⟩

theorem over : Rows.geomPointRow.holds Try.pinned (OpenSpec.ofChange Rows.geomPointSpec) :=
  OpenClaim.holds_of_wide 7 Try.f7 rfl rfl rfl rfl rfl rfl rfl ⟨rfl, rfl, rfl, rfl, rfl⟩ rfl rfl rfl rfl rfl (by kernel_rfl) Try.func7 (by kernel_rfl)
    (of_decide_eq_true (by kernel_rfl)) (by unfold Func.isWrapper; first | (rw [if_pos (by decide +kernel)]; kernel_rfl) | (rw [if_neg (by decide +kernel)]; exact ⟨rfl, rfl⟩))
    (fun os started H enc _ => lifted os started H enc)

theorem proved : Rows.GeomPointSaid := over
end Go.Proofs.Ytmgopmcindlcmaa.geomPoint
