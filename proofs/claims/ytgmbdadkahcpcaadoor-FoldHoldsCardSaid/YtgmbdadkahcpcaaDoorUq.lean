/- The statements' own first state and their own last word: contracts. -/
import Derived.Test.YtgmbdadkahcpcaaDoorUo
import Derived.Test.YtgmbdadkahcpcaaDoorAe
namespace Go.Proofs.YtgmbdadkahcpcaaDoor
open Go.RowKit
set_option linter.unusedVariables false
set_option linter.unusedSimpArgs false
set_option maxRecDepth 20000

theorem pl_eql (a b : Pl) (w : World) : (binOp .eql 24 (.agg #[.int .i32 a.x, .int .i32 a.y, .int .i32 a.vx, .int .i32 a.vy, .int .u8 (a.h : Int), .int .u8 (a.c : Int), .int .u8 (a.f : Int)]) (.agg #[.int .i32 b.x, .int .i32 b.y, .int .i32 b.vx, .int .i32 b.vy, .int .u8 (b.h : Int), .int .u8 (b.c : Int), .int .u8 (b.f : Int)])).run Tryd.prog w = .ok (.bool (decide (a = b))) w := by
  rw [run_eql_struct, pl_in 9998]; rfl
theorem field_fr (s : St) (ao : Option Addr) (cap : Nat) (w : World) : (Instr.field 30 (.agg (stc s ao cap)) 0).run Tryd.prog w = .ok (.int .u64 (s.fr : Int)) w := by
  simp [Instr.field, run_underlying Tryd.underlying30, go_sem]; rfl
/-- The state behind a frame in which the first one goes to the right. -/
def gone1 : St := ⟨1, 7, ⟨8256, 14336, 64, 0, 100, 0, 0⟩, ⟨53248, 14336, 0, 0, 100, 0, 1⟩, [], 0, 0⟩
theorem stp_gone : stp (start 7) 2 0 = gone1 := by decide +kernel
theorem stp_bad : stp (start 7) 64 0 = start 7 := by decide +kernel
theorem good_start7 : (start 7).good = true := by decide +kernel
attribute [local go_sem ↓] ld_i32 ld_u8 ld_u64 ld_player ld_state st_state
/-- Both tables lie there. -/
structure Laid (w : World) : Prop where
  t : Tab w
  f : Fac w
theorem Laid.to {w w' : World} (h : Laid w) (hb : Below w.heap.size w w') : Laid w' := ⟨tab_below h.t hb h.t.1, fac_below h.f hb h.f.1⟩
theorem stepAt (s : St) (ao : Option Addr) (cap i j : Nat) (w : World) (hS : Shs w ao s.ss) (hn : ao = none → cap = 0) (hl : s.ss.length ≤ 1000000) (hf : s.fit) (hi : i < 256) (hj : j < 256) (hL : Laid w) {t : St} (ht : stp s i j = t) :
    Calls Tryd.prog 27 #[.agg (stc s ao cap), .agg #[.int .u8 (i : Int), .int .u8 (j : Int)]] w (StPost w.heap.size w t) := by
  rw [← ht]; exact step_c s ao cap i j w hS hn hl hf hi hj hL.t hL.f
end Go.Proofs.YtgmbdadkahcpcaaDoor
