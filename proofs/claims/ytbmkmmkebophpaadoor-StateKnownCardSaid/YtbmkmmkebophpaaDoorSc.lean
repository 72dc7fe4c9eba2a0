/- A player and a shot as their numbers, and numbers as a player or a shot: one contract each. -/
import Derived.Test.YtbmkmmkebophpaaDoorSb
import Derived.Test.YtbmkmmkebophpaaDoorSw
import Derived.Laws.Rows
import Derived.BigQuiet
namespace Go.Proofs.YtbmkmmkebophpaaDoor
open Go.RowKit
set_option linter.unusedVariables false

def i32v (l : List Int) : Array Value := (l.map fun z => Value.int .i32 z).toArray
def pv (p : Pl) : Value := .agg #[.int .i32 p.x, .int .i32 p.y, .int .i32 p.vx, .int .i32 p.vy, .int .u8 (p.h : Int), .int .u8 (p.c : Int), .int .u8 (p.f : Int)]
def hv (s : Sh) : Value := .agg #[.int .i32 s.x, .int .i32 s.y, .int .i32 s.vx, .int .i32 s.vy, .int .u8 (s.o : Int), .int .u8 (s.l : Int)]
theorem i32_id {n : Nat} (h : n < 256) : IntKind.i32.wrap (n : Int) = (n : Int) := by
  simp [IntKind.wrap, IntKind.bits, IntKind.signed]; omega

theorem ofPlayer_c (p : Pl) (w : World) (h : p.fit) :
    Calls Tryd.prog 26 #[pv p] w fun E w' => ∃ g, E = .returned (.slice (some ⟨g, 0, none⟩) 7 7) ∧ w.heap.size ≤ g ∧ Cells w' g 21 (i32v p.nums) ∧ w.grownBy w' none := by
  obtain ⟨_, _, _, _, h5, h6, h7⟩ := h
  have e5 := i32_id h5
  have e6 := i32_id h6
  have e7 := i32_id h7
  clear h5 h6 h7
  unfold pv
  go_enter Tryd.func26, Tryd.ntmps26
  go_wp2
  go_ret
  exact ⟨_, rfl, by simp, heap_alloc2_new w _ _, (grown_alloc _ _).trans (grown_alloc _ _)⟩
theorem ofShot_c (s : Sh) (w : World) (h : s.fit) :
    Calls Tryd.prog 28 #[hv s] w fun E w' => ∃ g, E = .returned (.slice (some ⟨g, 0, none⟩) 6 6) ∧ w.heap.size ≤ g ∧ Cells w' g 21 (i32v s.nums) ∧ w.grownBy w' none := by
  obtain ⟨_, _, _, _, h5, h6⟩ := h
  have e5 := i32_id h5
  have e6 := i32_id h6
  clear h5 h6
  unfold hv
  go_enter Tryd.func28, Tryd.ntmps28
  go_wp2
  go_ret
  exact ⟨_, rfl, by simp, heap_alloc2_new w _ _, (grown_alloc _ _).trans (grown_alloc _ _)⟩
end Go.Proofs.YtbmkmmkebophpaaDoor
