/- A block of cells read whole: one step of the walk, whatever the count of its cells. Nothing of the program but the type of a state. -/
import Derived.Test.YtbmkmmkebophpaaDoorMem
import Derived.Test.YtbmkmmkebophpaaDoorRows
import Derived.Laws.Rows
namespace Go.Proofs.YtbmkmmkebophpaaDoor
open Go.RowKit
set_option linter.unusedVariables false

/-- The cells of a block. -/
def rowOf (w : World) (g : Nat) : Array Value := match w.heap[g]? with | some (.cells cs _ _) => cs | _ => #[]
theorem rowOf_cells {w : World} {g : Nat} {t : TypeId} {cs : Array Value} (h : Cells w g t cs) : rowOf w g = cs := by
  unfold Cells at h; unfold rowOf; rw [h]
theorem rowOf_new (w : World) (g : Nat) (cs : Array Value) (t : TypeId) (h : g = w.heap.size) : rowOf (w.alloc (.cells cs t)) g = cs := by
  subst h; exact rowOf_cells (Cells.made w t cs)
theorem rowOf_old (w : World) (g : Nat) (o : Obj) (h : g < w.heap.size) : rowOf (w.alloc o) g = rowOf w g := by
  unfold rowOf; rw [Below.heap_alloc w o g h]
theorem rowOf_drew (w : World) (g : Nat) : rowOf w.drew g = rowOf w g := rfl
theorem rowOf_drewN (w : World) (g n : Nat) : rowOf (w.drewN n) g = rowOf w g := rfl
theorem rowOf_shape {w : World} {g n : Nat} (h : (rowOf w g).size = n) (hn : 0 < n) : ∃ cs t fr, w.heap[g]? = some (.cells cs t fr) := by
  unfold rowOf at h
  split at h
  · rename_i cs t fr hq; exact ⟨cs, t, fr, hq⟩
  · simp at h; omega
theorem load_state (w : World) (g : Nat) (h : (rowOf w g).size = 19) : (loadVar 30 ⟨g, 0, none⟩).run Tryd.prog w = .ok (.agg (rowOf w g)) w := by
  obtain ⟨cs, t, fr, hg⟩ := rowOf_shape h (by omega)
  have e : rowOf w g = cs := by unfold rowOf; rw [hg]
  rw [e] at h ⊢
  exact run_loadVar_row w g t 30 cs fr _ hg Tryd.underlying30 rfl (by rw [h]; kernel_rfl)
/-- A state read whole. -/
def loadState (v : Value) : Sem Value := Instr.loadAt 30 v
theorem loadAt_state (v : Value) : Instr.loadAt 30 v = loadState v := rfl
theorem run_loadState (w : World) (g : Nat) (h : (rowOf w g).size = 19) : (loadState (.pointer (some ⟨g, 0, none⟩))).run Tryd.prog w = .ok (.agg (rowOf w g)) w := by
  unfold loadState
  simp only [Instr.loadAt, Instr.sureAddr, Sem.run_bind, Sem.run_pure, Result.andThen_ok]
  exact load_state w g h
end Go.Proofs.YtbmkmmkebophpaaDoor
