/- A player laid into a block: one step of the walk. -/
import Derived.Test.YtbmkmmkebophpaaDoorSo
namespace Go.Proofs.YtbmkmmkebophpaaDoor
open Go.RowKit
set_option linter.unusedVariables false

/-- A player laid into a block. -/
def storePl (p v : Value) : Sem Unit := Instr.storeAt 24 p v
theorem storeAt_pl (p v : Value) : Instr.storeAt 24 p v = storePl p v := rfl
theorem run_storePl {w : World} {g : Nat} {t : TypeId} {old cs : Array Value} (o : Nat) (h : Cells w g t old) (ho : o + 7 ≤ old.size) (hc : cs.size = 7) (h1 : cs.toList.all Value.oneCell' = true) :
    (storePl (.pointer (some ⟨g, o, none⟩)) (.agg cs)).run Tryd.prog w = .ok () (w.setRow g (old.toList.take o ++ cs.toList ++ old.toList.drop (o + 7)).toArray) := by
  have hst := run_storeCells_at Tryd.prog g o t cs.toList 0 old w h (by simp [hc]; omega) (fun v hv => List.all_eq_true.1 h1 v hv)
  rw [Nat.add_zero, show cs.toList.length = 7 from by simpa using hc] at hst
  cases hq : Tryd.prog.info? 24 with
  | none => have := info_PlSz; rw [hq] at this; simp at this
  | some i =>
    have hi : i.size = 7 := by have := info_PlSz; rw [hq] at this; simpa using this
    simp [storePl, Instr.storeAt, Instr.sureAddr, storeVar, sizeOf, typeInfo, hq, hi, Value.cells, hc, hst]
theorem alloc_setRow (w : World) (z cs : Array Value) (t : TypeId) : (w.alloc (.cells z t)).setRow w.heap.size cs = w.alloc (.cells cs t) := by
  unfold World.setRow World.alloc
  cases w with
  | mk heap tape drawn os output =>
    congr 1
    apply Array.ext
    · simp
    · intro k h1 h2
      simp only [Array.getElem_modify, Array.getElem_push]
      split
      · rename_i hk; subst hk; simp
      · rename_i hk
        have : k < heap.size := by simp at h2; omega
        simp [this]
theorem run_storePlNew (w : World) (t : TypeId) (z cs : Array Value) (g : Nat) (hg : g = w.heap.size) (hz : z.size = 7) (hc : cs.size = 7) (h1 : cs.toList.all Value.oneCell' = true) :
    (storePl (.pointer (some ⟨g, 0, none⟩)) (.agg cs)).run Tryd.prog (w.alloc (.cells z t)) = .ok () (w.alloc (.cells cs t)) := by
  subst hg
  rw [run_storePl 0 (Cells.made w t z) (by omega) hc h1]
  have e : (z.toList.take 0 ++ cs.toList ++ z.toList.drop (0 + 7)).toArray = cs := by
    rw [List.drop_of_length_le (by simp; omega)]; simp
  rw [e]
  rw [alloc_setRow w z cs t]
end Go.Proofs.YtbmkmmkebophpaaDoor
