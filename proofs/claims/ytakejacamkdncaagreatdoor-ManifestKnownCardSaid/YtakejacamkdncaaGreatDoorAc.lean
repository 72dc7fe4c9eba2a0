/- Texts of elder layers, one behind the other. -/
import Derived.Test.YtakejacamkdncaaGreatDoorRows
import Derived.WalkKit
import Derived.ProofKit
import Derived.OpenShut
import Derived.Handy
import Derived.Below
import Derived.Lib.Hide
import Derived.StillTailTactics
import Derived.BigQuiet
import Derived.Deep.RegionHeld3
import Derived.Test.YtakejacamkdncaaGreatDoorAa
import Derived.WalkSmall
/- Plain mathematics of boxes, and the functions that leave memory as it is: one contract each. Nothing is assumed beyond each contract's own bounds. -/
namespace Go.Proofs.YtakejacamkdncaaGreatDoor.G
open Go.RowKit
set_option linter.unusedVariables false
set_option maxRecDepth 20000

theorem ret_int {k : IntKind} {a b : Int} (h : a = b) : Ending.returned (.int k a) = .returned (.int k b) := by rw [h]
theorem ret_bool {a b : Bool} (h : a = b) : Ending.returned (.bool a) = .returned (.bool b) := by rw [h]
theorem ret_iv {a b c d : Int} (h : a = c) (k : b = d) : Ending.returned (.agg #[.int .i64 a, .int .i64 b]) = .returned (.agg #[.int .i64 c, .int .i64 d]) := by rw [h, k]
/-- A number of 32 bits. -/
def in32 (n : Int) : Prop := -2147483648 ≤ n ∧ n ≤ 2147483647
/-- A number that is far from the ends of 64 bits. -/
def in40 (n : Int) : Prop := -1099511627776 ≤ n ∧ n ≤ 1099511627776
/-- A number within two others. -/
def cl (n l h : Int) : Int := max l (min n h)

/-- A number made one of 32 bits. -/
def bo (n : Int) : Int := cl n (-2147483648) 2147483647
theorem bo_in (n : Int) : in32 (bo n) := by unfold bo cl in32; omega
theorem w32_in {n : Int} (h : in32 n) : wrap32 n = n := by
  unfold in32 at h
  unfold wrap32
  omega
/-- How fast a move goes on. -/
def mv (x v l u : Int) : Int := if u < l ∨ cl (x + v) l u ≠ x + v then 0 else v
/-- A length from 0 on. -/
def po (n : Int) : Int := max 0 n
/-- The gap between two intervals, by their ends. -/
def gp (a b c d : Int) : Int := max (max (c - b) (a - d)) 0
end Go.Proofs.YtakejacamkdncaaGreatDoor.G
/- Intervals: one contract each. Nothing is assumed beyond each contract's own bounds. -/
namespace Go.Proofs.YtakejacamkdncaaGreatDoor.G
open Go.RowKit
set_option linter.unusedVariables false
set_option maxRecDepth 20000

section
variable {w w' : World} {g : Nat} {t : TypeId} {cs : Array Value}
theorem cellAt (h : Cells w g t cs) (i : Nat) {v : Value} (hv : cs[i]? = some v) : w.cell? ⟨g, i, none⟩ = some v := by rw [h.cell i, hv]
end
theorem run_max_int3 {P : Program} {w : World} (ts : Array TypeId) (t : TypeId) (k k' k'' : IntKind) (x y z : Int) : (Builtin.max_ ts t #[.int k x, .int k' y, .int k'' z]).run P w = .ok (.int k (max (max x y) z)) w := by
  rw [show max (max x y) z = if z > (if y > x then y else x) then z else (if y > x then y else x) by omega]
  simp [Builtin.max_, Builtin.max2]
attribute [local go_sem] run_max_int3
end Go.Proofs.YtakejacamkdncaaGreatDoor.G
/- Areas: one contract each. Nothing is assumed beyond each contract's own bounds. -/
namespace Go.Proofs.YtakejacamkdncaaGreatDoor.G
open Go.RowKit
set_option linter.unusedVariables false
set_option maxRecDepth 20000

/-- Below block B the world is as wd was. -/
def On (B : Nat) (wd w' : World) : Prop := Below B wd w'
section
variable {B : Nat} {w wd w1 w2 w' : World} {g : Nat} {t : TypeId} {cs : Array Value}
theorem On.refl (B : Nat) (w : World) : On B w w := Below.refl _ _
theorem On.drew (B : Nat) (w : World) : On B w w.drew := (Below.refl _ w).drew
theorem on_weak (h : On wd.heap.size wd w') (hB : B ≤ wd.heap.size) : On B wd w' := Below.mono h hB
theorem on_step (h : On wd.heap.size wd w1) (hb : Below w1.heap.size w1 w2) : On wd.heap.size wd w2 := Below.trans h (hb.mono h.size)
theorem on_step' (h : On B wd w1) (hB : B ≤ wd.heap.size) (hb : Below w1.heap.size w1 w2) : On B wd w2 := Below.trans h (hb.mono (Nat.le_trans hB h.size))
theorem on_set (h : On B wd w1) {p : Addr} (hp : B ≤ p.block) (u : Value) : On B wd (w1.setCell p u) := Below.setCell h hp u
theorem on_below (h : Below w.heap.size w wd) (hB : w.heap.size ≤ B) (o : On B wd w') : Below w.heap.size w w' := h.trans (Below.mono o hB)
theorem on_cell (h : Cells wd g t cs) (hg : g < B) (i : Nat) {v : Value} (hv : cs[i]? = some v) : ∀ w', On B wd w' → w'.cell? ⟨g, i, none⟩ = some v := fun _ o => cellAt (h.below o hg) i hv
theorem on_cells (h : Cells wd g t cs) : ∀ w', On wd.heap.size wd w' → Cells w' g t cs := fun _ o => h.below o h.lt
end
/-- What a store of four cells, one behind the other, meets in each world, and leaves. -/
theorem on_store4 {wd : World} {g : Nat} {t : TypeId} {z0 z1 z2 z3 : Value} (h : Cells wd g t #[z0, z1, z2, z3]) (v0 v1 v2 v3 : Value) :
    (∀ w', On wd.heap.size wd w' → w'.frozen? ⟨g, 0, none⟩ = false) ∧ (∀ w', On wd.heap.size wd w' → w'.cell? ⟨g, 0, none⟩ = some z0) ∧
    (∀ w', On wd.heap.size wd w' → (w'.setCell ⟨g, 0, none⟩ v0).frozen? ⟨g, 1, none⟩ = false) ∧ (∀ w', On wd.heap.size wd w' → (w'.setCell ⟨g, 0, none⟩ v0).cell? ⟨g, 1, none⟩ = some z1) ∧
    (∀ w', On wd.heap.size wd w' → ((w'.setCell ⟨g, 0, none⟩ v0).setCell ⟨g, 1, none⟩ v1).frozen? ⟨g, 2, none⟩ = false) ∧ (∀ w', On wd.heap.size wd w' → ((w'.setCell ⟨g, 0, none⟩ v0).setCell ⟨g, 1, none⟩ v1).cell? ⟨g, 2, none⟩ = some z2) ∧
    (∀ w', On wd.heap.size wd w' → (((w'.setCell ⟨g, 0, none⟩ v0).setCell ⟨g, 1, none⟩ v1).setCell ⟨g, 2, none⟩ v2).frozen? ⟨g, 3, none⟩ = false) ∧ (∀ w', On wd.heap.size wd w' → (((w'.setCell ⟨g, 0, none⟩ v0).setCell ⟨g, 1, none⟩ v1).setCell ⟨g, 2, none⟩ v2).cell? ⟨g, 3, none⟩ = some z3) ∧
    (∀ w', On wd.heap.size wd w' → Cells ((((w'.setCell ⟨g, 0, none⟩ v0).setCell ⟨g, 1, none⟩ v1).setCell ⟨g, 2, none⟩ v2).setCell ⟨g, 3, none⟩ v3) g t #[v0, v1, v2, v3]) := by
  have H := on_cells h
  refine ⟨fun w' o => (H w' o).frozen 0, fun w' o => cellAt (H w' o) 0 rfl, fun w' o => ((H w' o).set 0 v0).frozen 1, fun w' o => cellAt ((H w' o).set 0 v0) 1 rfl, fun w' o => (((H w' o).set 0 v0).set 1 v1).frozen 2, fun w' o => cellAt (((H w' o).set 0 v0).set 1 v1) 2 rfl, fun w' o => ((((H w' o).set 0 v0).set 1 v1).set 2 v2).frozen 3, fun w' o => cellAt ((((H w' o).set 0 v0).set 1 v1).set 2 v2) 3 rfl, fun w' o => ?_⟩
  exact ((((H w' o).set 0 v0).set 1 v1).set 2 v2).set 3 v3
end Go.Proofs.YtakejacamkdncaaGreatDoor.G
