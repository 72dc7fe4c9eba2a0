/- Texts of elder layers, one behind the other. -/
import Derived.Test.YtacgmadgkmcmoaaGreatDoorRows
import Derived.WalkKit
import Derived.ProofKit
import Derived.OpenShut
import Derived.Handy
import Derived.Below
import Derived.Lib.Hide
import Derived.StillTailTactics
import Derived.BigQuiet
import Derived.Deep.RegionHeld3
import Derived.Test.YtacgmadgkmcmoaaGreatDoorAa
import Derived.WalkSmall
/- Plain mathematics of boxes, and the functions that leave memory as it is: one contract each. Nothing is assumed beyond each contract's own bounds. -/
namespace Go.Proofs.YtacgmadgkmcmoaaGreatDoor.G
open Go.RowKit
set_option linter.unusedVariables false
set_option maxRecDepth 20000

/-- A number within two others. -/
def cl (n l h : Int) : Int := max l (min n h)

/-- A number made one of 32 bits. -/
def bo (n : Int) : Int := cl n (-2147483648) 2147483647
/-- A length from 0 on. -/
def po (n : Int) : Int := max 0 n
/-- The gap between two intervals, by their ends. -/
def gp (a b c d : Int) : Int := max (max (c - b) (a - d)) 0
end Go.Proofs.YtacgmadgkmcmoaaGreatDoor.G
/- Intervals: one contract each. Nothing is assumed beyond each contract's own bounds. -/
namespace Go.Proofs.YtacgmadgkmcmoaaGreatDoor.G
open Go.RowKit
set_option linter.unusedVariables false
set_option maxRecDepth 20000

section
variable {w w' : World} {g : Nat} {t : TypeId} {cs : Array Value}
theorem cellAt (h : Cells w g t cs) (i : Nat) {v : Value} (hv : cs[i]? = some v) : w.cell? ⟨g, i, none⟩ = some v := by rw [h.cell i, hv]
end
theorem run_max_int3 {P : Program} {w : World} (ts : Array TypeId) (t : TypeId) (k k' k'' : IntKind) (x y z : Int) : (Builtin.max_ ts t #[.int k x, .int k' y, .int k'' z]).run P w = .ok (.int k (max (max x y) z)) w := by
  rw [show max (max x y) z = if z > (if y > x then y else x) then z else (if y > x then y else x) by omega]
  simp [Builtin.max_, Builtin.max2]
attribute [local go_sem] run_max_int3
end Go.Proofs.YtacgmadgkmcmoaaGreatDoor.G
/- Areas: one contract each. Nothing is assumed beyond each contract's own bounds. -/
namespace Go.Proofs.YtacgmadgkmcmoaaGreatDoor.G
open Go.RowKit
set_option linter.unusedVariables false
set_option maxRecDepth 20000

/-- Below block B the world is as wd was. -/
def On (B : Nat) (wd w' : World) : Prop := Below B wd w'
section
variable {B : Nat} {w wd w1 w2 w' : World} {g : Nat} {t : TypeId} {cs : Array Value}
theorem On.refl (B : Nat) (w : World) : On B w w := Below.refl _ _
theorem On.drew (B : Nat) (w : World) : On B w w.drew := (Below.refl _ w).drew
theorem on_step (h : On wd.heap.size wd w1) (hb : Below w1.heap.size w1 w2) : On wd.heap.size wd w2 := Below.trans h (hb.mono h.size)
theorem on_cell (h : Cells wd g t cs) (hg : g < B) (i : Nat) {v : Value} (hv : cs[i]? = some v) : ∀ w', On B wd w' → w'.cell? ⟨g, i, none⟩ = some v := fun _ o => cellAt (h.below o hg) i hv
end
end Go.Proofs.YtacgmadgkmcmoaaGreatDoor.G
