/- Texts of elder layers, one behind the other. -/
import Derived.Test.YtgmbdadkahcpcaaDoorRows
import Derived.WalkKit
import Derived.ProofKit
import Derived.OpenShut
import Derived.Handy
import Derived.Below
import Derived.Lib.Hide
import Derived.StillTailTactics
import Derived.BigQuiet
import Derived.Deep.RegionHeld3
import Derived.Test.YtgmbdadkahcpcaaDoorAa
import Derived.WalkSmall
import Derived.Deep.RegionWith
import Derived.Laws.StructEq
import Derived.Deep.DeepCutAuto
import Derived.IntWalk
import Derived.Test.YtgmbdadkahcpcaaDoorProg
import Derived.Laws.IdiomArrays
import Derived.Lib.SmallJoins
/- Plain mathematics of boxes, and the functions that leave memory as it is: one contract each. Nothing is assumed beyond each contract's own bounds. -/
namespace Go.Proofs.YtgmbdadkahcpcaaDoor.G
open Go.RowKit
set_option linter.unusedVariables false
set_option maxRecDepth 20000

theorem ret_int {k : IntKind} {a b : Int} (h : a = b) : Ending.returned (.int k a) = .returned (.int k b) := by rw [h]
theorem ret_bool {a b : Bool} (h : a = b) : Ending.returned (.bool a) = .returned (.bool b) := by rw [h]
theorem ret_iv {a b c d : Int} (h : a = c) (k : b = d) : Ending.returned (.agg #[.int .i64 a, .int .i64 b]) = .returned (.agg #[.int .i64 c, .int .i64 d]) := by rw [h, k]
/-- A number of 32 bits. -/
def in32 (n : Int) : Prop := -2147483648 ≤ n ∧ n ≤ 2147483647
/-- A number that is far from the ends of 64 bits. -/
def in40 (n : Int) : Prop := -1099511627776 ≤ n ∧ n ≤ 1099511627776
/-- A number within two others. -/
def cl (n l h : Int) : Int := max l (min n h)

theorem clip64 (n l u : Int) (w : World) :
    Calls Tryd.prog 83 #[.int .i64 n, .int .i64 l, .int .i64 u] w fun e w' => e = .returned (.int .i64 (cl n l u)) ∧ w = w' := by
  go_enter Tryd.func83, Tryd.ntmps83
  go_wp2
  all_goals go_ret
  all_goals exact ⟨ret_int (by unfold cl; omega), rfl⟩
theorem clip32 (n l u : Int) (w : World) :
    Calls Tryd.prog 102 #[.int .i32 n, .int .i32 l, .int .i32 u] w fun e w' => e = .returned (.int .i32 (cl n l u)) ∧ w = w' := by
  go_enter Tryd.func102, Tryd.ntmps102
  go_wp2
  all_goals go_ret
  all_goals exact ⟨ret_int (by unfold cl; omega), rfl⟩
/-- A number made one of 32 bits. -/
def bo (n : Int) : Int := cl n (-2147483648) 2147483647
theorem bo_in (n : Int) : in32 (bo n) := by unfold bo cl in32; omega
theorem w32_in {n : Int} (h : in32 n) : wrap32 n = n := by
  unfold in32 at h
  unfold wrap32
  omega
/-- How fast a move goes on. -/
def mv (x v l u : Int) : Int := if u < l ∨ cl (x + v) l u ≠ x + v then 0 else v
theorem move (x v l u : Int) (w : World) (hx : in32 x) (hv : in32 v) (hl : in32 l) (hu : in32 u) :
    Calls Tryd.prog 60 #[.int .i32 x, .int .i32 v, .int .i32 l, .int .i32 u] w fun e w' => e = .returned (.tuple #[.int .i32 (cl (x + v) l u), .int .i32 (mv x v l u)]) ∧ w = w' := by
  obtain ⟨hc1, hc2⟩ : in32 (cl (x + v) l u) := by unfold in32 cl at *; omega
  have HM : Hid (mv x v l u = if u < l ∨ cl (x + v) l u ≠ x + v then 0 else v) := rfl
  have HC := Lib.hid (clip64 (x + v) l u)
  generalize cl (x + v) l u = c at *
  generalize mv x v l u = m at *
  obtain ⟨hx1, hx2⟩ := hx
  obtain ⟨hv1, hv2⟩ := hv
  obtain ⟨hl1, hl2⟩ := hl
  obtain ⟨hu1, hu2⟩ := hu
  by_cases h1 : u < l
  · have hm : m = 0 := by rw [HM.out]; exact if_pos (.inl h1)
    subst hm
    go_enter Tryd.func60, Tryd.ntmps60
    go_wp2_with fail
    refine (HC.out _).mono ?_
    rintro E w1 ⟨rfl, rfl⟩
    go_wp2
    go_ret2
    exact ⟨rfl, rfl⟩
  · by_cases h2 : c = x + v
    · have hm : m = v := by rw [HM.out]; exact if_neg (by omega)
      have H2 := Lib.hid h2
      subst hm
      clear h2
      go_enter Tryd.func60, Tryd.ntmps60
      go_wp2_with fail
      refine (HC.out _).mono ?_
      rintro E w1 ⟨rfl, rfl⟩
      go_wp2
      all_goals go_ret2
      all_goals first | exact ⟨rfl, rfl⟩ | (exfalso; have := H2.out; rename_i hh; simp at hh; omega)
    · have hm : m = 0 := by rw [HM.out]; exact if_pos (.inr h2)
      have H2 := Lib.hid h2
      subst hm
      clear h2
      go_enter Tryd.func60, Tryd.ntmps60
      go_wp2_with fail
      refine (HC.out _).mono ?_
      rintro E w1 ⟨rfl, rfl⟩
      go_wp2
      all_goals go_ret2
      all_goals first | exact ⟨rfl, rfl⟩ | (exfalso; have := H2.out; rename_i hh; simp at hh; omega)
theorem refMove (x v l u : Int) (w : World) (hx : in32 x) (hv : in32 v) (hl : in32 l) (hu : in32 u) :
    Calls Tryd.prog 76 #[.int .i32 x, .int .i32 v, .int .i32 l, .int .i32 u] w fun e w' => e = .returned (.tuple #[.int .i32 (cl (x + v) l u), .int .i32 (mv x v l u)]) ∧ w = w' := by
  have HM : Hid (mv x v l u = if u < l ∨ cl (x + v) l u ≠ x + v then 0 else v) := rfl
  have HC : Hid (cl (x + v) l u = max l (min (x + v) u)) := rfl
  generalize cl (x + v) l u = c at *
  generalize mv x v l u = m at *
  obtain ⟨hx1, hx2⟩ := hx
  obtain ⟨hv1, hv2⟩ := hv
  obtain ⟨hl1, hl2⟩ := hl
  obtain ⟨hu1, hu2⟩ := hu
  have hm : Hid (u < l ∧ c = l ∧ m = 0 ∨ ¬ u < l ∧ x + v < l ∧ c = l ∧ m = 0 ∨ ¬ u < l ∧ u < x + v ∧ c = u ∧ m = 0 ∨ ¬ u < l ∧ ¬ x + v < l ∧ ¬ u < x + v ∧ c = x + v ∧ m = v) := by
    have h1 := HM.out
    have h2 := HC.out
    split at h1 <;> show _ <;> unfold Hid <;> omega
  clear HM HC
  rcases hm.out with ⟨h1, rfl, rfl⟩ | ⟨h1, h2, rfl, rfl⟩ | ⟨h1, h2, rfl, rfl⟩ | ⟨h1, h2, h3, rfl, rfl⟩
  all_goals clear hm
  all_goals go_enter Tryd.func76, Tryd.ntmps76
  all_goals go_wp2
  all_goals go_ret2
  all_goals exact ⟨rfl, rfl⟩
/-- The greater one. -/
theorem greater (a b : Int) (w : World) :
    Calls Tryd.prog 92 #[.int .i64 a, .int .i64 b] w fun e w' => e = .returned (.int .i64 (max a b)) ∧ w = w' := by
  by_cases h : b < a
  all_goals go_enter Tryd.func92, Tryd.ntmps92
  all_goals go_wp2
  all_goals go_ret
  all_goals exact ⟨ret_int (by omega), rfl⟩
/-- A length from 0 on. -/
def po (n : Int) : Int := max 0 n
/-- The gap between two intervals, by their ends. -/
def gp (a b c d : Int) : Int := max (max (c - b) (a - d)) 0
end Go.Proofs.YtgmbdadkahcpcaaDoor.G
/- Intervals: one contract each. Nothing is assumed beyond each contract's own bounds. -/
namespace Go.Proofs.YtgmbdadkahcpcaaDoor.G
open Go.RowKit
set_option linter.unusedVariables false
set_option maxRecDepth 20000

section
variable {w w' : World} {g : Nat} {t : TypeId} {cs : Array Value}
theorem cellAt (h : Cells w g t cs) (i : Nat) {v : Value} (hv : cs[i]? = some v) : w.cell? ⟨g, i, none⟩ = some v := by rw [h.cell i, hv]
end
theorem ivEmpty (a b : Int) (w : World) :
    Calls Tryd.prog 96 #[.agg #[.int .i64 a, .int .i64 b]] w fun e w' => e = .returned (.bool (a == b)) ∧ Below w.heap.size w w' := by
  go_enter Tryd.func96, Tryd.ntmps96
  go_wp2
  go_ret
  exact ⟨rfl, by go_grown⟩
theorem run_max_int3 {P : Program} {w : World} (ts : Array TypeId) (t : TypeId) (k k' k'' : IntKind) (x y z : Int) : (Builtin.max_ ts t #[.int k x, .int k' y, .int k'' z]).run P w = .ok (.int k (max (max x y) z)) w := by
  rw [show max (max x y) z = if z > (if y > x then y else x) then z else (if y > x then y else x) by omega]
  simp [Builtin.max_, Builtin.max2]
attribute [local go_sem] run_max_int3
theorem ivClip (a b c d : Int) (w : World) :
    Calls Tryd.prog 97 #[.agg #[.int .i64 a, .int .i64 b], .agg #[.int .i64 c, .int .i64 d]] w fun e w' => e = .returned (.agg #[.int .i64 (cl a c d), .int .i64 (cl b c d)]) ∧ Below w.heap.size w w' := by
  go_enter Tryd.func97, Tryd.ntmps97
  have HB0 := Lib.hid (show Below w.heap.size w (((w.alloc (.cells #[.int .i64 a, .int .i64 b] 118)).alloc (.cells #[.int .i64 c, .int .i64 d] 118)).alloc (.cells #[.int .i64 0, .int .i64 0] 118)) by go_grown)
  have C0 := Lib.hid (((Cells.made w 118 #[.int .i64 a, .int .i64 b]).alloc (.cells #[.int .i64 c, .int .i64 d] 118)).alloc (.cells #[.int .i64 0, .int .i64 0] 118))
  have C1 := Lib.hid (show Cells (((w.alloc (.cells #[.int .i64 a, .int .i64 b] 118)).alloc (.cells #[.int .i64 c, .int .i64 d] 118)).alloc (.cells #[.int .i64 0, .int .i64 0] 118)) (w.heap.size + 1) 118 #[.int .i64 c, .int .i64 d] by simpa using (Cells.made (w.alloc (.cells #[.int .i64 a, .int .i64 b] 118)) 118 #[.int .i64 c, .int .i64 d]).alloc (.cells #[.int .i64 0, .int .i64 0] 118))
  have C2 := Lib.hid (show Cells (((w.alloc (.cells #[.int .i64 a, .int .i64 b] 118)).alloc (.cells #[.int .i64 c, .int .i64 d] 118)).alloc (.cells #[.int .i64 0, .int .i64 0] 118)) (w.heap.size + 1 + 1) 118 #[.int .i64 0, .int .i64 0] by simpa using (Cells.made ((w.alloc (.cells #[.int .i64 a, .int .i64 b] 118)).alloc (.cells #[.int .i64 c, .int .i64 d] 118)) 118 #[.int .i64 0, .int .i64 0]))
  go_wp2
  generalize ((w.alloc (.cells #[.int .i64 a, .int .i64 b] 118)).alloc (.cells #[.int .i64 c, .int .i64 d] 118)).alloc (.cells #[.int .i64 0, .int .i64 0] 118) = w2 at *
  obtain ⟨w3, hw3⟩ : ∃ w3 : World, { w2 with drawn := w2.drawn + 1 } = w3 := ⟨_, rfl⟩
  have k0 : w3.cell? ⟨w.heap.size, 0, none⟩ = some (.int .i64 a) := hw3 ▸ cellAt C0.out 0 rfl
  have k1 : w3.cell? ⟨w.heap.size, 1, none⟩ = some (.int .i64 b) := hw3 ▸ cellAt C0.out 1 rfl
  have k2 : w3.cell? ⟨w.heap.size + 1, 0, none⟩ = some (.int .i64 c) := hw3 ▸ cellAt C1.out 0 rfl
  have k3 : w3.cell? ⟨w.heap.size + 1, 1, none⟩ = some (.int .i64 d) := hw3 ▸ cellAt C1.out 1 rfl
  have C2w : Cells w3 (w.heap.size + 1 + 1) 118 #[.int .i64 0, .int .i64 0] := by rw [← hw3]; exact C2.out
  have HB3 := Lib.hid (show Below w.heap.size w w3 by rw [← hw3]; exact HB0.out.drew)
  refine wp_region_still_tail 15 (by kernel_rfl) (by kernel_rfl) ?_
  simp only [List.take_succ_cons, List.take_zero, List.drop_succ_cons, List.drop_zero]
  rw [hw3]
  clear hw3
  repeat still_step
  still_call ((clip64 a c d _).mono fun _ _ ⟨h1, h2⟩ => ⟨h1, h2.symm⟩)
  repeat still_step
  still_call ((clip64 b c d _).mono fun _ _ ⟨h1, h2⟩ => ⟨h1, h2.symm⟩)
  repeat still_step
  refine wpStill_nil ?_
  have z3 := C2w.frozen 0
  have k4 := cellAt C2w 0 rfl
  have C2x := C2w.set 0 (.int .i64 (cl a c d))
  have z4 := C2x.frozen 1
  have k5 := cellAt C2x 1 rfl
  have C2y := C2x.set 1 (.int .i64 (cl b c d))
  have k6 := cellAt C2y 0 rfl
  have k7 := cellAt C2y 1 rfl
  clear C2w C2x C2y
  go_wp2
  refine bodyPost_ret (v := .agg #[.int .i64 (cl a c d), .int .i64 (cl b c d)]) (by simp [results, Tryd.results97, go_sem, k6, k7]) rfl ?_
  exact ⟨rfl, (HB3.out.setCell (by show _ ≤ w.heap.size + 1 + 1; omega) _).setCell (by show _ ≤ w.heap.size + 1 + 1; omega) _⟩
theorem along0 (x y u v : Int) (w : World) (hx : in32 x) (hu : in32 u) :
    Calls Tryd.prog 95 #[.agg #[.int .i32 x, .int .i32 y, .int .i32 u, .int .i32 v], .int .i64 0] w fun e w' => e = .returned (.agg #[.int .i64 x, .int .i64 (x + po u)]) ∧ Below w.heap.size w w' := by
  obtain ⟨hx1, hx2⟩ := hx
  obtain ⟨hu1, hu2⟩ := hu
  have HC : ∀ w, Calls Tryd.prog 102 #[.int .i32 u, .int .i32 0, .int .i32 2147483647] w fun e w' => e = .returned (.int .i32 (po u)) ∧ w = w' := by
    intro w
    have h := clip32 u 0 2147483647 w
    rwa [show cl u 0 2147483647 = po u by unfold cl po; omega] at h
  have HC := Lib.hid HC
  obtain ⟨hp1, hp2⟩ : 0 ≤ po u ∧ po u ≤ 2147483647 := by unfold po; omega
  generalize po u = p at *
  go_enter Tryd.func95, Tryd.ntmps95
  go_wp2
  go_quiet (fail)
  go_wp2_with fail
  refine (HC.out _).mono ?_
  rintro E w1 ⟨rfl, rfl⟩
  go_wp2
  go_returns
  refine ⟨rfl, Below.setCell (Below.setCell (below_drewN (by go_grown) _) ?_ _) ?_ _⟩
  all_goals simp
theorem along1 (x y u v : Int) (w : World) (hy : in32 y) (hv : in32 v) :
    Calls Tryd.prog 95 #[.agg #[.int .i32 x, .int .i32 y, .int .i32 u, .int .i32 v], .int .i64 1] w fun e w' => e = .returned (.agg #[.int .i64 y, .int .i64 (y + po v)]) ∧ Below w.heap.size w w' := by
  obtain ⟨hy1, hy2⟩ := hy
  obtain ⟨hv1, hv2⟩ := hv
  have HC : ∀ w, Calls Tryd.prog 102 #[.int .i32 v, .int .i32 0, .int .i32 2147483647] w fun e w' => e = .returned (.int .i32 (po v)) ∧ w = w' := by
    intro w
    have h := clip32 v 0 2147483647 w
    rwa [show cl v 0 2147483647 = po v by unfold cl po; omega] at h
  have HC := Lib.hid HC
  obtain ⟨hp1, hp2⟩ : 0 ≤ po v ∧ po v ≤ 2147483647 := by unfold po; omega
  generalize po v = p at *
  go_enter Tryd.func95, Tryd.ntmps95
  have HB := Lib.hid (show Below w.heap.size w ((w.alloc (.cells #[.int .i32 x, .int .i32 y, .int .i32 u, .int .i32 v] 134)).alloc (.cells #[.int .i64 0, .int .i64 0] 118)) by go_grown)
  have C0 := Lib.hid ((Cells.made w 134 #[.int .i32 x, .int .i32 y, .int .i32 u, .int .i32 v]).alloc (.cells #[.int .i64 0, .int .i64 0] 118))
  have C1 := Lib.hid (show Cells ((w.alloc (.cells #[.int .i32 x, .int .i32 y, .int .i32 u, .int .i32 v] 134)).alloc (.cells #[.int .i64 0, .int .i64 0] 118)) (w.heap.size + 1) 118 #[.int .i64 0, .int .i64 0] by simpa using (Cells.made (w.alloc (.cells #[.int .i32 x, .int .i32 y, .int .i32 u, .int .i32 v] 134)) 118 #[.int .i64 0, .int .i64 0]))
  go_wp2
  generalize ((w.alloc (.cells #[.int .i32 x, .int .i32 y, .int .i32 u, .int .i32 v] 134)).alloc (.cells #[.int .i64 0, .int .i64 0] 118)) = w2 at *
  have s0 : ∀ n, (w2.drewN n).cell? ⟨w.heap.size, 0, none⟩ = some (.int .i32 x) := fun _ => cellAt C0.out 0 rfl
  have s1 : ∀ n, (w2.drewN n).cell? ⟨w.heap.size, 1, none⟩ = some (.int .i32 y) := fun _ => cellAt C0.out 1 rfl
  have s2 : ∀ n, (w2.drewN n).cell? ⟨w.heap.size, 2, none⟩ = some (.int .i32 u) := fun _ => cellAt C0.out 2 rfl
  have s3 : ∀ n, (w2.drewN n).cell? ⟨w.heap.size, 3, none⟩ = some (.int .i32 v) := fun _ => cellAt C0.out 3 rfl
  have t0 : w2.cell? ⟨w.heap.size, 0, none⟩ = some (.int .i32 x) := cellAt C0.out 0 rfl
  have t2 : w2.cell? ⟨w.heap.size, 2, none⟩ = some (.int .i32 u) := cellAt C0.out 2 rfl
  go_quiet (fail)
  go_wp2
  go_quiet (fail)
  clear s0 s1 s2 s3 t0 t2
  go_wp2_with fail
  refine (HC.out _).mono ?_
  rintro E w1 ⟨rfl, rfl⟩
  generalize hw3 : w2.drewN _ = w3
  have HB3 := Lib.hid (show Below w.heap.size w w3 by rw [← hw3]; exact below_drewN HB.out _)
  have C1w : Cells w3 (w.heap.size + 1) 118 #[.int .i64 0, .int .i64 0] := by rw [← hw3]; exact C1.out
  clear hw3
  have z3 := C1w.frozen 0
  have k4 := cellAt C1w 0 rfl
  have C1x := C1w.set 0 (.int .i64 y)
  have z4 := C1x.frozen 1
  have k5 := cellAt C1x 1 rfl
  have C1y := C1x.set 1 (.int .i64 (y + p))
  have k6 := cellAt C1y 0 rfl
  have k7 := cellAt C1y 1 rfl
  clear C1w C1x C1y
  go_wp2
  refine bodyPost_ret (v := .agg #[.int .i64 y, .int .i64 (y + p)]) (by simp [results, Tryd.results95, go_sem, k6, k7]) rfl ?_
  exact ⟨rfl, (HB3.out.setCell (by show _ ≤ w.heap.size + 1; omega) _).setCell (by show _ ≤ w.heap.size + 1; omega) _⟩
end Go.Proofs.YtgmbdadkahcpcaaDoor.G
/- Areas: one contract each. Nothing is assumed beyond each contract's own bounds. -/
namespace Go.Proofs.YtgmbdadkahcpcaaDoor.G
open Go.RowKit
set_option linter.unusedVariables false
set_option maxRecDepth 20000

/-- Below block B the world is as wd was. -/
def On (B : Nat) (wd w' : World) : Prop := Below B wd w'
section
variable {B : Nat} {w wd w1 w2 w' : World} {g : Nat} {t : TypeId} {cs : Array Value}
theorem On.refl (B : Nat) (w : World) : On B w w := Below.refl _ _
theorem On.drew (B : Nat) (w : World) : On B w w.drew := (Below.refl _ w).drew
theorem on_weak (h : On wd.heap.size wd w') (hB : B ≤ wd.heap.size) : On B wd w' := Below.mono h hB
theorem on_step (h : On wd.heap.size wd w1) (hb : Below w1.heap.size w1 w2) : On wd.heap.size wd w2 := Below.trans h (hb.mono h.size)
theorem on_step' (h : On B wd w1) (hB : B ≤ wd.heap.size) (hb : Below w1.heap.size w1 w2) : On B wd w2 := Below.trans h (hb.mono (Nat.le_trans hB h.size))
theorem on_set (h : On B wd w1) {p : Addr} (hp : B ≤ p.block) (u : Value) : On B wd (w1.setCell p u) := Below.setCell h hp u
theorem on_below (h : Below w.heap.size w wd) (hB : w.heap.size ≤ B) (o : On B wd w') : Below w.heap.size w w' := h.trans (Below.mono o hB)
theorem on_cell (h : Cells wd g t cs) (hg : g < B) (i : Nat) {v : Value} (hv : cs[i]? = some v) : ∀ w', On B wd w' → w'.cell? ⟨g, i, none⟩ = some v := fun _ o => cellAt (h.below o hg) i hv
theorem on_cells (h : Cells wd g t cs) : ∀ w', On wd.heap.size wd w' → Cells w' g t cs := fun _ o => h.below o h.lt
end
/-- What a store of four cells, one behind the other, meets in each world, and leaves. -/
theorem on_store4 {wd : World} {g : Nat} {t : TypeId} {z0 z1 z2 z3 : Value} (h : Cells wd g t #[z0, z1, z2, z3]) (v0 v1 v2 v3 : Value) :
    (∀ w', On wd.heap.size wd w' → w'.frozen? ⟨g, 0, none⟩ = false) ∧ (∀ w', On wd.heap.size wd w' → w'.cell? ⟨g, 0, none⟩ = some z0) ∧
    (∀ w', On wd.heap.size wd w' → (w'.setCell ⟨g, 0, none⟩ v0).frozen? ⟨g, 1, none⟩ = false) ∧ (∀ w', On wd.heap.size wd w' → (w'.setCell ⟨g, 0, none⟩ v0).cell? ⟨g, 1, none⟩ = some z1) ∧
    (∀ w', On wd.heap.size wd w' → ((w'.setCell ⟨g, 0, none⟩ v0).setCell ⟨g, 1, none⟩ v1).frozen? ⟨g, 2, none⟩ = false) ∧ (∀ w', On wd.heap.size wd w' → ((w'.setCell ⟨g, 0, none⟩ v0).setCell ⟨g, 1, none⟩ v1).cell? ⟨g, 2, none⟩ = some z2) ∧
    (∀ w', On wd.heap.size wd w' → (((w'.setCell ⟨g, 0, none⟩ v0).setCell ⟨g, 1, none⟩ v1).setCell ⟨g, 2, none⟩ v2).frozen? ⟨g, 3, none⟩ = false) ∧ (∀ w', On wd.heap.size wd w' → (((w'.setCell ⟨g, 0, none⟩ v0).setCell ⟨g, 1, none⟩ v1).setCell ⟨g, 2, none⟩ v2).cell? ⟨g, 3, none⟩ = some z3) ∧
    (∀ w', On wd.heap.size wd w' → Cells ((((w'.setCell ⟨g, 0, none⟩ v0).setCell ⟨g, 1, none⟩ v1).setCell ⟨g, 2, none⟩ v2).setCell ⟨g, 3, none⟩ v3) g t #[v0, v1, v2, v3]) := by
  have H := on_cells h
  refine ⟨fun w' o => (H w' o).frozen 0, fun w' o => cellAt (H w' o) 0 rfl, fun w' o => ((H w' o).set 0 v0).frozen 1, fun w' o => cellAt ((H w' o).set 0 v0) 1 rfl, fun w' o => (((H w' o).set 0 v0).set 1 v1).frozen 2, fun w' o => cellAt (((H w' o).set 0 v0).set 1 v1) 2 rfl, fun w' o => ((((H w' o).set 0 v0).set 1 v1).set 2 v2).frozen 3, fun w' o => cellAt ((((H w' o).set 0 v0).set 1 v1).set 2 v2) 3 rfl, fun w' o => ?_⟩
  exact ((((H w' o).set 0 v0).set 1 v1).set 2 v2).set 3 v3
theorem areaOf (x y u v : Int) (w : World) (hx : in32 x) (hy : in32 y) (hu : in32 u) (hv : in32 v) :
    Calls Tryd.prog 84 #[.agg #[.int .i32 x, .int .i32 y, .int .i32 u, .int .i32 v]] w fun e w' => e = .returned (.agg #[.int .i64 x, .int .i64 (x + po u), .int .i64 y, .int .i64 (y + po v)]) ∧ Below w.heap.size w w' := by
  have hmf : ∀ (fn : Fn) (first cap : Array Value) (w : World), (Instr.makeFunc fn first cap).run Tryd.prog w = .ok (.func fn first cap) w := fun _ _ _ _ => rfl
  have A0 := Lib.hid (fun W => along0 x y u v W hx hu)
  have A1 := Lib.hid (fun W => along1 x y u v W hy hv)
  have HB := Lib.hid (show Below w.heap.size w ((w.alloc (.cells #[.int .i32 x, .int .i32 y, .int .i32 u, .int .i32 v] 99)).alloc (.cells #[.int .i64 0, .int .i64 0, .int .i64 0, .int .i64 0] 120)) by go_grown)
  have C1 := Lib.hid (show Cells ((w.alloc (.cells #[.int .i32 x, .int .i32 y, .int .i32 u, .int .i32 v] 99)).alloc (.cells #[.int .i64 0, .int .i64 0, .int .i64 0, .int .i64 0] 120)) (w.heap.size + 1) 120 #[.int .i64 0, .int .i64 0, .int .i64 0, .int .i64 0] by simpa using Cells.made (w.alloc (.cells #[.int .i32 x, .int .i32 y, .int .i32 u, .int .i32 v] 99)) 120 #[.int .i64 0, .int .i64 0, .int .i64 0, .int .i64 0])
  generalize po u = p at *
  generalize po v = q at *
  go_enter Tryd.func84, Tryd.ntmps84
  go_wp2_with fail
  refine (A0.out _).mono ?_
  rintro E w1 ⟨rfl, hb1⟩
  have C1w := Lib.hid (C1.out.below hb1 (by simp))
  have HB1 := Lib.hid (HB.out.trans (hb1.mono (by simp; omega)))
  clear hb1
  go_wp2_with fail
  refine (A1.out _).mono ?_
  rintro E w2 ⟨rfl, hb2⟩
  have HB2 := Lib.hid (HB1.out.trans (hb2.mono HB1.out.size))
  have c0 := C1w.out.below hb2 C1w.out.lt
  clear hb2
  have z0 := c0.frozen 0
  have k0 := cellAt c0 0 rfl
  have c1 := c0.set 0 (.int .i64 x)
  have z1 := c1.frozen 1
  have k1 := cellAt c1 1 rfl
  have c2 := c1.set 1 (.int .i64 (x + p))
  have z2 := c2.frozen 2
  have k2 := cellAt c2 2 rfl
  have c3 := c2.set 2 (.int .i64 y)
  have z3 := c3.frozen 3
  have k3 := cellAt c3 3 rfl
  have c4 := c3.set 3 (.int .i64 (y + q))
  have j0 := cellAt c4 0 rfl
  have j1 := cellAt c4 1 rfl
  have j2 := cellAt c4 2 rfl
  have j3 := cellAt c4 3 rfl
  clear c0 c1 c2 c3 c4
  go_wp2
  refine bodyPost_ret (v := .agg #[.int .i64 x, .int .i64 (x + p), .int .i64 y, .int .i64 (y + q)]) (by simp [results, Tryd.results84, go_sem, j0, j1, j2, j3]) rfl ?_
  exact ⟨rfl, (((HB2.out.setCell (by show _ ≤ w.heap.size + 1; omega) _).setCell (by show _ ≤ w.heap.size + 1; omega) _).setCell (by show _ ≤ w.heap.size + 1; omega) _).setCell (by show _ ≤ w.heap.size + 1; omega) _⟩
theorem arEmpty (a b c d : Int) (w : World) :
    Calls Tryd.prog 85 #[.agg #[.int .i64 a, .int .i64 b, .int .i64 c, .int .i64 d]] w fun e w' => e = .returned (.bool (a == b || c == d)) ∧ Below w.heap.size w w' := by
  have HB := Lib.hid (show Below w.heap.size w (w.alloc (.cells #[.int .i64 a, .int .i64 b, .int .i64 c, .int .i64 d] 120)) by go_grown)
  have C := Lib.hid (Cells.made w 120 #[.int .i64 a, .int .i64 b, .int .i64 c, .int .i64 d])
  have E0 := Lib.hid (fun W => ivEmpty a b W)
  have E1 := Lib.hid (fun W => ivEmpty c d W)
  cases h : (a == b)
  · go_enter Tryd.func85, Tryd.ntmps85
    go_wp2_with fail
    refine (E0.out _).mono ?_
    rintro E w1 ⟨rfl, hb1⟩
    rw [h]
    have HB1 := Lib.hid (HB.out.trans (hb1.mono (by simp)))
    have c1 := C.out.below hb1 (by simp)
    clear hb1
    have k2 := cellAt c1 2 rfl
    have k3 := cellAt c1 3 rfl
    clear c1
    go_wp2_with fail
    refine (E1.out _).mono ?_
    rintro E w2 ⟨rfl, hb2⟩
    have HB2 := Lib.hid (HB1.out.trans (hb2.mono HB1.out.size))
    clear hb2
    go_wp2
    go_ret
    exact ⟨ret_bool (by simp), HB2.out⟩
  · go_enter Tryd.func85, Tryd.ntmps85
    go_wp2_with fail
    refine (E0.out _).mono ?_
    rintro E w1 ⟨rfl, hb1⟩
    rw [h]
    have HB1 := Lib.hid (HB.out.trans (hb1.mono (by simp)))
    clear hb1
    go_wp2
    go_ret
    exact ⟨ret_bool (by simp), HB1.out⟩
theorem arClip (a b c d a' b' c' d' : Int) (w : World) :
    Calls Tryd.prog 86 #[.agg #[.int .i64 a, .int .i64 b, .int .i64 c, .int .i64 d], .agg #[.int .i64 a', .int .i64 b', .int .i64 c', .int .i64 d']] w fun e w' => e = .returned (.agg #[.int .i64 (cl a a' b'), .int .i64 (cl b a' b'), .int .i64 (cl c c' d'), .int .i64 (cl d c' d')]) ∧ Below w.heap.size w w' := by
  have HB := Lib.hid (show Below w.heap.size w (((w.alloc (.cells #[.int .i64 a, .int .i64 b, .int .i64 c, .int .i64 d] 120)).alloc (.cells #[.int .i64 a', .int .i64 b', .int .i64 c', .int .i64 d'] 120)).alloc (.cells #[.int .i64 0, .int .i64 0, .int .i64 0, .int .i64 0] 120)) by go_grown)
  have C0 := Lib.hid (((Cells.made w 120 #[.int .i64 a, .int .i64 b, .int .i64 c, .int .i64 d]).alloc (.cells #[.int .i64 a', .int .i64 b', .int .i64 c', .int .i64 d'] 120)).alloc (.cells #[.int .i64 0, .int .i64 0, .int .i64 0, .int .i64 0] 120))
  have C1 := Lib.hid (show Cells (((w.alloc (.cells #[.int .i64 a, .int .i64 b, .int .i64 c, .int .i64 d] 120)).alloc (.cells #[.int .i64 a', .int .i64 b', .int .i64 c', .int .i64 d'] 120)).alloc (.cells #[.int .i64 0, .int .i64 0, .int .i64 0, .int .i64 0] 120)) (w.heap.size + 1) 120 #[.int .i64 a', .int .i64 b', .int .i64 c', .int .i64 d'] by simpa using (Cells.made (w.alloc (.cells #[.int .i64 a, .int .i64 b, .int .i64 c, .int .i64 d] 120)) 120 #[.int .i64 a', .int .i64 b', .int .i64 c', .int .i64 d']).alloc (.cells #[.int .i64 0, .int .i64 0, .int .i64 0, .int .i64 0] 120))
  have C2 := Lib.hid (show Cells (((w.alloc (.cells #[.int .i64 a, .int .i64 b, .int .i64 c, .int .i64 d] 120)).alloc (.cells #[.int .i64 a', .int .i64 b', .int .i64 c', .int .i64 d'] 120)).alloc (.cells #[.int .i64 0, .int .i64 0, .int .i64 0, .int .i64 0] 120)) (w.heap.size + 1 + 1) 120 #[.int .i64 0, .int .i64 0, .int .i64 0, .int .i64 0] by simpa using Cells.made ((w.alloc (.cells #[.int .i64 a, .int .i64 b, .int .i64 c, .int .i64 d] 120)).alloc (.cells #[.int .i64 a', .int .i64 b', .int .i64 c', .int .i64 d'] 120)) 120 #[.int .i64 0, .int .i64 0, .int .i64 0, .int .i64 0])
  go_enter Tryd.func86, Tryd.ntmps86
  go_wp2
  generalize ((w.alloc (.cells #[.int .i64 a, .int .i64 b, .int .i64 c, .int .i64 d] 120)).alloc (.cells #[.int .i64 a', .int .i64 b', .int .i64 c', .int .i64 d'] 120)).alloc (.cells #[.int .i64 0, .int .i64 0, .int .i64 0, .int .i64 0] 120) = wd at *
  have hlt : w.heap.size + 1 + 1 < wd.heap.size := C2.out.lt
  have a0 := on_cell (B := w.heap.size + 1 + 1) C0.out (by omega) 0 rfl
  have a1 := on_cell (B := w.heap.size + 1 + 1) C0.out (by omega) 1 rfl
  have a2 := on_cell (B := w.heap.size + 1 + 1) C0.out (by omega) 2 rfl
  have a3 := on_cell (B := w.heap.size + 1 + 1) C0.out (by omega) 3 rfl
  have b0 := on_cell (B := w.heap.size + 1 + 1) C1.out (by omega) 0 rfl
  have b1 := on_cell (B := w.heap.size + 1 + 1) C1.out (by omega) 1 rfl
  have b2 := on_cell (B := w.heap.size + 1 + 1) C1.out (by omega) 2 rfl
  have b3 := on_cell (B := w.heap.size + 1 + 1) C1.out (by omega) 3 rfl
  have HL := Lib.hid (Nat.le_of_lt hlt)
  clear hlt
  obtain ⟨z0, k0, z1, k1, z2, k2, z3, k3, CJ⟩ := on_store4 C2.out (.int .i64 (cl a a' b')) (.int .i64 (cl b a' b')) (.int .i64 (cl c c' d')) (.int .i64 (cl d c' d'))
  have CJ := Lib.hid CJ
  have o0 := On.drew wd.heap.size wd
  have p0 := On.drew (w.heap.size + 1 + 1) wd
  go_region_held3 (fun w' => On (w.heap.size + 1 + 1) wd w') (first | assumption | exact on_set (on_set (on_set (on_set p4 (Nat.le_refl _) _) (Nat.le_refl _) _) (Nat.le_refl _) _) (Nat.le_refl _) _) (first | (go_at_call 97; refine (ivClip _ _ _ _ _).mono ?_; rintro E w4 ⟨rfl, hb4⟩; have o4 := on_step (wd := wd) (by assumption) hb4; have p4 := on_weak o4 HL.out))
  have c4 := CJ.out _ o4
  have j0 := cellAt c4 0 rfl
  have j1 := cellAt c4 1 rfl
  have j2 := cellAt c4 2 rfl
  have j3 := cellAt c4 3 rfl
  clear c4 z0 k0 z1 k1 z2 k2 z3 k3
  go_wp2
  refine bodyPost_ret (v := .agg #[.int .i64 (cl a a' b'), .int .i64 (cl b a' b'), .int .i64 (cl c c' d'), .int .i64 (cl d c' d')]) (by simp [results, Tryd.results86, go_sem, j0, j1, j2, j3]) rfl ?_
  exact ⟨rfl, on_below HB.out (by omega) (on_set (on_set (on_set (on_set p4 (Nat.le_refl _) _) (Nat.le_refl _) _) (Nat.le_refl _) _) (Nat.le_refl _) _)⟩
end Go.Proofs.YtgmbdadkahcpcaaDoor.G
/- Boxes: whether they are over one another, one inside another, how near, the midst: one contract each. Nothing is assumed beyond numbers of 32 bits. -/
namespace Go.Proofs.YtgmbdadkahcpcaaDoor.G
open Go.RowKit
set_option linter.unusedVariables false
set_option maxRecDepth 20000

/-- A box: where it begins, and how long its sides are. -/
structure Bx where
  x : Int
  y : Int
  u : Int
  v : Int
/-- All four are numbers of 32 bits. -/
structure Bx.ok (a : Bx) : Prop where
  x : in32 a.x
  y : in32 a.y
  u : in32 a.u
  v : in32 a.v
/-- Both have a point in common. -/
def Ovr (a b : Bx) : Prop := (0 < a.u ∧ 0 < a.v ∧ 0 < b.u ∧ 0 < b.v) ∧ (a.x < b.x + b.u ∧ b.x < a.x + a.u) ∧ (a.y < b.y + b.v ∧ b.y < a.y + a.v)
instance (a b : Bx) : Decidable (Ovr a b) := by unfold Ovr; infer_instance
def ovr (a b : Bx) : Bool := decide (Ovr a b)
/-- The first one has a point, and all of its points are the second one's. -/
def Ins (a b : Bx) : Prop := (0 < a.u ∧ 0 < a.v) ∧ (b.x ≤ a.x ∧ a.x + a.u ≤ b.x + b.u) ∧ (b.y ≤ a.y ∧ a.y + a.v ≤ b.y + b.v)
instance (a b : Bx) : Decidable (Ins a b) := by unfold Ins; infer_instance
def ins (a b : Bx) : Bool := decide (Ins a b)
theorem ovr_says (a b : Bx) : ovr a b = !(cl a.x b.x (b.x + po b.u) == cl (a.x + po a.u) b.x (b.x + po b.u) || cl a.y b.y (b.y + po b.v) == cl (a.y + po a.v) b.y (b.y + po b.v)) := by
  have e1 : (cl a.x b.x (b.x + po b.u) == cl (a.x + po a.u) b.x (b.x + po b.u)) = decide (cl a.x b.x (b.x + po b.u) = cl (a.x + po a.u) b.x (b.x + po b.u)) := rfl
  have e2 : (cl a.y b.y (b.y + po b.v) == cl (a.y + po a.v) b.y (b.y + po b.v)) = decide (cl a.y b.y (b.y + po b.v) = cl (a.y + po a.v) b.y (b.y + po b.v)) := rfl
  rw [e1, e2]
  unfold ovr
  rw [Bool.eq_iff_iff]
  simp only [decide_eq_true_eq, Bool.not_eq_true', Bool.or_eq_false_iff, decide_eq_false_iff_not]
  unfold Ovr cl po
  omega
theorem on_alloc {wd w' : World} (h : On wd.heap.size wd w') (o : Obj) : On wd.heap.size wd (w'.alloc o) := Below.alloc h h.size o
theorem ret_two32 {a b c d : Int} (h : a = c) (k : b = d) : Ending.returned (.tuple #[.int .i32 a, .int .i32 b]) = .returned (.tuple #[.int .i32 c, .int .i32 d]) := by rw [h, k]
theorem two_boxes (w : World) (a b : Bx) :
    Below w.heap.size w ((w.alloc (.cells #[.int .i32 a.x, .int .i32 a.y, .int .i32 a.u, .int .i32 a.v] 99)).alloc (.cells #[.int .i32 b.x, .int .i32 b.y, .int .i32 b.u, .int .i32 b.v] 99)) ∧ Cells ((w.alloc (.cells #[.int .i32 a.x, .int .i32 a.y, .int .i32 a.u, .int .i32 a.v] 99)).alloc (.cells #[.int .i32 b.x, .int .i32 b.y, .int .i32 b.u, .int .i32 b.v] 99)) w.heap.size 99 #[.int .i32 a.x, .int .i32 a.y, .int .i32 a.u, .int .i32 a.v] ∧ Cells ((w.alloc (.cells #[.int .i32 a.x, .int .i32 a.y, .int .i32 a.u, .int .i32 a.v] 99)).alloc (.cells #[.int .i32 b.x, .int .i32 b.y, .int .i32 b.u, .int .i32 b.v] 99)) (w.heap.size + 1) 99 #[.int .i32 b.x, .int .i32 b.y, .int .i32 b.u, .int .i32 b.v] :=
  ⟨by go_grown, (Cells.made w 99 _).alloc _, by simpa using Cells.made (w.alloc (.cells #[.int .i32 a.x, .int .i32 a.y, .int .i32 a.u, .int .i32 a.v] 99)) 99 #[.int .i32 b.x, .int .i32 b.y, .int .i32 b.u, .int .i32 b.v]⟩
theorem over (a b : Bx) (w : World) (ha : a.ok) (hb : b.ok) :
    Calls Tryd.prog 65 #[.agg #[.int .i32 a.x, .int .i32 a.y, .int .i32 a.u, .int .i32 a.v], .agg #[.int .i32 b.x, .int .i32 b.y, .int .i32 b.u, .int .i32 b.v]] w fun e w' => e = .returned (.bool (ovr a b)) ∧ Below w.heap.size w w' := by
  have HO := Lib.hid (ovr_says a b)
  obtain ⟨HB, C0, C1⟩ := two_boxes w a b
  have HB := Lib.hid HB
  have C0 := Lib.hid C0
  have C1 := Lib.hid C1
  obtain ⟨ax, ay, au, av⟩ := ha
  obtain ⟨bx, by', bu, bv⟩ := hb
  go_enter Tryd.func65, Tryd.ntmps65
  go_wp2
  generalize (w.alloc (.cells #[.int .i32 a.x, .int .i32 a.y, .int .i32 a.u, .int .i32 a.v] 99)).alloc (.cells #[.int .i32 b.x, .int .i32 b.y, .int .i32 b.u, .int .i32 b.v] 99) = wd at *
  have a0 := on_cell (B := wd.heap.size) C0.out C0.out.lt 0 rfl
  have a1 := on_cell (B := wd.heap.size) C0.out C0.out.lt 1 rfl
  have a2 := on_cell (B := wd.heap.size) C0.out C0.out.lt 2 rfl
  have a3 := on_cell (B := wd.heap.size) C0.out C0.out.lt 3 rfl
  have b0 := on_cell (B := wd.heap.size) C1.out C1.out.lt 0 rfl
  have b1 := on_cell (B := wd.heap.size) C1.out C1.out.lt 1 rfl
  have b2 := on_cell (B := wd.heap.size) C1.out C1.out.lt 2 rfl
  have b3 := on_cell (B := wd.heap.size) C1.out C1.out.lt 3 rfl
  have o0 := On.drew wd.heap.size wd
  go_region_held3 (fun w' => On wd.heap.size wd w') (first | assumption) (first | (go_at_call 84; refine (areaOf _ _ _ _ _ (by assumption) (by assumption) (by assumption) (by assumption)).mono ?_; rintro E w4 ⟨rfl, hb4⟩; have o4 := on_step (wd := wd) (by assumption) hb4) | (go_at_call 86; refine (arClip _ _ _ _ _ _ _ _ _).mono ?_; rintro E w4 ⟨rfl, hb4⟩; have o4 := on_step (wd := wd) (by assumption) hb4) | (go_at_call 85; refine (arEmpty _ _ _ _ _).mono ?_; rintro E w4 ⟨rfl, hb4⟩; have o4 := on_step (wd := wd) (by assumption) hb4))
  go_wp2
  go_ret
  exact ⟨ret_bool (by rw [HO.out, Bool.not_or]), on_below HB.out HB.out.size o4⟩
end Go.Proofs.YtgmbdadkahcpcaaDoor.G
/- Whether one box is inside another one. Nothing is assumed beyond numbers of 32 bits. -/
namespace Go.Proofs.YtgmbdadkahcpcaaDoor.G
open Go.RowKit
set_option linter.unusedVariables false
set_option maxRecDepth 20000

theorem ins_no (a b : Bx) (h : (a.x == a.x + po a.u || a.y == a.y + po a.v) = true) : ins a b = false := by
  rw [Bool.or_eq_true, beq_iff_eq, beq_iff_eq] at h
  unfold ins
  rw [decide_eq_false_iff_not]
  unfold Ins
  unfold po at h
  omega
theorem ins_yes (a b : Bx) (h : (a.x == a.x + po a.u || a.y == a.y + po a.v) = false) : ins a b = ((cl a.x b.x (b.x + po b.u) == a.x && cl (a.x + po a.u) b.x (b.x + po b.u) == a.x + po a.u) && (cl a.y b.y (b.y + po b.v) == a.y && cl (a.y + po a.v) b.y (b.y + po b.v) == a.y + po a.v)) := by
  rw [Bool.or_eq_false_iff, beq_eq_false_iff_ne, beq_eq_false_iff_ne] at h
  rw [Bool.eq_iff_iff]
  simp only [Bool.and_eq_true, beq_iff_eq]
  unfold ins
  rw [decide_eq_true_eq]
  unfold Ins cl
  unfold po at *
  omega
theorem area_eq (a b c d a' b' c' d' : Int) (w : World) : (binOp .eql 120 (.agg #[.int .i64 a, .int .i64 b, .int .i64 c, .int .i64 d]) (.agg #[.int .i64 a', .int .i64 b', .int .i64 c', .int .i64 d'])).run Tryd.prog w = .ok (.bool ((a == a' && b == b') && (c == c' && d == d'))) w := by
  cases h0 : (a == a') <;> cases h1 : (b == b') <;> cases h2 : (c == c') <;> cases h3 : (d == d')
  all_goals simp [go_sem, h0, h1, h2, h3]
attribute [local go_sem ↓] area_eq
set_option maxHeartbeats 2000000 in
theorem inside (a b : Bx) (w : World) (ha : a.ok) (hb : b.ok) :
    Calls Tryd.prog 64 #[.agg #[.int .i32 a.x, .int .i32 a.y, .int .i32 a.u, .int .i32 a.v], .agg #[.int .i32 b.x, .int .i32 b.y, .int .i32 b.u, .int .i32 b.v]] w fun e w' => e = .returned (.bool (ins a b)) ∧ Below w.heap.size w w' := by
  obtain ⟨HB, C0, C1⟩ := two_boxes w a b
  have HB := Lib.hid HB
  have C0 := Lib.hid C0
  have C1 := Lib.hid C1
  have HA := Lib.hid (areaOf a.x a.y a.u a.v ((w.alloc (.cells #[.int .i32 a.x, .int .i32 a.y, .int .i32 a.u, .int .i32 a.v] 99)).alloc (.cells #[.int .i32 b.x, .int .i32 b.y, .int .i32 b.u, .int .i32 b.v] 99)) ha.x ha.y ha.u ha.v)
  have HE := fun W => arEmpty a.x (a.x + po a.u) a.y (a.y + po a.v) W
  obtain ⟨bx, by', bu, bv⟩ := hb
  clear ha
  cases h : (a.x == a.x + po a.u || a.y == a.y + po a.v)
  · have HI := Lib.hid (ins_yes a b h)
    rw [h] at HE
    have HE := Lib.hid HE
    clear h
    go_enter Tryd.func64, Tryd.ntmps64
    go_wp2_with fail
    refine HA.out.mono ?_
    rintro E w1 ⟨rfl, hb1⟩
    have HB1 := Lib.hid (HB.out.trans (hb1.mono HB.out.size))
    have C1' := Lib.hid (C1.out.below hb1 C1.out.lt)
    clear hb1 HB C0 C1 HA
    go_wp2
    have C := Lib.hid (Cells.made w1 120 #[.int .i64 a.x, .int .i64 (a.x + po a.u), .int .i64 a.y, .int .i64 (a.y + po a.v)])
    have HB2 := Lib.hid (HB1.out.alloc HB1.out.size (.cells #[.int .i64 a.x, .int .i64 (a.x + po a.u), .int .i64 a.y, .int .i64 (a.y + po a.v)] 120))
    have C2 := Lib.hid (C1'.out.alloc (.cells #[.int .i64 a.x, .int .i64 (a.x + po a.u), .int .i64 a.y, .int .i64 (a.y + po a.v)] 120))
    clear HB1 C1'
    generalize w1.alloc (.cells #[.int .i64 a.x, .int .i64 (a.x + po a.u), .int .i64 a.y, .int .i64 (a.y + po a.v)] 120) = wd at *
    have a0 := on_cell (B := wd.heap.size) C.out C.out.lt 0 rfl
    have a1 := on_cell (B := wd.heap.size) C.out C.out.lt 1 rfl
    have a2 := on_cell (B := wd.heap.size) C.out C.out.lt 2 rfl
    have a3 := on_cell (B := wd.heap.size) C.out C.out.lt 3 rfl
    have b0 := on_cell (B := wd.heap.size) C2.out C2.out.lt 0 rfl
    have b1 := on_cell (B := wd.heap.size) C2.out C2.out.lt 1 rfl
    have b2 := on_cell (B := wd.heap.size) C2.out C2.out.lt 2 rfl
    have b3 := on_cell (B := wd.heap.size) C2.out C2.out.lt 3 rfl
    have o0 := On.drew wd.heap.size wd
    go_region_held3 (fun w' => On wd.heap.size wd w') (first | assumption) (first | (go_at_call 84; refine (areaOf _ _ _ _ _ (by assumption) (by assumption) (by assumption) (by assumption)).mono ?_; rintro E w4 ⟨rfl, hb4⟩; have o4 := on_step (wd := wd) (by assumption) hb4) | (go_at_call 86; refine (arClip _ _ _ _ _ _ _ _ _).mono ?_; rintro E w4 ⟨rfl, hb4⟩; have o4 := on_step (wd := wd) (by assumption) hb4) | (go_at_call 85; refine (HE.out _).mono ?_; rintro E w4 ⟨rfl, hb4⟩; have o4 := on_step (wd := wd) (by assumption) hb4))
    go_wp2
    go_ret
    exact ⟨ret_bool HI.out.symm, on_below HB2.out HB2.out.size o4⟩
  · have HI := Lib.hid (ins_no a b h)
    rw [h] at HE
    have HE := Lib.hid HE
    clear h
    go_enter Tryd.func64, Tryd.ntmps64
    go_wp2_with fail
    refine HA.out.mono ?_
    rintro E w1 ⟨rfl, hb1⟩
    have HB1 := Lib.hid (HB.out.trans (hb1.mono HB.out.size))
    clear hb1 HB C0 C1 HA
    go_wp2
    have C := Lib.hid (Cells.made w1 120 #[.int .i64 a.x, .int .i64 (a.x + po a.u), .int .i64 a.y, .int .i64 (a.y + po a.v)])
    have HB2 := Lib.hid (HB1.out.alloc HB1.out.size (.cells #[.int .i64 a.x, .int .i64 (a.x + po a.u), .int .i64 a.y, .int .i64 (a.y + po a.v)] 120))
    clear HB1
    go_region_with (first | (go_at_call 85; refine (HE.out _).mono ?_; rintro E w4 ⟨rfl, hb4⟩; have o4 := Lib.hid hb4; clear hb4))
    all_goals go_wp2
    all_goals go_ret
    all_goals exact ⟨ret_bool HI.out.symm, HB2.out.trans ((Below.drew (Below.refl _ _)).trans (o4.out.mono (by simpa using HB2.out.size)))⟩
end Go.Proofs.YtgmbdadkahcpcaaDoor.G
/- How near one box is to another one. Nothing is assumed beyond numbers of 32 bits. -/
namespace Go.Proofs.YtgmbdadkahcpcaaDoor.G
open Go.RowKit
set_option linter.unusedVariables false
set_option maxRecDepth 20000

section
variable {w1 w2 : World}
theorem keep_cell (h : Below w1.heap.size w1 w2) : ∀ g i, g < w1.heap.size → w2.cell? ⟨g, i, none⟩ = w1.cell? ⟨g, i, none⟩ := fun g i hg => h.cell (p := ⟨g, i, none⟩) hg
theorem keep_frozen (h : Below w1.heap.size w1 w2) : ∀ g i, g < w1.heap.size → w2.frozen? ⟨g, i, none⟩ = w1.frozen? ⟨g, i, none⟩ := fun g i hg => h.frozen (p := ⟨g, i, none⟩) hg
theorem keep_lt (h : Below w1.heap.size w1 w2) : ∀ n, n < w1.heap.size → n < w2.heap.size := fun n hn => Nat.lt_of_lt_of_le hn h.size
theorem keep_ne (h : Below w1.heap.size w1 w2) : ∀ n, n < w1.heap.size → ¬ n = w2.heap.size := fun n hn => Nat.ne_of_lt (Nat.lt_of_lt_of_le hn h.size)
theorem keep_ne' (h : Below w1.heap.size w1 w2) : ∀ n, n < w1.heap.size → ¬ w2.heap.size = n := fun n hn e => Nat.ne_of_lt (Nat.lt_of_lt_of_le hn h.size) e.symm
end
theorem on_drewB {B : Nat} {w w' : World} (h : On B w w') : On B w w'.drew := Below.drew h
theorem far_cell {w : World} {g h i j : Nat} {v : Value} (hg : g ≠ h) : (w.setCell ⟨h, j, none⟩ v).cell? ⟨g, i, none⟩ = w.cell? ⟨g, i, none⟩ := World.cell?_of_block (w := w) (Below.heap_setCell w ⟨h, j, none⟩ v g hg)
theorem off_cell {w : World} {g i j : Nat} {v : Value} (hg : i ≠ j) : (w.setCell ⟨g, j, none⟩ v).cell? ⟨g, i, none⟩ = w.cell? ⟨g, i, none⟩ := World.cell?_setCell_other _ _ _ _ (by intro e; cases e; exact hg rfl)
theorem same_cell (w : World) (g i : Nat) (v : Value) : (w.setCell ⟨g, i, none⟩ v).cell? ⟨g, i, none⟩ = (w.cell? ⟨g, i, none⟩).map fun _ => v := by
  cases h : w.cell? ⟨g, i, none⟩ with
  | some u => rw [World.cell?_setCell_same _ _ _ h]; rfl
  | none =>
    revert h
    unfold World.cell? World.setCell
    simp [Array.getElem?_modify]
    cases w.heap[g]? with
    | none => simp
    | some o => cases o <;> simp
theorem max_if (x y : Int) : (if x < y then y else x) = max x y := by split <;> omega
theorem drew_size (w : World) : w.drew.heap.size = w.heap.size := rfl
theorem alloc_size (w : World) (o : Obj) : (w.alloc o).heap.size = w.heap.size + 1 := by simp
theorem on_size {B : Nat} {w w' : World} (h : On B w w') : w.heap.size ≤ w'.heap.size := Below.size h
/-- Two areas lie in blocks of the call's own. -/
def Two (w0 : World) (a b : Bx) (s5 s6 : Value) (wx : World) : Prop :=
  ∃ g h, s5 = .pointer (some ⟨g, 0, none⟩) ∧ s6 = .pointer (some ⟨h, 0, none⟩) ∧ g < wx.heap.size ∧ h < wx.heap.size ∧ Below w0.heap.size w0 wx ∧
    (wx.cell? ⟨g, 0, none⟩ = some (.int .i64 a.x) ∧ wx.cell? ⟨g, 1, none⟩ = some (.int .i64 (a.x + po a.u)) ∧ wx.cell? ⟨g, 2, none⟩ = some (.int .i64 a.y) ∧ wx.cell? ⟨g, 3, none⟩ = some (.int .i64 (a.y + po a.v))) ∧
    (wx.cell? ⟨h, 0, none⟩ = some (.int .i64 b.x) ∧ wx.cell? ⟨h, 1, none⟩ = some (.int .i64 (b.x + po b.u)) ∧ wx.cell? ⟨h, 2, none⟩ = some (.int .i64 b.y) ∧ wx.cell? ⟨h, 3, none⟩ = some (.int .i64 (b.y + po b.v)))

end Go.Proofs.YtgmbdadkahcpcaaDoor.G
/- The document's answers on boxes: one contract each. Nothing is assumed beyond numbers of 32 bits. -/
namespace Go.Proofs.YtgmbdadkahcpcaaDoor.G
open Go.RowKit
set_option linter.unusedVariables false
set_option maxRecDepth 20000

/-- A box has a point. -/
def Has (a : Bx) (x y : Int) : Prop := (a.x ≤ x ∧ x < a.x + a.u) ∧ (a.y ≤ y ∧ y < a.y + a.v)
instance (a : Bx) (x y : Int) : Decidable (Has a x y) := by unfold Has; infer_instance
def has (a : Bx) (x y : Int) : Bool := decide (Has a x y)
theorem Bx.ok.all {a : Bx} (h : a.ok) : (-2147483648 ≤ a.x ∧ a.x ≤ 2147483647) ∧ (-2147483648 ≤ a.y ∧ a.y ≤ 2147483647) ∧ (-2147483648 ≤ a.u ∧ a.u ≤ 2147483647) ∧ (-2147483648 ≤ a.v ∧ a.v ≤ 2147483647) := ⟨h.x, h.y, h.u, h.v⟩
theorem has_yes {a : Bx} {x y : Int} (h : Has a x y) : has a x y = true := decide_eq_true h
theorem has_no {a : Bx} {x y : Int} (h : ¬ Has a x y) : has a x y = false := decide_eq_false h
theorem box_made (w : World) (a : Bx) : Below w.heap.size w (w.alloc (.cells #[.int .i32 a.x, .int .i32 a.y, .int .i32 a.u, .int .i32 a.v] 99)) := by go_grown
theorem refHas (a : Bx) (x y : Int) (w : World) (ha : a.ok) (hx : in40 x) (hy : in40 y) :
    Calls Tryd.prog 93 #[.agg #[.int .i32 a.x, .int .i32 a.y, .int .i32 a.u, .int .i32 a.v], .int .i64 x, .int .i64 y] w fun e w' => e = .returned (.bool (has a x y)) ∧ Below w.heap.size w w' := by
  obtain ⟨⟨x1, x2⟩, ⟨y1, y2⟩, ⟨u1, u2⟩, v1, v2⟩ := ha.all
  obtain ⟨p1, p2⟩ := hx
  obtain ⟨q1, q2⟩ := hy
  clear ha
  by_cases c1 : a.x ≤ x
  · by_cases c2 : x - a.x < a.u
    · by_cases c3 : a.y ≤ y
      · by_cases c4 : y - a.y < a.v
        · have HH := Lib.hid (has_yes (a := a) (x := x) (y := y) (by unfold Has; omega))
          go_enter Tryd.func93, Tryd.ntmps93
          go_wp2
          go_ret
          exact ⟨ret_bool HH.out.symm, by go_grown⟩
        · have HH := Lib.hid (has_no (a := a) (x := x) (y := y) (by unfold Has; omega))
          go_enter Tryd.func93, Tryd.ntmps93
          go_wp2
          go_ret
          exact ⟨ret_bool HH.out.symm, by go_grown⟩
      · have HH := Lib.hid (has_no (a := a) (x := x) (y := y) (by unfold Has; omega))
        go_enter Tryd.func93, Tryd.ntmps93
        go_wp2
        go_ret
        exact ⟨ret_bool HH.out.symm, by go_grown⟩
    · have HH := Lib.hid (has_no (a := a) (x := x) (y := y) (by unfold Has; omega))
      go_enter Tryd.func93, Tryd.ntmps93
      go_wp2
      go_ret
      exact ⟨ret_bool HH.out.symm, by go_grown⟩
  · have HH := Lib.hid (has_no (a := a) (x := x) (y := y) (by unfold Has; omega))
    go_enter Tryd.func93, Tryd.ntmps93
    go_wp2
    go_ret
    exact ⟨ret_bool HH.out.symm, by go_grown⟩
theorem refOver (a b : Bx) (w : World) (ha : a.ok) (hb : b.ok) :
    Calls Tryd.prog 77 #[.agg #[.int .i32 a.x, .int .i32 a.y, .int .i32 a.u, .int .i32 a.v], .agg #[.int .i32 b.x, .int .i32 b.y, .int .i32 b.u, .int .i32 b.v]] w fun e w' => e = .returned (.bool (ovr a b)) ∧ Below w.heap.size w w' := by
  obtain ⟨HB, C0, C1⟩ := two_boxes w a b
  have HB := Lib.hid HB
  have C1 := Lib.hid C1
  obtain ⟨⟨x1, x2⟩, ⟨y1, y2⟩, ⟨u1, u2⟩, v1, v2⟩ := ha.all
  obtain ⟨p1, p2⟩ := hb.x
  obtain ⟨q1, q2⟩ := hb.y
  have ix : in40 (max a.x b.x) := by unfold in40; omega
  have iy : in40 (max a.y b.y) := by unfold in40; omega
  have HA := fun W => refHas a (max a.x b.x) (max a.y b.y) W ha ix iy
  have HE := fun W => refHas b (max a.x b.x) (max a.y b.y) W hb ix iy
  clear ix iy C0
  cases h : has a (max a.x b.x) (max a.y b.y)
  · have HH : Hid (ovr a b = false) := by
      unfold has at h
      rw [decide_eq_false_iff_not] at h
      refine decide_eq_false ?_
      unfold Has at h
      unfold Ovr
      omega
    rw [h] at HA
    have HA := Lib.hid HA
    clear h HE
    go_enter Tryd.func77, Tryd.ntmps77
    go_wp2_with fail
    refine (greater _ _ _).mono ?_
    rintro E w1 ⟨rfl, rfl⟩
    go_wp2_with fail
    refine (greater _ _ _).mono ?_
    rintro E w1 ⟨rfl, rfl⟩
    go_wp2_with fail
    refine (HA.out _).mono ?_
    rintro E w1 ⟨rfl, hb1⟩
    have HB1 := Lib.hid (HB.out.trans (hb1.mono HB.out.size))
    clear hb1
    go_wp2
    go_ret
    exact ⟨ret_bool HH.out.symm, HB1.out⟩
  · have HH : Hid (ovr a b = has b (max a.x b.x) (max a.y b.y)) := by
      unfold has at h
      rw [decide_eq_true_iff] at h
      unfold has ovr Hid
      rw [decide_eq_decide]
      unfold Has at h
      unfold Ovr Has
      omega
    rw [h] at HA
    have HA := Lib.hid HA
    have HE := Lib.hid HE
    clear h
    go_enter Tryd.func77, Tryd.ntmps77
    go_wp2_with fail
    refine (greater _ _ _).mono ?_
    rintro E w1 ⟨rfl, rfl⟩
    go_wp2_with fail
    refine (greater _ _ _).mono ?_
    rintro E w1 ⟨rfl, rfl⟩
    go_wp2_with fail
    refine (HA.out _).mono ?_
    rintro E w1 ⟨rfl, hb1⟩
    have HB1 := Lib.hid (HB.out.trans (hb1.mono HB.out.size))
    have c1 := C1.out.below hb1 C1.out.lt
    clear hb1
    have b0 := cellAt c1 0 rfl
    have b1 := cellAt c1 1 rfl
    have b2 := cellAt c1 2 rfl
    have b3 := cellAt c1 3 rfl
    clear c1
    go_wp2_with fail
    refine (HE.out _).mono ?_
    rintro E w2 ⟨rfl, hb2⟩
    have HB2 := Lib.hid (HB1.out.trans (hb2.mono HB1.out.size))
    clear hb2
    go_wp2
    go_ret
    exact ⟨ret_bool HH.out.symm, HB2.out⟩
end Go.Proofs.YtgmbdadkahcpcaaDoor.G
/- The document's Inside; the law's own small functions, and some of the chapter's answers: one contract each. Nothing is assumed beyond numbers of 32 bits. -/
namespace Go.Proofs.YtgmbdadkahcpcaaDoor.G
open Go.RowKit
set_option linter.unusedVariables false
set_option maxRecDepth 20000

theorem on_drewN (n : Nat) (w : World) : On w.heap.size w (w.drewN n) := below_drewN (Below.refl _ _) n
theorem refInside (a b : Bx) (w : World) (ha : a.ok) (hb : b.ok) :
    Calls Tryd.prog 79 #[.agg #[.int .i32 a.x, .int .i32 a.y, .int .i32 a.u, .int .i32 a.v], .agg #[.int .i32 b.x, .int .i32 b.y, .int .i32 b.u, .int .i32 b.v]] w fun e w' => e = .returned (.bool (ins a b)) ∧ Below w.heap.size w w' := by
  obtain ⟨HB, C0, C1⟩ := two_boxes w a b
  have HB := Lib.hid HB
  have C0 := Lib.hid C0
  have C1 := Lib.hid C1
  obtain ⟨⟨x1, x2⟩, ⟨y1, y2⟩, ⟨u1, u2⟩, v1, v2⟩ := ha.all
  have H0 := fun W => refHas b a.x a.y W hb (by unfold in40; omega) (by unfold in40; omega)
  have H1 := Lib.hid (fun W => refHas b (a.x + a.u - 1) (a.y + a.v - 1) W hb (by unfold in40; omega) (by unfold in40; omega))
  clear ha hb
  by_cases c1 : 0 < a.u
  · by_cases c2 : 0 < a.v
    · cases h : has b a.x a.y
      · have HH : Hid (ins a b = false) := by
          unfold has at h
          rw [decide_eq_false_iff_not] at h
          refine decide_eq_false ?_
          unfold Has at h
          unfold Ins
          omega
        rw [h] at H0
        have H0 := Lib.hid H0
        clear h
        go_enter Tryd.func79, Tryd.ntmps79
        go_wp2
        generalize (w.alloc (.cells #[.int .i32 a.x, .int .i32 a.y, .int .i32 a.u, .int .i32 a.v] 99)).alloc (.cells #[.int .i32 b.x, .int .i32 b.y, .int .i32 b.u, .int .i32 b.v] 99) = wd at *
        have s0 := cellAt C0.out 0 rfl
        have s1 := cellAt C0.out 1 rfl
        have s2 := cellAt C0.out 2 rfl
        have s3 := cellAt C0.out 3 rfl
        have t0 := cellAt C1.out 0 rfl
        have t1 := cellAt C1.out 1 rfl
        have t2 := cellAt C1.out 2 rfl
        have t3 := cellAt C1.out 3 rfl
        go_quiet (fail)
        clear s0 s1 s2 s3 t0 t1 t2 t3
        have a0 := on_cell (B := wd.heap.size) C0.out C0.out.lt 0 rfl
        have a1 := on_cell (B := wd.heap.size) C0.out C0.out.lt 1 rfl
        have a2 := on_cell (B := wd.heap.size) C0.out C0.out.lt 2 rfl
        have a3 := on_cell (B := wd.heap.size) C0.out C0.out.lt 3 rfl
        have b0 := on_cell (B := wd.heap.size) C1.out C1.out.lt 0 rfl
        have b1 := on_cell (B := wd.heap.size) C1.out C1.out.lt 1 rfl
        have b2 := on_cell (B := wd.heap.size) C1.out C1.out.lt 2 rfl
        have b3 := on_cell (B := wd.heap.size) C1.out C1.out.lt 3 rfl
        have od := fun n => on_drewN n wd
        go_wp2_with fail
        refine (H0.out _).mono ?_
        rintro E w1 ⟨rfl, hb1⟩
        have HB1 := Lib.hid (on_below HB.out HB.out.size (on_step (wd := wd) (on_drewN _ _) hb1))
        clear hb1
        go_wp2
        go_ret
        exact ⟨ret_bool HH.out.symm, HB1.out⟩
      · have HH : Hid (ins a b = has b (a.x + a.u - 1) (a.y + a.v - 1)) := by
          unfold has at h
          rw [decide_eq_true_iff] at h
          unfold has ins Hid
          rw [decide_eq_decide]
          unfold Has at h
          unfold Ins Has
          omega
        rw [h] at H0
        have H0 := Lib.hid H0
        clear h
        go_enter Tryd.func79, Tryd.ntmps79
        go_wp2
        generalize (w.alloc (.cells #[.int .i32 a.x, .int .i32 a.y, .int .i32 a.u, .int .i32 a.v] 99)).alloc (.cells #[.int .i32 b.x, .int .i32 b.y, .int .i32 b.u, .int .i32 b.v] 99) = wd at *
        have s0 := cellAt C0.out 0 rfl
        have s1 := cellAt C0.out 1 rfl
        have s2 := cellAt C0.out 2 rfl
        have s3 := cellAt C0.out 3 rfl
        have t0 := cellAt C1.out 0 rfl
        have t1 := cellAt C1.out 1 rfl
        have t2 := cellAt C1.out 2 rfl
        have t3 := cellAt C1.out 3 rfl
        go_quiet (fail)
        clear s0 s1 s2 s3 t0 t1 t2 t3
        have a0 := on_cell (B := wd.heap.size) C0.out C0.out.lt 0 rfl
        have a1 := on_cell (B := wd.heap.size) C0.out C0.out.lt 1 rfl
        have a2 := on_cell (B := wd.heap.size) C0.out C0.out.lt 2 rfl
        have a3 := on_cell (B := wd.heap.size) C0.out C0.out.lt 3 rfl
        have b0 := on_cell (B := wd.heap.size) C1.out C1.out.lt 0 rfl
        have b1 := on_cell (B := wd.heap.size) C1.out C1.out.lt 1 rfl
        have b2 := on_cell (B := wd.heap.size) C1.out C1.out.lt 2 rfl
        have b3 := on_cell (B := wd.heap.size) C1.out C1.out.lt 3 rfl
        have od := fun n => on_drewN n wd
        go_wp2_with fail
        refine (H0.out _).mono ?_
        rintro E w1 ⟨rfl, hb1⟩
        have o1 := on_step (wd := wd) (on_drewN _ _) hb1
        clear hb1
        go_wp2_with fail
        refine (H1.out _).mono ?_
        rintro E w2 ⟨rfl, hb2⟩
        have o2 := on_step (wd := wd) o1 hb2
        clear hb2
        go_wp2
        go_ret
        exact ⟨ret_bool HH.out.symm, on_below HB.out HB.out.size o2⟩
    · have HH : Hid (ins a b = false) := decide_eq_false (by unfold Ins; omega)
      go_enter Tryd.func79, Tryd.ntmps79
      go_wp2
      generalize (w.alloc (.cells #[.int .i32 a.x, .int .i32 a.y, .int .i32 a.u, .int .i32 a.v] 99)).alloc (.cells #[.int .i32 b.x, .int .i32 b.y, .int .i32 b.u, .int .i32 b.v] 99) = wd at *
      have s0 := cellAt C0.out 0 rfl
      have s1 := cellAt C0.out 1 rfl
      have s2 := cellAt C0.out 2 rfl
      have s3 := cellAt C0.out 3 rfl
      have t0 := cellAt C1.out 0 rfl
      have t1 := cellAt C1.out 1 rfl
      have t2 := cellAt C1.out 2 rfl
      have t3 := cellAt C1.out 3 rfl
      go_quiet (fail)
      clear s0 s1 s2 s3 t0 t1 t2 t3
      have a0 := on_cell (B := wd.heap.size) C0.out C0.out.lt 0 rfl
      have a1 := on_cell (B := wd.heap.size) C0.out C0.out.lt 1 rfl
      have a2 := on_cell (B := wd.heap.size) C0.out C0.out.lt 2 rfl
      have a3 := on_cell (B := wd.heap.size) C0.out C0.out.lt 3 rfl
      have b0 := on_cell (B := wd.heap.size) C1.out C1.out.lt 0 rfl
      have b1 := on_cell (B := wd.heap.size) C1.out C1.out.lt 1 rfl
      have b2 := on_cell (B := wd.heap.size) C1.out C1.out.lt 2 rfl
      have b3 := on_cell (B := wd.heap.size) C1.out C1.out.lt 3 rfl
      have od := fun n => on_drewN n wd
      go_wp2
      go_ret
      exact ⟨ret_bool HH.out.symm, on_below HB.out HB.out.size (on_drewN _ _)⟩
  · have HH : Hid (ins a b = false) := decide_eq_false (by unfold Ins; omega)
    go_enter Tryd.func79, Tryd.ntmps79
    go_wp2
    generalize (w.alloc (.cells #[.int .i32 a.x, .int .i32 a.y, .int .i32 a.u, .int .i32 a.v] 99)).alloc (.cells #[.int .i32 b.x, .int .i32 b.y, .int .i32 b.u, .int .i32 b.v] 99) = wd at *
    have s0 := cellAt C0.out 0 rfl
    have s1 := cellAt C0.out 1 rfl
    have s2 := cellAt C0.out 2 rfl
    have s3 := cellAt C0.out 3 rfl
    have t0 := cellAt C1.out 0 rfl
    have t1 := cellAt C1.out 1 rfl
    have t2 := cellAt C1.out 2 rfl
    have t3 := cellAt C1.out 3 rfl
    go_quiet (fail)
    clear s0 s1 s2 s3 t0 t1 t2 t3
    have a0 := on_cell (B := wd.heap.size) C0.out C0.out.lt 0 rfl
    have a1 := on_cell (B := wd.heap.size) C0.out C0.out.lt 1 rfl
    have a2 := on_cell (B := wd.heap.size) C0.out C0.out.lt 2 rfl
    have a3 := on_cell (B := wd.heap.size) C0.out C0.out.lt 3 rfl
    have b0 := on_cell (B := wd.heap.size) C1.out C1.out.lt 0 rfl
    have b1 := on_cell (B := wd.heap.size) C1.out C1.out.lt 1 rfl
    have b2 := on_cell (B := wd.heap.size) C1.out C1.out.lt 2 rfl
    have b3 := on_cell (B := wd.heap.size) C1.out C1.out.lt 3 rfl
    have od := fun n => on_drewN n wd
    go_wp2
    go_ret
    exact ⟨ret_bool HH.out.symm, on_below HB.out HB.out.size (on_drewN _ _)⟩
end Go.Proofs.YtgmbdadkahcpcaaDoor.G
/- Arrays of two and of four cells, as a row reads them: taken apart, and put together. Nothing of the program. -/
namespace Go.Proofs.YtgmbdadkahcpcaaDoor
open Go.RowKit Go.ChangeShapes
set_option linter.unusedVariables false

section
variable {H : Type} {enc : TypeId × Value → H} {P : Program} {w : World} {base : Nat} {spare : Nat → Bool} {held : Bool}
theorem open_arr2 {r : Reach} {b0 : Nat} {t e : TypeId} {v : Value} {d : DataW H} {p : List MemPlace} (ht : P.underlying t = some (.array 2 e)) (hce : P.cellsOf e = 1) (hC : P.cellsOf t = 2)
    (hv : Value.okWide P w r b0 t v) (h : DataW.Trod enc P w base spare held t v d p) :
    ∃ (v0 v1 : Value) (y0 y1 : DataW H × List MemPlace) (n : Nat), v = .agg #[v0, v1] ∧ d = .agg [y0.1, y1.1] ∧ p = y0.2 ++ y1.2 ∧
      DataW.trod enc P w base spare held n e [v0] = some y0 ∧ DataW.trod enc P w base spare held n e [v1] = some y1 := by
  simp only [Value.okWide, ht] at hv
  obtain ⟨cs, rfl, hsz, _⟩ := hv
  obtain ⟨c0, c1, rfl⟩ := Joins.array2 (hsz.trans hC)
  obtain ⟨fuel, hf⟩ := h
  obtain ⟨xs, m, _, hx, _, hlen, hi⟩ := DataW.trod_array ht hf
  match xs, hlen with
  | [y0, y1], _ =>
    have h0 := hi 0 (by omega)
    have h1 := hi 1 (by omega)
    simp [hce, Value.cells] at h0 h1
    simp only [Prod.mk.injEq] at hx
    exact ⟨c0, c1, y0, y1, m, rfl, by simpa using hx.1, by simpa using hx.2, h0, h1⟩
theorem open_arr4 {r : Reach} {b0 : Nat} {t e : TypeId} {v : Value} {d : DataW H} {p : List MemPlace} (ht : P.underlying t = some (.array 4 e)) (hce : P.cellsOf e = 1) (hC : P.cellsOf t = 4)
    (hv : Value.okWide P w r b0 t v) (h : DataW.Trod enc P w base spare held t v d p) :
    ∃ (v0 v1 v2 v3 : Value) (y0 y1 y2 y3 : DataW H × List MemPlace) (n : Nat), v = .agg #[v0, v1, v2, v3] ∧ d = .agg [y0.1, y1.1, y2.1, y3.1] ∧ p = y0.2 ++ (y1.2 ++ (y2.2 ++ y3.2)) ∧
      DataW.trod enc P w base spare held n e [v0] = some y0 ∧ DataW.trod enc P w base spare held n e [v1] = some y1 ∧ DataW.trod enc P w base spare held n e [v2] = some y2 ∧ DataW.trod enc P w base spare held n e [v3] = some y3 := by
  simp only [Value.okWide, ht] at hv
  obtain ⟨cs, rfl, hsz, _⟩ := hv
  obtain ⟨c0, c1, c2, c3, rfl⟩ := Joins.array4 (hsz.trans hC)
  obtain ⟨fuel, hf⟩ := h
  obtain ⟨xs, m, _, hx, _, hlen, hi⟩ := DataW.trod_array ht hf
  match xs, hlen with
  | [y0, y1, y2, y3], _ =>
    have h0 := hi 0 (by omega)
    have h1 := hi 1 (by omega)
    have h2 := hi 2 (by omega)
    have h3 := hi 3 (by omega)
    simp [hce, Value.cells] at h0 h1 h2 h3
    simp only [Prod.mk.injEq] at hx
    exact ⟨c0, c1, c2, c3, y0, y1, y2, y3, m, rfl, by simpa using hx.1, by simpa using hx.2, h0, h1, h2, h3⟩
theorem shut_arr2 {t e : TypeId} {v0 v1 : Value} {y0 y1 : DataW H × List MemPlace} (ht : P.underlying t = some (.array 2 e)) (hce : P.cellsOf e = 1) (hC : P.cellsOf t = 2)
    (t0 : ∃ n, DataW.trod enc P w base spare held n e [v0] = some y0) (t1 : ∃ n, DataW.trod enc P w base spare held n e [v1] = some y1) :
    DataW.Trod enc P w base spare held t (.agg #[v0, v1]) (.agg [y0.1, y1.1]) (y0.2 ++ y1.2) := by
  obtain ⟨n0, t0⟩ := t0
  obtain ⟨n1, t1⟩ := t1
  have k0 := DataW.trod_le (show n0 ≤ n0 + n1 by omega) t0
  have k1 := DataW.trod_le (show n1 ≤ n0 + n1 by omega) t1
  refine ⟨n0 + n1 + 1, ?_⟩
  unfold DataW.trod
  rw [ht]
  have r2 : List.range 2 = [0, 1] := rfl
  simp [r2, hce, hC, Value.cells, k0, k1]
theorem shut_arr4 {t e : TypeId} {v0 v1 v2 v3 : Value} {y0 y1 y2 y3 : DataW H × List MemPlace} (ht : P.underlying t = some (.array 4 e)) (hce : P.cellsOf e = 1) (hC : P.cellsOf t = 4)
    (t0 : ∃ n, DataW.trod enc P w base spare held n e [v0] = some y0) (t1 : ∃ n, DataW.trod enc P w base spare held n e [v1] = some y1) (t2 : ∃ n, DataW.trod enc P w base spare held n e [v2] = some y2) (t3 : ∃ n, DataW.trod enc P w base spare held n e [v3] = some y3) :
    DataW.Trod enc P w base spare held t (.agg #[v0, v1, v2, v3]) (.agg [y0.1, y1.1, y2.1, y3.1]) (y0.2 ++ (y1.2 ++ (y2.2 ++ y3.2))) := by
  obtain ⟨n0, t0⟩ := t0
  obtain ⟨n1, t1⟩ := t1
  obtain ⟨n2, t2⟩ := t2
  obtain ⟨n3, t3⟩ := t3
  have k0 := DataW.trod_le (show n0 ≤ n0 + n1 + n2 + n3 by omega) t0
  have k1 := DataW.trod_le (show n1 ≤ n0 + n1 + n2 + n3 by omega) t1
  have k2 := DataW.trod_le (show n2 ≤ n0 + n1 + n2 + n3 by omega) t2
  have k3 := DataW.trod_le (show n3 ≤ n0 + n1 + n2 + n3 by omega) t3
  refine ⟨n0 + n1 + n2 + n3 + 1, ?_⟩
  unfold DataW.trod
  rw [ht]
  have r4 : List.range 4 = [0, 1, 2, 3] := rfl
  simp [r4, hce, hC, Value.cells, k0, k1, k2, k3]
end
theorem i32_of {n : Int} (h : (Lit.int .i32 n).wf = true) : -2147483648 ≤ n ∧ n ≤ 2147483647 := by
  simpa [Lit.wf, IntKind.min, IntKind.max, IntKind.bits, IntKind.signed] using h
end Go.Proofs.YtgmbdadkahcpcaaDoor
