/- Intervals: one contract each. Nothing is assumed beyond each contract's own bounds. -/
import Derived.Test.YtmgopmcindlcmaaGa
import Derived.WalkSmall
namespace Go.Proofs.Ytmgopmcindlcmaa
open Go.RowKit
set_option linter.unusedVariables false
set_option maxRecDepth 20000

section
variable {w w' : World} {g : Nat} {t : TypeId} {cs : Array Value}
theorem cellAt (h : Cells w g t cs) (i : Nat) {v : Value} (hv : cs[i]? = some v) : w.cell? ⟨g, i, none⟩ = some v := by rw [h.cell i, hv]
end
theorem ivEmpty (a b : Int) (w : World) :
    Calls Try.prog 38 #[.agg #[.int .i64 a, .int .i64 b]] w fun e w' => e = .returned (.bool (a == b)) ∧ Below w.heap.size w w' := by
  go_enter Try.func38, Try.ntmps38
  go_wp2
  go_ret
  exact ⟨rfl, by go_grown⟩
theorem run_max_int3 {P : Program} {w : World} (ts : Array TypeId) (t : TypeId) (k k' k'' : IntKind) (x y z : Int) : (Builtin.max_ ts t #[.int k x, .int k' y, .int k'' z]).run P w = .ok (.int k (max (max x y) z)) w := by
  rw [show max (max x y) z = if z > (if y > x then y else x) then z else (if y > x then y else x) by omega]
  simp [Builtin.max_, Builtin.max2]
attribute [local go_sem] run_max_int3
theorem ivGap (a b c d : Int) (w : World) (ha : in40 a) (hb : in40 b) (hc : in40 c) (hd : in40 d) :
    Calls Try.prog 34 #[.agg #[.int .i64 a, .int .i64 b], .agg #[.int .i64 c, .int .i64 d]] w fun e w' => e = .returned (.int .i64 (gp a b c d)) ∧ Below w.heap.size w w' := by
  obtain ⟨ha1, ha2⟩ := ha
  obtain ⟨hb1, hb2⟩ := hb
  obtain ⟨hc1, hc2⟩ := hc
  obtain ⟨hd1, hd2⟩ := hd
  go_enter Try.func34, Try.ntmps34
  go_wp2
  all_goals go_ret
  all_goals exact ⟨ret_int (by unfold gp; omega), by go_grown⟩
theorem ivMid (a b : Int) (w : World) (ha : in40 a) (hb : in40 b) (h : a ≤ b) :
    Calls Try.prog 31 #[.agg #[.int .i64 a, .int .i64 b]] w fun e w' => e = .returned (.int .i64 (a + (b - a) / 2)) ∧ Below w.heap.size w w' := by
  obtain ⟨ha1, ha2⟩ := ha
  obtain ⟨hb1, hb2⟩ := hb
  go_enter Try.func31, Try.ntmps31
  go_wp2
  all_goals go_ret
  all_goals exact ⟨ret_int (by omega), by go_grown⟩
theorem ivClip (a b c d : Int) (w : World) :
    Calls Try.prog 37 #[.agg #[.int .i64 a, .int .i64 b], .agg #[.int .i64 c, .int .i64 d]] w fun e w' => e = .returned (.agg #[.int .i64 (cl a c d), .int .i64 (cl b c d)]) ∧ Below w.heap.size w w' := by
  go_enter Try.func37, Try.ntmps37
  have HB0 := Lib.hid (show Below w.heap.size w (((w.alloc (.cells #[.int .i64 a, .int .i64 b] 40)).alloc (.cells #[.int .i64 c, .int .i64 d] 40)).alloc (.cells #[.int .i64 0, .int .i64 0] 40)) by go_grown)
  have C0 := Lib.hid (((Cells.made w 40 #[.int .i64 a, .int .i64 b]).alloc (.cells #[.int .i64 c, .int .i64 d] 40)).alloc (.cells #[.int .i64 0, .int .i64 0] 40))
  have C1 := Lib.hid (show Cells (((w.alloc (.cells #[.int .i64 a, .int .i64 b] 40)).alloc (.cells #[.int .i64 c, .int .i64 d] 40)).alloc (.cells #[.int .i64 0, .int .i64 0] 40)) (w.heap.size + 1) 40 #[.int .i64 c, .int .i64 d] by simpa using (Cells.made (w.alloc (.cells #[.int .i64 a, .int .i64 b] 40)) 40 #[.int .i64 c, .int .i64 d]).alloc (.cells #[.int .i64 0, .int .i64 0] 40))
  have C2 := Lib.hid (show Cells (((w.alloc (.cells #[.int .i64 a, .int .i64 b] 40)).alloc (.cells #[.int .i64 c, .int .i64 d] 40)).alloc (.cells #[.int .i64 0, .int .i64 0] 40)) (w.heap.size + 1 + 1) 40 #[.int .i64 0, .int .i64 0] by simpa using (Cells.made ((w.alloc (.cells #[.int .i64 a, .int .i64 b] 40)).alloc (.cells #[.int .i64 c, .int .i64 d] 40)) 40 #[.int .i64 0, .int .i64 0]))
  go_wp2
  generalize ((w.alloc (.cells #[.int .i64 a, .int .i64 b] 40)).alloc (.cells #[.int .i64 c, .int .i64 d] 40)).alloc (.cells #[.int .i64 0, .int .i64 0] 40) = w2 at *
  obtain ⟨w3, hw3⟩ : ∃ w3 : World, { w2 with drawn := w2.drawn + 1 } = w3 := ⟨_, rfl⟩
  have k0 : w3.cell? ⟨w.heap.size, 0, none⟩ = some (.int .i64 a) := hw3 ▸ cellAt C0.out 0 rfl
  have k1 : w3.cell? ⟨w.heap.size, 1, none⟩ = some (.int .i64 b) := hw3 ▸ cellAt C0.out 1 rfl
  have k2 : w3.cell? ⟨w.heap.size + 1, 0, none⟩ = some (.int .i64 c) := hw3 ▸ cellAt C1.out 0 rfl
  have k3 : w3.cell? ⟨w.heap.size + 1, 1, none⟩ = some (.int .i64 d) := hw3 ▸ cellAt C1.out 1 rfl
  have C2w : Cells w3 (w.heap.size + 1 + 1) 40 #[.int .i64 0, .int .i64 0] := by rw [← hw3]; exact C2.out
  have HB3 := Lib.hid (show Below w.heap.size w w3 by rw [← hw3]; exact HB0.out.drew)
  refine wp_region_still_tail 15 (by kernel_rfl) (by kernel_rfl) ?_
  simp only [List.take_succ_cons, List.take_zero, List.drop_succ_cons, List.drop_zero]
  rw [hw3]
  clear hw3
  repeat still_step
  still_call ((clip64 a c d _).mono fun _ _ ⟨h1, h2⟩ => ⟨h1, h2.symm⟩)
  repeat still_step
  still_call ((clip64 b c d _).mono fun _ _ ⟨h1, h2⟩ => ⟨h1, h2.symm⟩)
  repeat still_step
  refine wpStill_nil ?_
  have z3 := C2w.frozen 0
  have k4 := cellAt C2w 0 rfl
  have C2x := C2w.set 0 (.int .i64 (cl a c d))
  have z4 := C2x.frozen 1
  have k5 := cellAt C2x 1 rfl
  have C2y := C2x.set 1 (.int .i64 (cl b c d))
  have k6 := cellAt C2y 0 rfl
  have k7 := cellAt C2y 1 rfl
  clear C2w C2x C2y
  go_wp2
  refine bodyPost_ret (v := .agg #[.int .i64 (cl a c d), .int .i64 (cl b c d)]) (by simp [results, Try.results37, go_sem, k6, k7]) rfl ?_
  exact ⟨rfl, (HB3.out.setCell (by show _ ≤ w.heap.size + 1 + 1; omega) _).setCell (by show _ ≤ w.heap.size + 1 + 1; omega) _⟩
theorem along0 (x y u v : Int) (w : World) (hx : in32 x) (hu : in32 u) :
    Calls Try.prog 36 #[.agg #[.int .i32 x, .int .i32 y, .int .i32 u, .int .i32 v], .int .i64 0] w fun e w' => e = .returned (.agg #[.int .i64 x, .int .i64 (x + po u)]) ∧ Below w.heap.size w w' := by
  obtain ⟨hx1, hx2⟩ := hx
  obtain ⟨hu1, hu2⟩ := hu
  have HC : ∀ w, Calls Try.prog 39 #[.int .i32 u, .int .i32 0, .int .i32 2147483647] w fun e w' => e = .returned (.int .i32 (po u)) ∧ w = w' := by
    intro w
    have h := clip32 u 0 2147483647 w
    rwa [show cl u 0 2147483647 = po u by unfold cl po; omega] at h
  have HC := Lib.hid HC
  obtain ⟨hp1, hp2⟩ : 0 ≤ po u ∧ po u ≤ 2147483647 := by unfold po; omega
  generalize po u = p at *
  go_enter Try.func36, Try.ntmps36
  go_wp2
  go_quiet (fail)
  go_wp2_with fail
  refine (HC.out _).mono ?_
  rintro E w1 ⟨rfl, rfl⟩
  go_wp2
  go_returns
  refine ⟨rfl, Below.setCell (Below.setCell (below_drewN (by go_grown) _) ?_ _) ?_ _⟩
  all_goals simp
theorem along1 (x y u v : Int) (w : World) (hy : in32 y) (hv : in32 v) :
    Calls Try.prog 36 #[.agg #[.int .i32 x, .int .i32 y, .int .i32 u, .int .i32 v], .int .i64 1] w fun e w' => e = .returned (.agg #[.int .i64 y, .int .i64 (y + po v)]) ∧ Below w.heap.size w w' := by
  obtain ⟨hy1, hy2⟩ := hy
  obtain ⟨hv1, hv2⟩ := hv
  have HC : ∀ w, Calls Try.prog 39 #[.int .i32 v, .int .i32 0, .int .i32 2147483647] w fun e w' => e = .returned (.int .i32 (po v)) ∧ w = w' := by
    intro w
    have h := clip32 v 0 2147483647 w
    rwa [show cl v 0 2147483647 = po v by unfold cl po; omega] at h
  have HC := Lib.hid HC
  obtain ⟨hp1, hp2⟩ : 0 ≤ po v ∧ po v ≤ 2147483647 := by unfold po; omega
  generalize po v = p at *
  go_enter Try.func36, Try.ntmps36
  have HB := Lib.hid (show Below w.heap.size w ((w.alloc (.cells #[.int .i32 x, .int .i32 y, .int .i32 u, .int .i32 v] 53)).alloc (.cells #[.int .i64 0, .int .i64 0] 40)) by go_grown)
  have C0 := Lib.hid ((Cells.made w 53 #[.int .i32 x, .int .i32 y, .int .i32 u, .int .i32 v]).alloc (.cells #[.int .i64 0, .int .i64 0] 40))
  have C1 := Lib.hid (show Cells ((w.alloc (.cells #[.int .i32 x, .int .i32 y, .int .i32 u, .int .i32 v] 53)).alloc (.cells #[.int .i64 0, .int .i64 0] 40)) (w.heap.size + 1) 40 #[.int .i64 0, .int .i64 0] by simpa using (Cells.made (w.alloc (.cells #[.int .i32 x, .int .i32 y, .int .i32 u, .int .i32 v] 53)) 40 #[.int .i64 0, .int .i64 0]))
  go_wp2
  generalize ((w.alloc (.cells #[.int .i32 x, .int .i32 y, .int .i32 u, .int .i32 v] 53)).alloc (.cells #[.int .i64 0, .int .i64 0] 40)) = w2 at *
  have s0 : ∀ n, (w2.drewN n).cell? ⟨w.heap.size, 0, none⟩ = some (.int .i32 x) := fun _ => cellAt C0.out 0 rfl
  have s1 : ∀ n, (w2.drewN n).cell? ⟨w.heap.size, 1, none⟩ = some (.int .i32 y) := fun _ => cellAt C0.out 1 rfl
  have s2 : ∀ n, (w2.drewN n).cell? ⟨w.heap.size, 2, none⟩ = some (.int .i32 u) := fun _ => cellAt C0.out 2 rfl
  have s3 : ∀ n, (w2.drewN n).cell? ⟨w.heap.size, 3, none⟩ = some (.int .i32 v) := fun _ => cellAt C0.out 3 rfl
  have t0 : w2.cell? ⟨w.heap.size, 0, none⟩ = some (.int .i32 x) := cellAt C0.out 0 rfl
  have t2 : w2.cell? ⟨w.heap.size, 2, none⟩ = some (.int .i32 u) := cellAt C0.out 2 rfl
  go_quiet (fail)
  go_wp2
  go_quiet (fail)
  clear s0 s1 s2 s3 t0 t2
  go_wp2_with fail
  refine (HC.out _).mono ?_
  rintro E w1 ⟨rfl, rfl⟩
  generalize hw3 : w2.drewN _ = w3
  have HB3 := Lib.hid (show Below w.heap.size w w3 by rw [← hw3]; exact below_drewN HB.out _)
  have C1w : Cells w3 (w.heap.size + 1) 40 #[.int .i64 0, .int .i64 0] := by rw [← hw3]; exact C1.out
  clear hw3
  have z3 := C1w.frozen 0
  have k4 := cellAt C1w 0 rfl
  have C1x := C1w.set 0 (.int .i64 y)
  have z4 := C1x.frozen 1
  have k5 := cellAt C1x 1 rfl
  have C1y := C1x.set 1 (.int .i64 (y + p))
  have k6 := cellAt C1y 0 rfl
  have k7 := cellAt C1y 1 rfl
  clear C1w C1x C1y
  go_wp2
  refine bodyPost_ret (v := .agg #[.int .i64 y, .int .i64 (y + p)]) (by simp [results, Try.results36, go_sem, k6, k7]) rfl ?_
  exact ⟨rfl, (HB3.out.setCell (by show _ ≤ w.heap.size + 1; omega) _).setCell (by show _ ≤ w.heap.size + 1; omega) _⟩
end Go.Proofs.Ytmgopmcindlcmaa
