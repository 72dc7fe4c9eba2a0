/- Boxes: whether they are over one another, one inside another, how near, the midst: one contract each. Nothing is assumed beyond numbers of 32 bits. -/
import Derived.Test.YtmgopmcindlcmaaGc
namespace Go.Proofs.Ytmgopmcindlcmaa
open Go.RowKit
set_option linter.unusedVariables false
set_option maxRecDepth 20000

/-- A box: where it begins, and how long its sides are. -/
structure Bx where
  x : Int
  y : Int
  u : Int
  v : Int
/-- All four are numbers of 32 bits. -/
structure Bx.ok (a : Bx) : Prop where
  x : in32 a.x
  y : in32 a.y
  u : in32 a.u
  v : in32 a.v
/-- Both have a point in common. -/
def Ovr (a b : Bx) : Prop := (0 < a.u ∧ 0 < a.v ∧ 0 < b.u ∧ 0 < b.v) ∧ (a.x < b.x + b.u ∧ b.x < a.x + a.u) ∧ (a.y < b.y + b.v ∧ b.y < a.y + a.v)
instance (a b : Bx) : Decidable (Ovr a b) := by unfold Ovr; infer_instance
def ovr (a b : Bx) : Bool := decide (Ovr a b)
/-- The first one has a point, and all of its points are the second one's. -/
def Ins (a b : Bx) : Prop := (0 < a.u ∧ 0 < a.v) ∧ (b.x ≤ a.x ∧ a.x + a.u ≤ b.x + b.u) ∧ (b.y ≤ a.y ∧ a.y + a.v ≤ b.y + b.v)
instance (a b : Bx) : Decidable (Ins a b) := by unfold Ins; infer_instance
def ins (a b : Bx) : Bool := decide (Ins a b)
theorem ovr_says (a b : Bx) : ovr a b = !(cl a.x b.x (b.x + po b.u) == cl (a.x + po a.u) b.x (b.x + po b.u) || cl a.y b.y (b.y + po b.v) == cl (a.y + po a.v) b.y (b.y + po b.v)) := by
  have e1 : (cl a.x b.x (b.x + po b.u) == cl (a.x + po a.u) b.x (b.x + po b.u)) = decide (cl a.x b.x (b.x + po b.u) = cl (a.x + po a.u) b.x (b.x + po b.u)) := rfl
  have e2 : (cl a.y b.y (b.y + po b.v) == cl (a.y + po a.v) b.y (b.y + po b.v)) = decide (cl a.y b.y (b.y + po b.v) = cl (a.y + po a.v) b.y (b.y + po b.v)) := rfl
  rw [e1, e2]
  unfold ovr
  rw [Bool.eq_iff_iff]
  simp only [decide_eq_true_eq, Bool.not_eq_true', Bool.or_eq_false_iff, decide_eq_false_iff_not]
  unfold Ovr cl po
  omega
theorem on_alloc {wd w' : World} (h : On wd.heap.size wd w') (o : Obj) : On wd.heap.size wd (w'.alloc o) := Below.alloc h h.size o
theorem ret_two32 {a b c d : Int} (h : a = c) (k : b = d) : Ending.returned (.tuple #[.int .i32 a, .int .i32 b]) = .returned (.tuple #[.int .i32 c, .int .i32 d]) := by rw [h, k]
theorem two_boxes (w : World) (a b : Bx) :
    Below w.heap.size w ((w.alloc (.cells #[.int .i32 a.x, .int .i32 a.y, .int .i32 a.u, .int .i32 a.v] 23)).alloc (.cells #[.int .i32 b.x, .int .i32 b.y, .int .i32 b.u, .int .i32 b.v] 23)) ∧ Cells ((w.alloc (.cells #[.int .i32 a.x, .int .i32 a.y, .int .i32 a.u, .int .i32 a.v] 23)).alloc (.cells #[.int .i32 b.x, .int .i32 b.y, .int .i32 b.u, .int .i32 b.v] 23)) w.heap.size 23 #[.int .i32 a.x, .int .i32 a.y, .int .i32 a.u, .int .i32 a.v] ∧ Cells ((w.alloc (.cells #[.int .i32 a.x, .int .i32 a.y, .int .i32 a.u, .int .i32 a.v] 23)).alloc (.cells #[.int .i32 b.x, .int .i32 b.y, .int .i32 b.u, .int .i32 b.v] 23)) (w.heap.size + 1) 23 #[.int .i32 b.x, .int .i32 b.y, .int .i32 b.u, .int .i32 b.v] :=
  ⟨by go_grown, (Cells.made w 23 _).alloc _, by simpa using Cells.made (w.alloc (.cells #[.int .i32 a.x, .int .i32 a.y, .int .i32 a.u, .int .i32 a.v] 23)) 23 #[.int .i32 b.x, .int .i32 b.y, .int .i32 b.u, .int .i32 b.v]⟩
theorem over (a b : Bx) (w : World) (ha : a.ok) (hb : b.ok) :
    Calls Try.prog 9 #[.agg #[.int .i32 a.x, .int .i32 a.y, .int .i32 a.u, .int .i32 a.v], .agg #[.int .i32 b.x, .int .i32 b.y, .int .i32 b.u, .int .i32 b.v]] w fun e w' => e = .returned (.bool (ovr a b)) ∧ Below w.heap.size w w' := by
  have HO := Lib.hid (ovr_says a b)
  obtain ⟨HB, C0, C1⟩ := two_boxes w a b
  have HB := Lib.hid HB
  have C0 := Lib.hid C0
  have C1 := Lib.hid C1
  obtain ⟨ax, ay, au, av⟩ := ha
  obtain ⟨bx, by', bu, bv⟩ := hb
  go_enter Try.func9, Try.ntmps9
  go_wp2
  generalize (w.alloc (.cells #[.int .i32 a.x, .int .i32 a.y, .int .i32 a.u, .int .i32 a.v] 23)).alloc (.cells #[.int .i32 b.x, .int .i32 b.y, .int .i32 b.u, .int .i32 b.v] 23) = wd at *
  have a0 := on_cell (B := wd.heap.size) C0.out C0.out.lt 0 rfl
  have a1 := on_cell (B := wd.heap.size) C0.out C0.out.lt 1 rfl
  have a2 := on_cell (B := wd.heap.size) C0.out C0.out.lt 2 rfl
  have a3 := on_cell (B := wd.heap.size) C0.out C0.out.lt 3 rfl
  have b0 := on_cell (B := wd.heap.size) C1.out C1.out.lt 0 rfl
  have b1 := on_cell (B := wd.heap.size) C1.out C1.out.lt 1 rfl
  have b2 := on_cell (B := wd.heap.size) C1.out C1.out.lt 2 rfl
  have b3 := on_cell (B := wd.heap.size) C1.out C1.out.lt 3 rfl
  have o0 := On.drew wd.heap.size wd
  go_region_held3 (fun w' => On wd.heap.size wd w') (first | assumption) (first | (go_at_call 24; refine (areaOf _ _ _ _ _ (by assumption) (by assumption) (by assumption) (by assumption)).mono ?_; rintro E w4 ⟨rfl, hb4⟩; have o4 := on_step (wd := wd) (by assumption) hb4) | (go_at_call 25; refine (arClip _ _ _ _ _ _ _ _ _).mono ?_; rintro E w4 ⟨rfl, hb4⟩; have o4 := on_step (wd := wd) (by assumption) hb4) | (go_at_call 26; refine (arEmpty _ _ _ _ _).mono ?_; rintro E w4 ⟨rfl, hb4⟩; have o4 := on_step (wd := wd) (by assumption) hb4))
  go_wp2
  go_ret
  exact ⟨ret_bool (by rw [HO.out, Bool.not_or]), on_below HB.out HB.out.size o4⟩
theorem centre_c (a : Bx) (w : World) (ha : a.ok) :
    Calls Try.prog 16 #[.agg #[.int .i32 a.x, .int .i32 a.y, .int .i32 a.u, .int .i32 a.v]] w fun e w' => e = .returned (.tuple #[.int .i32 (bo (a.x + po a.u / 2)), .int .i32 (bo (a.y + po a.v / 2))]) ∧ Below w.heap.size w w' := by
  have HB := Lib.hid (show Below w.heap.size w (w.alloc (.cells #[.int .i32 a.x, .int .i32 a.y, .int .i32 a.u, .int .i32 a.v] 23)) by go_grown)
  have HA := Lib.hid (areaOf a.x a.y a.u a.v (w.alloc (.cells #[.int .i32 a.x, .int .i32 a.y, .int .i32 a.u, .int .i32 a.v] 23)) ha.x ha.y ha.u ha.v)
  go_enter Try.func16, Try.ntmps16
  go_wp2_with fail
  refine HA.out.mono ?_
  rintro E w1 ⟨rfl, hb1⟩
  have HB1 := Lib.hid (HB.out.trans (hb1.mono (by simp)))
  clear hb1
  go_wp2
  have C := Lib.hid (Cells.made w1 42 #[.int .i64 a.x, .int .i64 (a.x + po a.u), .int .i64 a.y, .int .i64 (a.y + po a.v)])
  have HB2 := Lib.hid (HB1.out.alloc HB1.out.size (.cells #[.int .i64 a.x, .int .i64 (a.x + po a.u), .int .i64 a.y, .int .i64 (a.y + po a.v)] 42))
  generalize w1.alloc (.cells #[.int .i64 a.x, .int .i64 (a.x + po a.u), .int .i64 a.y, .int .i64 (a.y + po a.v)] 42) = wd at *
  have a0 := on_cell (B := wd.heap.size) C.out C.out.lt 0 rfl
  have a1 := on_cell (B := wd.heap.size) C.out C.out.lt 1 rfl
  have a2 := on_cell (B := wd.heap.size) C.out C.out.lt 2 rfl
  have a3 := on_cell (B := wd.heap.size) C.out C.out.lt 3 rfl
  have o0 := On.drew wd.heap.size wd
  obtain ⟨i0, i1, i2, i3, i4, i5⟩ : in40 a.x ∧ in40 (a.x + po a.u) ∧ a.x ≤ a.x + po a.u ∧ in40 a.y ∧ in40 (a.y + po a.v) ∧ a.y ≤ a.y + po a.v := by
    obtain ⟨⟨_, _⟩, ⟨_, _⟩, ⟨_, _⟩, ⟨_, _⟩⟩ := ha
    unfold in40 po
    omega
  go_region_held3 (fun w' => On wd.heap.size wd w') (first | assumption) (first | (go_at_call 31; refine (ivMid _ _ _ (by assumption) (by assumption) (by assumption)).mono ?_; rintro E w4 ⟨rfl, hb4⟩; have o4 := on_step (wd := wd) (by assumption) hb4) | (go_at_call 30; refine (bound _ _).mono ?_; rintro E w4 ⟨rfl, rfl⟩))
  go_wp2
  go_ret2
  exact ⟨ret_two32 (by congr 2; omega) (by congr 2; omega), on_below HB2.out HB2.out.size o4⟩
end Go.Proofs.Ytmgopmcindlcmaa
