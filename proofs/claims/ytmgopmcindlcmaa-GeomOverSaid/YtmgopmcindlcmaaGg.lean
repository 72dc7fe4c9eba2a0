/- The document's answers on boxes: one contract each. Nothing is assumed beyond numbers of 32 bits. -/
import Derived.Test.YtmgopmcindlcmaaGd
import Derived.IntWalk
namespace Go.Proofs.Ytmgopmcindlcmaa
open Go.RowKit
set_option linter.unusedVariables false
set_option maxRecDepth 20000

/-- A box has a point. -/
def Has (a : Bx) (x y : Int) : Prop := (a.x ≤ x ∧ x < a.x + a.u) ∧ (a.y ≤ y ∧ y < a.y + a.v)
instance (a : Bx) (x y : Int) : Decidable (Has a x y) := by unfold Has; infer_instance
def has (a : Bx) (x y : Int) : Bool := decide (Has a x y)
theorem Bx.ok.all {a : Bx} (h : a.ok) : (-2147483648 ≤ a.x ∧ a.x ≤ 2147483647) ∧ (-2147483648 ≤ a.y ∧ a.y ≤ 2147483647) ∧ (-2147483648 ≤ a.u ∧ a.u ≤ 2147483647) ∧ (-2147483648 ≤ a.v ∧ a.v ≤ 2147483647) := ⟨h.x, h.y, h.u, h.v⟩
theorem has_yes {a : Bx} {x y : Int} (h : Has a x y) : has a x y = true := decide_eq_true h
theorem has_no {a : Bx} {x y : Int} (h : ¬ Has a x y) : has a x y = false := decide_eq_false h
theorem box_made (w : World) (a : Bx) : Below w.heap.size w (w.alloc (.cells #[.int .i32 a.x, .int .i32 a.y, .int .i32 a.u, .int .i32 a.v] 23)) := by go_grown
theorem refHas (a : Bx) (x y : Int) (w : World) (ha : a.ok) (hx : in40 x) (hy : in40 y) :
    Calls Try.prog 28 #[.agg #[.int .i32 a.x, .int .i32 a.y, .int .i32 a.u, .int .i32 a.v], .int .i64 x, .int .i64 y] w fun e w' => e = .returned (.bool (has a x y)) ∧ Below w.heap.size w w' := by
  obtain ⟨⟨x1, x2⟩, ⟨y1, y2⟩, ⟨u1, u2⟩, v1, v2⟩ := ha.all
  obtain ⟨p1, p2⟩ := hx
  obtain ⟨q1, q2⟩ := hy
  clear ha
  by_cases c1 : a.x ≤ x
  · by_cases c2 : x - a.x < a.u
    · by_cases c3 : a.y ≤ y
      · by_cases c4 : y - a.y < a.v
        · have HH := Lib.hid (has_yes (a := a) (x := x) (y := y) (by unfold Has; omega))
          go_enter Try.func28, Try.ntmps28
          go_wp2
          go_ret
          exact ⟨ret_bool HH.out.symm, by go_grown⟩
        · have HH := Lib.hid (has_no (a := a) (x := x) (y := y) (by unfold Has; omega))
          go_enter Try.func28, Try.ntmps28
          go_wp2
          go_ret
          exact ⟨ret_bool HH.out.symm, by go_grown⟩
      · have HH := Lib.hid (has_no (a := a) (x := x) (y := y) (by unfold Has; omega))
        go_enter Try.func28, Try.ntmps28
        go_wp2
        go_ret
        exact ⟨ret_bool HH.out.symm, by go_grown⟩
    · have HH := Lib.hid (has_no (a := a) (x := x) (y := y) (by unfold Has; omega))
      go_enter Try.func28, Try.ntmps28
      go_wp2
      go_ret
      exact ⟨ret_bool HH.out.symm, by go_grown⟩
  · have HH := Lib.hid (has_no (a := a) (x := x) (y := y) (by unfold Has; omega))
    go_enter Try.func28, Try.ntmps28
    go_wp2
    go_ret
    exact ⟨ret_bool HH.out.symm, by go_grown⟩
theorem lawHas (a : Bx) (x y : Int) (w : World) (ha : a.ok) (hx : in40 x) (hy : in40 y) :
    Calls Try.prog 23 #[.agg #[.int .i32 a.x, .int .i32 a.y, .int .i32 a.u, .int .i32 a.v], .int .i64 x, .int .i64 y] w fun e w' => e = .returned (.bool (has a x y)) ∧ Below w.heap.size w w' := by
  obtain ⟨⟨x1, x2⟩, ⟨y1, y2⟩, ⟨u1, u2⟩, v1, v2⟩ := ha.all
  obtain ⟨p1, p2⟩ := hx
  obtain ⟨q1, q2⟩ := hy
  clear ha
  by_cases c1 : a.x ≤ x
  · by_cases c2 : x < a.x + a.u
    · by_cases c3 : a.y ≤ y
      · by_cases c4 : y < a.y + a.v
        · have HH := Lib.hid (has_yes (a := a) (x := x) (y := y) (by unfold Has; omega))
          go_enter Try.func23, Try.ntmps23
          go_wp2
          go_ret
          exact ⟨ret_bool HH.out.symm, by go_grown⟩
        · have HH := Lib.hid (has_no (a := a) (x := x) (y := y) (by unfold Has; omega))
          go_enter Try.func23, Try.ntmps23
          go_wp2
          go_ret
          exact ⟨ret_bool HH.out.symm, by go_grown⟩
      · have HH := Lib.hid (has_no (a := a) (x := x) (y := y) (by unfold Has; omega))
        go_enter Try.func23, Try.ntmps23
        go_wp2
        go_ret
        exact ⟨ret_bool HH.out.symm, by go_grown⟩
    · have HH := Lib.hid (has_no (a := a) (x := x) (y := y) (by unfold Has; omega))
      go_enter Try.func23, Try.ntmps23
      go_wp2
      go_ret
      exact ⟨ret_bool HH.out.symm, by go_grown⟩
  · have HH := Lib.hid (has_no (a := a) (x := x) (y := y) (by unfold Has; omega))
    go_enter Try.func23, Try.ntmps23
    go_wp2
    go_ret
    exact ⟨ret_bool HH.out.symm, by go_grown⟩
theorem refOver (a b : Bx) (w : World) (ha : a.ok) (hb : b.ok) :
    Calls Try.prog 10 #[.agg #[.int .i32 a.x, .int .i32 a.y, .int .i32 a.u, .int .i32 a.v], .agg #[.int .i32 b.x, .int .i32 b.y, .int .i32 b.u, .int .i32 b.v]] w fun e w' => e = .returned (.bool (ovr a b)) ∧ Below w.heap.size w w' := by
  obtain ⟨HB, C0, C1⟩ := two_boxes w a b
  have HB := Lib.hid HB
  have C1 := Lib.hid C1
  obtain ⟨⟨x1, x2⟩, ⟨y1, y2⟩, ⟨u1, u2⟩, v1, v2⟩ := ha.all
  obtain ⟨p1, p2⟩ := hb.x
  obtain ⟨q1, q2⟩ := hb.y
  have ix : in40 (max a.x b.x) := by unfold in40; omega
  have iy : in40 (max a.y b.y) := by unfold in40; omega
  have HA := fun W => refHas a (max a.x b.x) (max a.y b.y) W ha ix iy
  have HE := fun W => refHas b (max a.x b.x) (max a.y b.y) W hb ix iy
  clear ix iy C0
  cases h : has a (max a.x b.x) (max a.y b.y)
  · have HH : Hid (ovr a b = false) := by
      unfold has at h
      rw [decide_eq_false_iff_not] at h
      refine decide_eq_false ?_
      unfold Has at h
      unfold Ovr
      omega
    rw [h] at HA
    have HA := Lib.hid HA
    clear h HE
    go_enter Try.func10, Try.ntmps10
    go_wp2_with fail
    refine (greater _ _ _).mono ?_
    rintro E w1 ⟨rfl, rfl⟩
    go_wp2_with fail
    refine (greater _ _ _).mono ?_
    rintro E w1 ⟨rfl, rfl⟩
    go_wp2_with fail
    refine (HA.out _).mono ?_
    rintro E w1 ⟨rfl, hb1⟩
    have HB1 := Lib.hid (HB.out.trans (hb1.mono HB.out.size))
    clear hb1
    go_wp2
    go_ret
    exact ⟨ret_bool HH.out.symm, HB1.out⟩
  · have HH : Hid (ovr a b = has b (max a.x b.x) (max a.y b.y)) := by
      unfold has at h
      rw [decide_eq_true_iff] at h
      unfold has ovr Hid
      rw [decide_eq_decide]
      unfold Has at h
      unfold Ovr Has
      omega
    rw [h] at HA
    have HA := Lib.hid HA
    have HE := Lib.hid HE
    clear h
    go_enter Try.func10, Try.ntmps10
    go_wp2_with fail
    refine (greater _ _ _).mono ?_
    rintro E w1 ⟨rfl, rfl⟩
    go_wp2_with fail
    refine (greater _ _ _).mono ?_
    rintro E w1 ⟨rfl, rfl⟩
    go_wp2_with fail
    refine (HA.out _).mono ?_
    rintro E w1 ⟨rfl, hb1⟩
    have HB1 := Lib.hid (HB.out.trans (hb1.mono HB.out.size))
    have c1 := C1.out.below hb1 C1.out.lt
    clear hb1
    have b0 := cellAt c1 0 rfl
    have b1 := cellAt c1 1 rfl
    have b2 := cellAt c1 2 rfl
    have b3 := cellAt c1 3 rfl
    clear c1
    go_wp2_with fail
    refine (HE.out _).mono ?_
    rintro E w2 ⟨rfl, hb2⟩
    have HB2 := Lib.hid (HB1.out.trans (hb2.mono HB1.out.size))
    clear hb2
    go_wp2
    go_ret
    exact ⟨ret_bool HH.out.symm, HB2.out⟩
theorem refNear (a b : Bx) (w : World) (ha : a.ok) (hb : b.ok) :
    Calls Try.prog 19 #[.agg #[.int .i32 a.x, .int .i32 a.y, .int .i32 a.u, .int .i32 a.v], .agg #[.int .i32 b.x, .int .i32 b.y, .int .i32 b.u, .int .i32 b.v]] w fun e w' => e = .returned (.int .i32 (bo (max (gp a.x (a.x + po a.u) b.x (b.x + po b.u)) (gp a.y (a.y + po a.v) b.y (b.y + po b.v))))) ∧ Below w.heap.size w w' := by
  obtain ⟨ax, ay, au, av⟩ := ha
  obtain ⟨bx, by', bu, bv⟩ := hb
  have G0 := Lib.hid (fun W => refGap a.x a.u b.x b.u W ax au bx bu)
  have G1 := Lib.hid (fun W => refGap a.y a.v b.y b.v W ay av by' bv)
  obtain ⟨ax1, ax2⟩ := ax
  obtain ⟨ay1, ay2⟩ := ay
  obtain ⟨au1, au2⟩ := au
  obtain ⟨av1, av2⟩ := av
  obtain ⟨bx1, bx2⟩ := bx
  obtain ⟨by1, by2⟩ := by'
  obtain ⟨bu1, bu2⟩ := bu
  obtain ⟨bv1, bv2⟩ := bv
  go_enter Try.func19, Try.ntmps19
  go_wp2_with fail
  refine (G0.out _).mono ?_
  rintro E w1 ⟨rfl, rfl⟩
  go_wp2_with fail
  refine (G1.out _).mono ?_
  rintro E w1 ⟨rfl, rfl⟩
  go_wp2_with fail
  refine (greater _ _ _).mono ?_
  rintro E w1 ⟨rfl, rfl⟩
  go_wp2_with fail
  refine (bounded _ _).mono ?_
  rintro E w1 ⟨rfl, rfl⟩
  go_wp2
  go_ret
  exact ⟨rfl, by go_grown⟩
theorem refCentre (a : Bx) (w : World) (ha : a.ok) :
    Calls Try.prog 17 #[.agg #[.int .i32 a.x, .int .i32 a.y, .int .i32 a.u, .int .i32 a.v]] w fun e w' => e = .returned (.tuple #[.int .i32 (bo (a.x + po a.u / 2)), .int .i32 (bo (a.y + po a.v / 2))]) ∧ Below w.heap.size w w' := by
  have HB := Lib.hid (box_made w a)
  have C := Lib.hid (Cells.made w 23 #[.int .i32 a.x, .int .i32 a.y, .int .i32 a.u, .int .i32 a.v])
  obtain ⟨⟨x1, x2⟩, ⟨y1, y2⟩, ⟨u1, u2⟩, v1, v2⟩ := ha.all
  obtain ⟨ax, ay, au, av⟩ := ha
  have e0 : IntKind.i64.wrap (a.x + po a.u / 2) = a.x + po a.u / 2 := IntWalk.i64_in _ (by unfold po; omega)
  have e1 : IntKind.i64.wrap (a.y + po a.v / 2) = a.y + po a.v / 2 := IntWalk.i64_in _ (by unfold po; omega)
  have e2 : IntKind.i64.wrap a.x = a.x := IntWalk.i64_in _ (by omega)
  have e3 : IntKind.i64.wrap a.y = a.y := IntWalk.i64_in _ (by omega)
  have H0 := Lib.hid (fun W => half a.u W au)
  have H1 := Lib.hid (fun W => half a.v W av)
  go_enter Try.func17, Try.ntmps17
  go_wp2_with fail
  generalize w.alloc (.cells #[.int .i32 a.x, .int .i32 a.y, .int .i32 a.u, .int .i32 a.v] 23) = wd at *
  have a0 := on_cell (B := wd.heap.size) C.out C.out.lt 0 rfl
  have a1 := on_cell (B := wd.heap.size) C.out C.out.lt 1 rfl
  have a2 := on_cell (B := wd.heap.size) C.out C.out.lt 2 rfl
  have a3 := on_cell (B := wd.heap.size) C.out C.out.lt 3 rfl
  have o0 := On.drew wd.heap.size wd
  go_region_held3 (fun w' => On wd.heap.size wd w') (first | assumption) (first | (go_at_call 33; refine (H0.out _).mono ?_; rintro E w4 ⟨rfl, rfl⟩) | (go_at_call 33; refine (H1.out _).mono ?_; rintro E w4 ⟨rfl, rfl⟩) | (go_at_call 32; refine (bounded _ _).mono ?_; rintro E w4 ⟨rfl, rfl⟩))
  go_wp2
  go_ret2
  exact ⟨rfl, on_below HB.out HB.out.size o0⟩
end Go.Proofs.Ytmgopmcindlcmaa
