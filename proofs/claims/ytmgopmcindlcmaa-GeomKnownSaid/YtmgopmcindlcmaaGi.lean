/- The law's own small functions, and some of the chapter's answers: one contract each. Nothing is assumed beyond numbers of 32 bits. -/
import Derived.Test.YtmgopmcindlcmaaGh
namespace Go.Proofs.Ytmgopmcindlcmaa
open Go.RowKit
set_option linter.unusedVariables false
set_option maxRecDepth 20000

theorem ok_of (a : Bx) (h : (decide (-2147483648 ≤ a.x) && decide (a.x ≤ 2147483647) && (decide (-2147483648 ≤ a.y) && decide (a.y ≤ 2147483647)) && (decide (-2147483648 ≤ a.u) && decide (a.u ≤ 2147483647)) && (decide (-2147483648 ≤ a.v) && decide (a.v ≤ 2147483647))) = true) : a.ok := by
  simp only [Bool.and_eq_true, decide_eq_true_eq] at h
  exact ⟨h.1.1.1, h.1.1.2, h.1.2, h.2⟩
theorem in_of {n : Int} (h : (decide (-2147483648 ≤ n) && decide (n ≤ 2147483647)) = true) : in32 n := by
  simp only [Bool.and_eq_true, decide_eq_true_eq] at h
  exact h
theorem lawBox (x y u v : Int) (w : World) :
    Calls Try.prog 20 #[.int .i32 x, .int .i32 y, .int .i32 u, .int .i32 v] w fun e w' => e = .returned (.agg #[.int .i32 x, .int .i32 y, .int .i32 u, .int .i32 v]) ∧ Below w.heap.size w w' := by
  go_enter Try.func20, Try.ntmps20
  go_wp2
  go_returns
  exact ⟨rfl, by go_grown⟩
theorem lawMoves (x v l u t s : Int) (w : World) (hx : in32 x) (hv : in32 v) (hl : in32 l) (hu : in32 u) (h : cl (x + v) l u = t) (k : mv x v l u = s) :
    Calls Try.prog 21 #[.int .i32 x, .int .i32 v, .int .i32 l, .int .i32 u, .int .i32 t, .int .i32 s] w fun e w' => e = .returned (.bool true) ∧ w = w' := by
  have HM := move x v l u w hx hv hl hu
  rw [h, k] at HM
  have HM := Lib.hid HM
  clear hx hv hl hu h k
  go_enter Try.func21, Try.ntmps21
  go_wp2_with fail
  refine HM.out.mono ?_
  rintro E w1 ⟨rfl, rfl⟩
  go_wp2
  go_ret
  exact ⟨rfl, rfl⟩
theorem lawCentre (a : Bx) (x y : Int) (w : World) (ha : a.ok) (h : bo (a.x + po a.u / 2) = x) (k : bo (a.y + po a.v / 2) = y) :
    Calls Try.prog 22 #[.agg #[.int .i32 a.x, .int .i32 a.y, .int .i32 a.u, .int .i32 a.v], .int .i32 x, .int .i32 y] w fun e w' => e = .returned (.bool true) ∧ Below w.heap.size w w' := by
  have HM := centre_c a (w.alloc (.cells #[.int .i32 a.x, .int .i32 a.y, .int .i32 a.u, .int .i32 a.v] 23)) ha
  rw [h, k] at HM
  have HM := Lib.hid HM
  have HB := Lib.hid (box_made w a)
  clear ha h k
  go_enter Try.func22, Try.ntmps22
  go_wp2_with fail
  refine HM.out.mono ?_
  rintro E w1 ⟨rfl, hb1⟩
  have HB1 := Lib.hid (HB.out.trans (hb1.mono HB.out.size))
  clear hb1
  go_wp2
  go_ret
  exact ⟨rfl, HB1.out⟩
theorem overAt (x y u v x' y' u' v' : Int) (r : Bool) (w : World) (h : ovr ⟨x, y, u, v⟩ ⟨x', y', u', v'⟩ = r) (ha : Bx.ok ⟨x, y, u, v⟩) (hb : Bx.ok ⟨x', y', u', v'⟩) :
    Calls Try.prog 9 #[.agg #[.int .i32 x, .int .i32 y, .int .i32 u, .int .i32 v], .agg #[.int .i32 x', .int .i32 y', .int .i32 u', .int .i32 v']] w fun e w' => e = .returned (.bool r) ∧ Below w.heap.size w w' := h ▸ over _ _ w ha hb
theorem insideAt (x y u v x' y' u' v' : Int) (r : Bool) (w : World) (h : ins ⟨x, y, u, v⟩ ⟨x', y', u', v'⟩ = r) (ha : Bx.ok ⟨x, y, u, v⟩) (hb : Bx.ok ⟨x', y', u', v'⟩) :
    Calls Try.prog 11 #[.agg #[.int .i32 x, .int .i32 y, .int .i32 u, .int .i32 v], .agg #[.int .i32 x', .int .i32 y', .int .i32 u', .int .i32 v']] w fun e w' => e = .returned (.bool r) ∧ Below w.heap.size w w' := h ▸ inside _ _ w ha hb
theorem nearAt (x y u v x' y' u' v' r : Int) (w : World) (h : bo (max (gp x (x + po u) x' (x' + po u')) (gp y (y + po v) y' (y' + po v'))) = r) (ha : Bx.ok ⟨x, y, u, v⟩) (hb : Bx.ok ⟨x', y', u', v'⟩) :
    Calls Try.prog 18 #[.agg #[.int .i32 x, .int .i32 y, .int .i32 u, .int .i32 v], .agg #[.int .i32 x', .int .i32 y', .int .i32 u', .int .i32 v']] w fun e w' => e = .returned (.int .i32 r) ∧ Below w.heap.size w w' := h ▸ near_c ⟨x, y, u, v⟩ ⟨x', y', u', v'⟩ w ha hb
theorem centreAt (x y u v r t : Int) (w : World) (h : bo (x + po u / 2) = r) (k : bo (y + po v / 2) = t) (ha : Bx.ok ⟨x, y, u, v⟩) :
    Calls Try.prog 22 #[.agg #[.int .i32 x, .int .i32 y, .int .i32 u, .int .i32 v], .int .i32 r, .int .i32 t] w fun e w' => e = .returned (.bool true) ∧ Below w.heap.size w w' := lawCentre ⟨x, y, u, v⟩ r t w ha h k
theorem awake (w : World) :
    Calls Try.prog 13 #[] w fun e w' => e = .returned (.bool true) ∧ Below w.heap.size w w' := by
  have B0 := Lib.hid (Below.refl w.heap.size w)
  go_enter Try.func13, Try.ntmps13
  go_wp2_with fail
  refine (lawBox _ _ _ _ _).mono ?_
  rintro E w1 ⟨rfl, hb1⟩
  have B1 := Lib.hid (B0.out.trans (hb1.mono B0.out.size))
  clear hb1
  go_wp2_with fail
  refine (lawBox _ _ _ _ _).mono ?_
  rintro E w2 ⟨rfl, hb2⟩
  have B2 := Lib.hid (B1.out.trans (hb2.mono B1.out.size))
  clear hb2
  go_wp2_with fail
  refine (overAt 0 0 4 4 3 3 4 4 true _ (by decide) (ok_of _ (by decide)) (ok_of _ (by decide))).mono ?_
  rintro E w3 ⟨rfl, hb3⟩
  have B3 := Lib.hid (B2.out.trans (hb3.mono B2.out.size))
  clear hb3
  go_wp2_with fail
  refine (lawMoves 5 3 0 10 8 3 _ (in_of (by decide)) (in_of (by decide)) (in_of (by decide)) (in_of (by decide)) (by decide) (by decide)).mono ?_
  rintro E w4 ⟨rfl, rfl⟩
  go_wp2_with fail
  refine (lawBox _ _ _ _ _).mono ?_
  rintro E w4 ⟨rfl, hb4⟩
  have B4 := Lib.hid (B3.out.trans (hb4.mono B3.out.size))
  clear hb4
  go_wp2_with fail
  refine (lawBox _ _ _ _ _).mono ?_
  rintro E w5 ⟨rfl, hb5⟩
  have B5 := Lib.hid (B4.out.trans (hb5.mono B4.out.size))
  clear hb5
  go_wp2_with fail
  refine (nearAt 0 0 4 4 7 0 1 1 3 _ (by decide) (ok_of _ (by decide)) (ok_of _ (by decide))).mono ?_
  rintro E w6 ⟨rfl, hb6⟩
  have B6 := Lib.hid (B5.out.trans (hb6.mono B5.out.size))
  clear hb6
  go_wp2_with fail
  refine (lawBox _ _ _ _ _).mono ?_
  rintro E w7 ⟨rfl, hb7⟩
  have B7 := Lib.hid (B6.out.trans (hb7.mono B6.out.size))
  clear hb7
  go_wp2_with fail
  refine (lawBox _ _ _ _ _).mono ?_
  rintro E w8 ⟨rfl, hb8⟩
  have B8 := Lib.hid (B7.out.trans (hb8.mono B7.out.size))
  clear hb8
  go_wp2_with fail
  refine (insideAt 1 1 2 2 0 0 4 4 true _ (by decide) (ok_of _ (by decide)) (ok_of _ (by decide))).mono ?_
  rintro E w9 ⟨rfl, hb9⟩
  have B9 := Lib.hid (B8.out.trans (hb9.mono B8.out.size))
  clear hb9
  go_wp2
  go_ret
  exact ⟨rfl, B9.out⟩
end Go.Proofs.Ytmgopmcindlcmaa
