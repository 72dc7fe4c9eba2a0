/- The Go functions GeomOver, GeomMoves, GeomNear, called with numbers of 32 bits, return true, and what lay in memory stays. -/
import Derived.Test.YtmgopmcindlcmaaGi
namespace Go.Proofs.Ytmgopmcindlcmaa
open Go.RowKit
set_option linter.unusedVariables false
set_option maxRecDepth 20000

theorem gOver (a b : Bx) (w : World) (ha : a.ok) (hb : b.ok) :
    Calls Try.prog 3 #[.agg #[.int .i32 a.x, .int .i32 a.y, .int .i32 a.u, .int .i32 a.v], .agg #[.int .i32 b.x, .int .i32 b.y, .int .i32 b.u, .int .i32 b.v]] w fun e w' => e = .returned (.bool true) ∧ Below w.heap.size w w' := by
  obtain ⟨HB, C0, C1⟩ := two_boxes w a b
  have HB := Lib.hid HB
  have C0 := Lib.hid C0
  have C1 := Lib.hid C1
  have H0 := Lib.hid (fun W => over a b W ha hb)
  have H1 := Lib.hid (fun W => refOver a b W ha hb)
  have H2 := Lib.hid (fun W => inside a b W ha hb)
  have H3 := Lib.hid (fun W => refInside a b W ha hb)
  generalize ovr a b = q at *
  generalize ins a b = r at *
  go_enter Try.func3, Try.ntmps3
  go_wp2
  generalize (w.alloc (.cells #[.int .i32 a.x, .int .i32 a.y, .int .i32 a.u, .int .i32 a.v] 23)).alloc (.cells #[.int .i32 b.x, .int .i32 b.y, .int .i32 b.u, .int .i32 b.v] 23) = wd at *
  have a0 := on_cell (B := wd.heap.size) C0.out C0.out.lt 0 rfl
  have a1 := on_cell (B := wd.heap.size) C0.out C0.out.lt 1 rfl
  have a2 := on_cell (B := wd.heap.size) C0.out C0.out.lt 2 rfl
  have a3 := on_cell (B := wd.heap.size) C0.out C0.out.lt 3 rfl
  have b0 := on_cell (B := wd.heap.size) C1.out C1.out.lt 0 rfl
  have b1 := on_cell (B := wd.heap.size) C1.out C1.out.lt 1 rfl
  have b2 := on_cell (B := wd.heap.size) C1.out C1.out.lt 2 rfl
  have b3 := on_cell (B := wd.heap.size) C1.out C1.out.lt 3 rfl
  have o0 := On.drew wd.heap.size wd
  go_region_held3 (fun w' => On wd.heap.size wd w') (first | assumption) (first | (go_at_call 9; refine (H0.out _).mono ?_; rintro E w4 ⟨rfl, hb4⟩; have o4 := on_step (wd := wd) (by assumption) hb4) | (go_at_call 10; refine (H1.out _).mono ?_; rintro E w4 ⟨rfl, hb4⟩; have o4 := on_step (wd := wd) (by assumption) hb4) | (go_at_call 11; refine (H2.out _).mono ?_; rintro E w4 ⟨rfl, hb4⟩; have o4 := on_step (wd := wd) (by assumption) hb4) | (go_at_call 12; refine (H3.out _).mono ?_; rintro E w4 ⟨rfl, hb4⟩; have o4 := on_step (wd := wd) (by assumption) hb4) | (go_at_call 13; refine (awake _).mono ?_; rintro E w4 ⟨rfl, hb4⟩; have o4 := on_step (wd := wd) (by assumption) hb4))
  go_wp2
  go_ret
  exact ⟨rfl, on_below HB.out HB.out.size o4⟩
theorem gMoves (x v l u : Int) (w : World) (hx : in32 x) (hv : in32 v) (hl : in32 l) (hu : in32 u) :
    Calls Try.prog 4 #[.int .i32 x, .int .i32 v, .agg #[.int .i32 l, .int .i32 u]] w fun e w' => e = .returned (.bool true) ∧ Below w.heap.size w w' := by
  have H0 := Lib.hid (fun W => move x v l u W hx hv hl hu)
  have H1 := Lib.hid (fun W => refMove x v l u W hx hv hl hu)
  have HB := Lib.hid (show Below w.heap.size w (w.alloc (.cells #[.int .i32 l, .int .i32 u] 26)) by go_grown)
  clear hx hv hl hu
  go_enter Try.func4, Try.ntmps4
  go_wp2_with fail
  refine (H0.out _).mono ?_
  rintro E w1 ⟨rfl, rfl⟩
  go_wp2_with fail
  refine (H1.out _).mono ?_
  rintro E w1 ⟨rfl, rfl⟩
  go_wp2_with fail
  refine (awake _).mono ?_
  rintro E w2 ⟨rfl, hb2⟩
  have HB2 := Lib.hid (HB.out.trans (hb2.mono HB.out.size))
  clear hb2
  go_wp2
  go_ret
  exact ⟨rfl, HB2.out⟩
theorem gNear (a b : Bx) (w : World) (ha : a.ok) (hb : b.ok) :
    Calls Try.prog 5 #[.agg #[.int .i32 a.x, .int .i32 a.y, .int .i32 a.u, .int .i32 a.v], .agg #[.int .i32 b.x, .int .i32 b.y, .int .i32 b.u, .int .i32 b.v]] w fun e w' => e = .returned (.bool true) ∧ Below w.heap.size w w' := by
  obtain ⟨HB, C0, C1⟩ := two_boxes w a b
  have HB := Lib.hid HB
  have C0 := Lib.hid C0
  have C1 := Lib.hid C1
  have H0 := Lib.hid (fun W => centre_c a W ha)
  have H1 := Lib.hid (fun W => refCentre a W ha)
  have H2 := Lib.hid (fun W => near_c a b W ha hb)
  have H3 := Lib.hid (fun W => refNear a b W ha hb)
  generalize bo (a.x + po a.u / 2) = p at *
  generalize bo (a.y + po a.v / 2) = q at *
  generalize bo (max (gp a.x (a.x + po a.u) b.x (b.x + po b.u)) (gp a.y (a.y + po a.v) b.y (b.y + po b.v))) = r at *
  go_enter Try.func5, Try.ntmps5
  go_wp2_with fail
  refine (H0.out _).mono ?_
  rintro E w1 ⟨rfl, hb1⟩
  have HB1 := Lib.hid (HB.out.trans (hb1.mono HB.out.size))
  have c1 := C0.out.below hb1 C0.out.lt
  have D1 := Lib.hid (C1.out.below hb1 C1.out.lt)
  clear hb1
  have k0 := cellAt c1 0 rfl
  have k1 := cellAt c1 1 rfl
  have k2 := cellAt c1 2 rfl
  have k3 := cellAt c1 3 rfl
  have D0 := Lib.hid c1
  clear c1
  go_wp2_with fail
  refine (H1.out _).mono ?_
  rintro E wd ⟨rfl, hb1⟩
  have HB2 := Lib.hid (HB1.out.trans (hb1.mono HB1.out.size))
  have C0 := Lib.hid (D0.out.below hb1 D0.out.lt)
  have C1 := Lib.hid (D1.out.below hb1 D1.out.lt)
  clear hb1 k0 k1 k2 k3 D0 D1
  go_wp2
  have a0 := on_cell (B := wd.heap.size) C0.out C0.out.lt 0 rfl
  have a1 := on_cell (B := wd.heap.size) C0.out C0.out.lt 1 rfl
  have a2 := on_cell (B := wd.heap.size) C0.out C0.out.lt 2 rfl
  have a3 := on_cell (B := wd.heap.size) C0.out C0.out.lt 3 rfl
  have b0 := on_cell (B := wd.heap.size) C1.out C1.out.lt 0 rfl
  have b1 := on_cell (B := wd.heap.size) C1.out C1.out.lt 1 rfl
  have b2 := on_cell (B := wd.heap.size) C1.out C1.out.lt 2 rfl
  have b3 := on_cell (B := wd.heap.size) C1.out C1.out.lt 3 rfl
  have o0 := On.drew wd.heap.size wd
  go_region_held3 (fun w' => On wd.heap.size wd w') (first | assumption) (first | (go_at_call 18; refine (H2.out _).mono ?_; rintro E w4 ⟨rfl, hb4⟩; have o4 := on_step (wd := wd) (by assumption) hb4) | (go_at_call 19; refine (H3.out _).mono ?_; rintro E w4 ⟨rfl, hb4⟩; have o4 := on_step (wd := wd) (by assumption) hb4) | (go_at_call 13; refine (awake _).mono ?_; rintro E w4 ⟨rfl, hb4⟩; have o4 := on_step (wd := wd) (by assumption) hb4))
  go_wp2
  go_ret
  exact ⟨rfl, on_below HB2.out HB2.out.size o4⟩
end Go.Proofs.Ytmgopmcindlcmaa
