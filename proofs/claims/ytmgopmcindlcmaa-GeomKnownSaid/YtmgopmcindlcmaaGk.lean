/- The Go function GeomKnown returns true, and what lay in memory stays. -/
import Derived.Test.YtmgopmcindlcmaaGi
namespace Go.Proofs.Ytmgopmcindlcmaa
open Go.RowKit
set_option linter.unusedVariables false
set_option maxRecDepth 20000

set_option maxHeartbeats 4000000 in
theorem gKnown (w : World) :
    Calls Try.prog 6 #[] w fun e w' => e = .returned (.bool true) ∧ Below w.heap.size w w' := by
  go_enter Try.func6, Try.ntmps6
  go_wp2_with fail
  refine (lawBox _ _ _ _ _).mono ?_
  rintro E w1 ⟨rfl, hb1⟩
  have HB := Lib.hid (hb1.alloc hb1.size (.cells #[.int .i32 0, .int .i32 0, .int .i32 4, .int .i32 4] 23))
  have C := Lib.hid (Cells.made w1 23 #[.int .i32 0, .int .i32 0, .int .i32 4, .int .i32 4])
  clear hb1
  go_wp2
  generalize w1.alloc (.cells #[.int .i32 0, .int .i32 0, .int .i32 4, .int .i32 4] 23) = wd at *
  have a0 := on_cell (B := wd.heap.size) C.out C.out.lt 0 rfl
  have a1 := on_cell (B := wd.heap.size) C.out C.out.lt 1 rfl
  have a2 := on_cell (B := wd.heap.size) C.out C.out.lt 2 rfl
  have a3 := on_cell (B := wd.heap.size) C.out C.out.lt 3 rfl
  have o0 := On.drew wd.heap.size wd
  go_region_held3 (fun w' => On wd.heap.size wd w') (first | assumption) (first | (go_at_call 20; refine (lawBox _ _ _ _ _).mono ?_; rintro E w4 ⟨rfl, hb4⟩; have o4 := on_step (wd := wd) (by assumption) hb4) | (go_at_call 9; refine (overAt _ _ _ _ _ _ _ _ false _ (by decide) (ok_of _ (by decide)) (ok_of _ (by decide))).mono ?_; rintro E w4 ⟨rfl, hb4⟩; have o4 := on_step (wd := wd) (by assumption) hb4) | (go_at_call 9; refine (overAt _ _ _ _ _ _ _ _ true _ (by decide) (ok_of _ (by decide)) (ok_of _ (by decide))).mono ?_; rintro E w4 ⟨rfl, hb4⟩; have o4 := on_step (wd := wd) (by assumption) hb4) | (go_at_call 11; refine (insideAt _ _ _ _ _ _ _ _ false _ (by decide) (ok_of _ (by decide)) (ok_of _ (by decide))).mono ?_; rintro E w4 ⟨rfl, hb4⟩; have o4 := on_step (wd := wd) (by assumption) hb4) | (go_at_call 11; refine (insideAt _ _ _ _ _ _ _ _ true _ (by decide) (ok_of _ (by decide)) (ok_of _ (by decide))).mono ?_; rintro E w4 ⟨rfl, hb4⟩; have o4 := on_step (wd := wd) (by assumption) hb4) | (go_at_call 18; refine (nearAt _ _ _ _ _ _ _ _ 5 _ (by decide) (ok_of _ (by decide)) (ok_of _ (by decide))).mono ?_; rintro E w4 ⟨rfl, hb4⟩; have o4 := on_step (wd := wd) (by assumption) hb4) | (go_at_call 18; refine (nearAt _ _ _ _ _ _ _ _ 2147483647 _ (by decide) (ok_of _ (by decide)) (ok_of _ (by decide))).mono ?_; rintro E w4 ⟨rfl, hb4⟩; have o4 := on_step (wd := wd) (by assumption) hb4) | (go_at_call 18; refine (nearAt _ _ _ _ _ _ _ _ 2 _ (by decide) (ok_of _ (by decide)) (ok_of _ (by decide))).mono ?_; rintro E w4 ⟨rfl, hb4⟩; have o4 := on_step (wd := wd) (by assumption) hb4) | (go_at_call 18; refine (nearAt _ _ _ _ _ _ _ _ 0 _ (by decide) (ok_of _ (by decide)) (ok_of _ (by decide))).mono ?_; rintro E w4 ⟨rfl, hb4⟩; have o4 := on_step (wd := wd) (by assumption) hb4) | (go_at_call 22; refine (centreAt _ _ _ _ _ _ _ (by decide) (by decide) (ok_of _ (by decide))).mono ?_; rintro E w4 ⟨rfl, hb4⟩; have o4 := on_step (wd := wd) (by assumption) hb4) | (go_at_call 13; refine (awake _).mono ?_; rintro E w4 ⟨rfl, hb4⟩; have o4 := on_step (wd := wd) (by assumption) hb4))
  have HB' := Lib.hid (on_below HB.out HB.out.size o4)
  have C' := Lib.hid (C.out.below o4 C.out.lt)
  clear a0 a1 a2 a3 o0
  go_wp2
  clear C
  have C := C'
  have a0 := on_cell (B := w4.heap.size) C.out C.out.lt 0 rfl
  have a1 := on_cell (B := w4.heap.size) C.out C.out.lt 1 rfl
  have a2 := on_cell (B := w4.heap.size) C.out C.out.lt 2 rfl
  have a3 := on_cell (B := w4.heap.size) C.out C.out.lt 3 rfl
  have o0 := On.drew w4.heap.size w4
  obtain ⟨wd2, hwd2⟩ : ∃ W, w4 = W := ⟨_, rfl⟩
  rw [hwd2] at HB' C C' a0 a1 a2 a3 o0 ⊢
  clear hwd2
  go_region_held3 (fun w' => On wd2.heap.size wd2 w') (first | assumption) (first | (go_at_call 20; refine (lawBox _ _ _ _ _).mono ?_; rintro E w4 ⟨rfl, hb4⟩; have o4 := on_step (wd := wd2) (by assumption) hb4) | (go_at_call 9; refine (overAt _ _ _ _ _ _ _ _ false _ (by decide) (ok_of _ (by decide)) (ok_of _ (by decide))).mono ?_; rintro E w4 ⟨rfl, hb4⟩; have o4 := on_step (wd := wd2) (by assumption) hb4) | (go_at_call 9; refine (overAt _ _ _ _ _ _ _ _ true _ (by decide) (ok_of _ (by decide)) (ok_of _ (by decide))).mono ?_; rintro E w4 ⟨rfl, hb4⟩; have o4 := on_step (wd := wd2) (by assumption) hb4) | (go_at_call 11; refine (insideAt _ _ _ _ _ _ _ _ false _ (by decide) (ok_of _ (by decide)) (ok_of _ (by decide))).mono ?_; rintro E w4 ⟨rfl, hb4⟩; have o4 := on_step (wd := wd2) (by assumption) hb4) | (go_at_call 11; refine (insideAt _ _ _ _ _ _ _ _ true _ (by decide) (ok_of _ (by decide)) (ok_of _ (by decide))).mono ?_; rintro E w4 ⟨rfl, hb4⟩; have o4 := on_step (wd := wd2) (by assumption) hb4) | (go_at_call 18; refine (nearAt _ _ _ _ _ _ _ _ 5 _ (by decide) (ok_of _ (by decide)) (ok_of _ (by decide))).mono ?_; rintro E w4 ⟨rfl, hb4⟩; have o4 := on_step (wd := wd2) (by assumption) hb4) | (go_at_call 18; refine (nearAt _ _ _ _ _ _ _ _ 2147483647 _ (by decide) (ok_of _ (by decide)) (ok_of _ (by decide))).mono ?_; rintro E w4 ⟨rfl, hb4⟩; have o4 := on_step (wd := wd2) (by assumption) hb4) | (go_at_call 18; refine (nearAt _ _ _ _ _ _ _ _ 2 _ (by decide) (ok_of _ (by decide)) (ok_of _ (by decide))).mono ?_; rintro E w4 ⟨rfl, hb4⟩; have o4 := on_step (wd := wd2) (by assumption) hb4) | (go_at_call 18; refine (nearAt _ _ _ _ _ _ _ _ 0 _ (by decide) (ok_of _ (by decide)) (ok_of _ (by decide))).mono ?_; rintro E w4 ⟨rfl, hb4⟩; have o4 := on_step (wd := wd2) (by assumption) hb4) | (go_at_call 22; refine (centreAt _ _ _ _ _ _ _ (by decide) (by decide) (ok_of _ (by decide))).mono ?_; rintro E w4 ⟨rfl, hb4⟩; have o4 := on_step (wd := wd2) (by assumption) hb4) | (go_at_call 13; refine (awake _).mono ?_; rintro E w4 ⟨rfl, hb4⟩; have o4 := on_step (wd := wd2) (by assumption) hb4))
  have HB2 := Lib.hid (on_below HB'.out HB'.out.size o4)
  have C2 := Lib.hid (C.out.below o4 C.out.lt)
  clear a0 a1 a2 a3 o0
  go_wp2_with fail
  refine (lawMoves (5) (9) (0) (10) (10) (0) _ (in_of (by decide)) (in_of (by decide)) (in_of (by decide)) (in_of (by decide)) (by decide) (by decide)).mono ?_
  rintro E w5 ⟨rfl, rfl⟩
  go_wp2_with fail
  refine (lawMoves (5) (-9) (0) (10) (0) (0) _ (in_of (by decide)) (in_of (by decide)) (in_of (by decide)) (in_of (by decide)) (by decide) (by decide)).mono ?_
  rintro E w5 ⟨rfl, rfl⟩
  go_wp2_with fail
  refine (lawMoves (5) (5) (0) (10) (10) (5) _ (in_of (by decide)) (in_of (by decide)) (in_of (by decide)) (in_of (by decide)) (by decide) (by decide)).mono ?_
  rintro E w5 ⟨rfl, rfl⟩
  go_wp2_with fail
  refine (lawMoves (2147483647) (1) (0) (2147483647) (2147483647) (0) _ (in_of (by decide)) (in_of (by decide)) (in_of (by decide)) (in_of (by decide)) (by decide) (by decide)).mono ?_
  rintro E w5 ⟨rfl, rfl⟩
  go_wp2_with fail
  refine (lawMoves (5) (1) (9) (3) (9) (0) _ (in_of (by decide)) (in_of (by decide)) (in_of (by decide)) (in_of (by decide)) (by decide) (by decide)).mono ?_
  rintro E w5 ⟨rfl, rfl⟩
  go_wp2_with fail
  refine (lawMoves (-2147483648) (-1) (-2147483648) (0) (-2147483648) (0) _ (in_of (by decide)) (in_of (by decide)) (in_of (by decide)) (in_of (by decide)) (by decide) (by decide)).mono ?_
  rintro E w5 ⟨rfl, rfl⟩
  go_wp2
  have C := C2
  have a0 := on_cell (B := w4.heap.size) C.out C.out.lt 0 rfl
  have a1 := on_cell (B := w4.heap.size) C.out C.out.lt 1 rfl
  have a2 := on_cell (B := w4.heap.size) C.out C.out.lt 2 rfl
  have a3 := on_cell (B := w4.heap.size) C.out C.out.lt 3 rfl
  have o0 := On.drew w4.heap.size w4
  obtain ⟨wd3, hwd3⟩ : ∃ W, w4 = W := ⟨_, rfl⟩
  rw [hwd3] at HB2 C C2 a0 a1 a2 a3 o0 ⊢
  clear hwd3
  go_region_held3 (fun w' => On wd3.heap.size wd3 w') (first | assumption) (first | (go_at_call 20; refine (lawBox _ _ _ _ _).mono ?_; rintro E w4 ⟨rfl, hb4⟩; have o4 := on_step (wd := wd3) (by assumption) hb4) | (go_at_call 9; refine (overAt _ _ _ _ _ _ _ _ false _ (by decide) (ok_of _ (by decide)) (ok_of _ (by decide))).mono ?_; rintro E w4 ⟨rfl, hb4⟩; have o4 := on_step (wd := wd3) (by assumption) hb4) | (go_at_call 9; refine (overAt _ _ _ _ _ _ _ _ true _ (by decide) (ok_of _ (by decide)) (ok_of _ (by decide))).mono ?_; rintro E w4 ⟨rfl, hb4⟩; have o4 := on_step (wd := wd3) (by assumption) hb4) | (go_at_call 11; refine (insideAt _ _ _ _ _ _ _ _ false _ (by decide) (ok_of _ (by decide)) (ok_of _ (by decide))).mono ?_; rintro E w4 ⟨rfl, hb4⟩; have o4 := on_step (wd := wd3) (by assumption) hb4) | (go_at_call 11; refine (insideAt _ _ _ _ _ _ _ _ true _ (by decide) (ok_of _ (by decide)) (ok_of _ (by decide))).mono ?_; rintro E w4 ⟨rfl, hb4⟩; have o4 := on_step (wd := wd3) (by assumption) hb4) | (go_at_call 18; refine (nearAt _ _ _ _ _ _ _ _ 5 _ (by decide) (ok_of _ (by decide)) (ok_of _ (by decide))).mono ?_; rintro E w4 ⟨rfl, hb4⟩; have o4 := on_step (wd := wd3) (by assumption) hb4) | (go_at_call 18; refine (nearAt _ _ _ _ _ _ _ _ 2147483647 _ (by decide) (ok_of _ (by decide)) (ok_of _ (by decide))).mono ?_; rintro E w4 ⟨rfl, hb4⟩; have o4 := on_step (wd := wd3) (by assumption) hb4) | (go_at_call 18; refine (nearAt _ _ _ _ _ _ _ _ 2 _ (by decide) (ok_of _ (by decide)) (ok_of _ (by decide))).mono ?_; rintro E w4 ⟨rfl, hb4⟩; have o4 := on_step (wd := wd3) (by assumption) hb4) | (go_at_call 18; refine (nearAt _ _ _ _ _ _ _ _ 0 _ (by decide) (ok_of _ (by decide)) (ok_of _ (by decide))).mono ?_; rintro E w4 ⟨rfl, hb4⟩; have o4 := on_step (wd := wd3) (by assumption) hb4) | (go_at_call 22; refine (centreAt _ _ _ _ _ _ _ (by decide) (by decide) (ok_of _ (by decide))).mono ?_; rintro E w4 ⟨rfl, hb4⟩; have o4 := on_step (wd := wd3) (by assumption) hb4) | (go_at_call 13; refine (awake _).mono ?_; rintro E w4 ⟨rfl, hb4⟩; have o4 := on_step (wd := wd3) (by assumption) hb4))
  go_wp2
  go_ret
  exact ⟨rfl, on_below HB2.out HB2.out.size o4⟩
end Go.Proofs.Ytmgopmcindlcmaa
