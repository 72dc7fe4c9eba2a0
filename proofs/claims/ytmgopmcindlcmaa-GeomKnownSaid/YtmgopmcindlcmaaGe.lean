/- Whether one box is inside another one. Nothing is assumed beyond numbers of 32 bits. -/
import Derived.Test.YtmgopmcindlcmaaGd
import Derived.Deep.RegionWith
import Derived.Laws.StructEq
namespace Go.Proofs.Ytmgopmcindlcmaa
open Go.RowKit
set_option linter.unusedVariables false
set_option maxRecDepth 20000

theorem ins_no (a b : Bx) (h : (a.x == a.x + po a.u || a.y == a.y + po a.v) = true) : ins a b = false := by
  rw [Bool.or_eq_true, beq_iff_eq, beq_iff_eq] at h
  unfold ins
  rw [decide_eq_false_iff_not]
  unfold Ins
  unfold po at h
  omega
theorem ins_yes (a b : Bx) (h : (a.x == a.x + po a.u || a.y == a.y + po a.v) = false) : ins a b = ((cl a.x b.x (b.x + po b.u) == a.x && cl (a.x + po a.u) b.x (b.x + po b.u) == a.x + po a.u) && (cl a.y b.y (b.y + po b.v) == a.y && cl (a.y + po a.v) b.y (b.y + po b.v) == a.y + po a.v)) := by
  rw [Bool.or_eq_false_iff, beq_eq_false_iff_ne, beq_eq_false_iff_ne] at h
  rw [Bool.eq_iff_iff]
  simp only [Bool.and_eq_true, beq_iff_eq]
  unfold ins
  rw [decide_eq_true_eq]
  unfold Ins cl
  unfold po at *
  omega
theorem area_eq (a b c d a' b' c' d' : Int) (w : World) : (binOp .eql 42 (.agg #[.int .i64 a, .int .i64 b, .int .i64 c, .int .i64 d]) (.agg #[.int .i64 a', .int .i64 b', .int .i64 c', .int .i64 d'])).run Try.prog w = .ok (.bool ((a == a' && b == b') && (c == c' && d == d'))) w := by
  cases h0 : (a == a') <;> cases h1 : (b == b') <;> cases h2 : (c == c') <;> cases h3 : (d == d')
  all_goals simp [go_sem, h0, h1, h2, h3]
attribute [local go_sem ↓] area_eq
set_option maxHeartbeats 2000000 in
theorem inside (a b : Bx) (w : World) (ha : a.ok) (hb : b.ok) :
    Calls Try.prog 11 #[.agg #[.int .i32 a.x, .int .i32 a.y, .int .i32 a.u, .int .i32 a.v], .agg #[.int .i32 b.x, .int .i32 b.y, .int .i32 b.u, .int .i32 b.v]] w fun e w' => e = .returned (.bool (ins a b)) ∧ Below w.heap.size w w' := by
  obtain ⟨HB, C0, C1⟩ := two_boxes w a b
  have HB := Lib.hid HB
  have C0 := Lib.hid C0
  have C1 := Lib.hid C1
  have HA := Lib.hid (areaOf a.x a.y a.u a.v ((w.alloc (.cells #[.int .i32 a.x, .int .i32 a.y, .int .i32 a.u, .int .i32 a.v] 23)).alloc (.cells #[.int .i32 b.x, .int .i32 b.y, .int .i32 b.u, .int .i32 b.v] 23)) ha.x ha.y ha.u ha.v)
  have HE := fun W => arEmpty a.x (a.x + po a.u) a.y (a.y + po a.v) W
  obtain ⟨bx, by', bu, bv⟩ := hb
  clear ha
  cases h : (a.x == a.x + po a.u || a.y == a.y + po a.v)
  · have HI := Lib.hid (ins_yes a b h)
    rw [h] at HE
    have HE := Lib.hid HE
    clear h
    go_enter Try.func11, Try.ntmps11
    go_wp2_with fail
    refine HA.out.mono ?_
    rintro E w1 ⟨rfl, hb1⟩
    have HB1 := Lib.hid (HB.out.trans (hb1.mono HB.out.size))
    have C1' := Lib.hid (C1.out.below hb1 C1.out.lt)
    clear hb1 HB C0 C1 HA
    go_wp2
    have C := Lib.hid (Cells.made w1 42 #[.int .i64 a.x, .int .i64 (a.x + po a.u), .int .i64 a.y, .int .i64 (a.y + po a.v)])
    have HB2 := Lib.hid (HB1.out.alloc HB1.out.size (.cells #[.int .i64 a.x, .int .i64 (a.x + po a.u), .int .i64 a.y, .int .i64 (a.y + po a.v)] 42))
    have C2 := Lib.hid (C1'.out.alloc (.cells #[.int .i64 a.x, .int .i64 (a.x + po a.u), .int .i64 a.y, .int .i64 (a.y + po a.v)] 42))
    clear HB1 C1'
    generalize w1.alloc (.cells #[.int .i64 a.x, .int .i64 (a.x + po a.u), .int .i64 a.y, .int .i64 (a.y + po a.v)] 42) = wd at *
    have a0 := on_cell (B := wd.heap.size) C.out C.out.lt 0 rfl
    have a1 := on_cell (B := wd.heap.size) C.out C.out.lt 1 rfl
    have a2 := on_cell (B := wd.heap.size) C.out C.out.lt 2 rfl
    have a3 := on_cell (B := wd.heap.size) C.out C.out.lt 3 rfl
    have b0 := on_cell (B := wd.heap.size) C2.out C2.out.lt 0 rfl
    have b1 := on_cell (B := wd.heap.size) C2.out C2.out.lt 1 rfl
    have b2 := on_cell (B := wd.heap.size) C2.out C2.out.lt 2 rfl
    have b3 := on_cell (B := wd.heap.size) C2.out C2.out.lt 3 rfl
    have o0 := On.drew wd.heap.size wd
    go_region_held3 (fun w' => On wd.heap.size wd w') (first | assumption) (first | (go_at_call 24; refine (areaOf _ _ _ _ _ (by assumption) (by assumption) (by assumption) (by assumption)).mono ?_; rintro E w4 ⟨rfl, hb4⟩; have o4 := on_step (wd := wd) (by assumption) hb4) | (go_at_call 25; refine (arClip _ _ _ _ _ _ _ _ _).mono ?_; rintro E w4 ⟨rfl, hb4⟩; have o4 := on_step (wd := wd) (by assumption) hb4) | (go_at_call 26; refine (HE.out _).mono ?_; rintro E w4 ⟨rfl, hb4⟩; have o4 := on_step (wd := wd) (by assumption) hb4))
    go_wp2
    go_ret
    exact ⟨ret_bool HI.out.symm, on_below HB2.out HB2.out.size o4⟩
  · have HI := Lib.hid (ins_no a b h)
    rw [h] at HE
    have HE := Lib.hid HE
    clear h
    go_enter Try.func11, Try.ntmps11
    go_wp2_with fail
    refine HA.out.mono ?_
    rintro E w1 ⟨rfl, hb1⟩
    have HB1 := Lib.hid (HB.out.trans (hb1.mono HB.out.size))
    clear hb1 HB C0 C1 HA
    go_wp2
    have C := Lib.hid (Cells.made w1 42 #[.int .i64 a.x, .int .i64 (a.x + po a.u), .int .i64 a.y, .int .i64 (a.y + po a.v)])
    have HB2 := Lib.hid (HB1.out.alloc HB1.out.size (.cells #[.int .i64 a.x, .int .i64 (a.x + po a.u), .int .i64 a.y, .int .i64 (a.y + po a.v)] 42))
    clear HB1
    go_region_with (first | (go_at_call 26; refine (HE.out _).mono ?_; rintro E w4 ⟨rfl, hb4⟩; have o4 := Lib.hid hb4; clear hb4))
    all_goals go_wp2
    all_goals go_ret
    all_goals exact ⟨ret_bool HI.out.symm, HB2.out.trans ((Below.drew (Below.refl _ _)).trans (o4.out.mono (by simpa using HB2.out.size)))⟩
end Go.Proofs.Ytmgopmcindlcmaa
