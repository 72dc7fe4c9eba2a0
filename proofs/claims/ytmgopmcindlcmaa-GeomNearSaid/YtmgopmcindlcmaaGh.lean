/- The document's Inside; the law's own small functions, and some of the chapter's answers: one contract each. Nothing is assumed beyond numbers of 32 bits. -/
import Derived.Test.YtmgopmcindlcmaaGg
import Derived.Test.YtmgopmcindlcmaaGe
import Derived.Test.YtmgopmcindlcmaaGf
namespace Go.Proofs.Ytmgopmcindlcmaa
open Go.RowKit
set_option linter.unusedVariables false
set_option maxRecDepth 20000

theorem on_drewN (n : Nat) (w : World) : On w.heap.size w (w.drewN n) := below_drewN (Below.refl _ _) n
theorem refInside (a b : Bx) (w : World) (ha : a.ok) (hb : b.ok) :
    Calls Try.prog 12 #[.agg #[.int .i32 a.x, .int .i32 a.y, .int .i32 a.u, .int .i32 a.v], .agg #[.int .i32 b.x, .int .i32 b.y, .int .i32 b.u, .int .i32 b.v]] w fun e w' => e = .returned (.bool (ins a b)) ∧ Below w.heap.size w w' := by
  obtain ⟨HB, C0, C1⟩ := two_boxes w a b
  have HB := Lib.hid HB
  have C0 := Lib.hid C0
  have C1 := Lib.hid C1
  obtain ⟨⟨x1, x2⟩, ⟨y1, y2⟩, ⟨u1, u2⟩, v1, v2⟩ := ha.all
  have H0 := fun W => refHas b a.x a.y W hb (by unfold in40; omega) (by unfold in40; omega)
  have H1 := Lib.hid (fun W => refHas b (a.x + a.u - 1) (a.y + a.v - 1) W hb (by unfold in40; omega) (by unfold in40; omega))
  clear ha hb
  by_cases c1 : 0 < a.u
  · by_cases c2 : 0 < a.v
    · cases h : has b a.x a.y
      · have HH : Hid (ins a b = false) := by
          unfold has at h
          rw [decide_eq_false_iff_not] at h
          refine decide_eq_false ?_
          unfold Has at h
          unfold Ins
          omega
        rw [h] at H0
        have H0 := Lib.hid H0
        clear h
        go_enter Try.func12, Try.ntmps12
        go_wp2
        generalize (w.alloc (.cells #[.int .i32 a.x, .int .i32 a.y, .int .i32 a.u, .int .i32 a.v] 23)).alloc (.cells #[.int .i32 b.x, .int .i32 b.y, .int .i32 b.u, .int .i32 b.v] 23) = wd at *
        have s0 := cellAt C0.out 0 rfl
        have s1 := cellAt C0.out 1 rfl
        have s2 := cellAt C0.out 2 rfl
        have s3 := cellAt C0.out 3 rfl
        have t0 := cellAt C1.out 0 rfl
        have t1 := cellAt C1.out 1 rfl
        have t2 := cellAt C1.out 2 rfl
        have t3 := cellAt C1.out 3 rfl
        go_quiet (fail)
        clear s0 s1 s2 s3 t0 t1 t2 t3
        have a0 := on_cell (B := wd.heap.size) C0.out C0.out.lt 0 rfl
        have a1 := on_cell (B := wd.heap.size) C0.out C0.out.lt 1 rfl
        have a2 := on_cell (B := wd.heap.size) C0.out C0.out.lt 2 rfl
        have a3 := on_cell (B := wd.heap.size) C0.out C0.out.lt 3 rfl
        have b0 := on_cell (B := wd.heap.size) C1.out C1.out.lt 0 rfl
        have b1 := on_cell (B := wd.heap.size) C1.out C1.out.lt 1 rfl
        have b2 := on_cell (B := wd.heap.size) C1.out C1.out.lt 2 rfl
        have b3 := on_cell (B := wd.heap.size) C1.out C1.out.lt 3 rfl
        have od := fun n => on_drewN n wd
        go_wp2_with fail
        refine (H0.out _).mono ?_
        rintro E w1 ⟨rfl, hb1⟩
        have HB1 := Lib.hid (on_below HB.out HB.out.size (on_step (wd := wd) (on_drewN _ _) hb1))
        clear hb1
        go_wp2
        go_ret
        exact ⟨ret_bool HH.out.symm, HB1.out⟩
      · have HH : Hid (ins a b = has b (a.x + a.u - 1) (a.y + a.v - 1)) := by
          unfold has at h
          rw [decide_eq_true_iff] at h
          unfold has ins Hid
          rw [decide_eq_decide]
          unfold Has at h
          unfold Ins Has
          omega
        rw [h] at H0
        have H0 := Lib.hid H0
        clear h
        go_enter Try.func12, Try.ntmps12
        go_wp2
        generalize (w.alloc (.cells #[.int .i32 a.x, .int .i32 a.y, .int .i32 a.u, .int .i32 a.v] 23)).alloc (.cells #[.int .i32 b.x, .int .i32 b.y, .int .i32 b.u, .int .i32 b.v] 23) = wd at *
        have s0 := cellAt C0.out 0 rfl
        have s1 := cellAt C0.out 1 rfl
        have s2 := cellAt C0.out 2 rfl
        have s3 := cellAt C0.out 3 rfl
        have t0 := cellAt C1.out 0 rfl
        have t1 := cellAt C1.out 1 rfl
        have t2 := cellAt C1.out 2 rfl
        have t3 := cellAt C1.out 3 rfl
        go_quiet (fail)
        clear s0 s1 s2 s3 t0 t1 t2 t3
        have a0 := on_cell (B := wd.heap.size) C0.out C0.out.lt 0 rfl
        have a1 := on_cell (B := wd.heap.size) C0.out C0.out.lt 1 rfl
        have a2 := on_cell (B := wd.heap.size) C0.out C0.out.lt 2 rfl
        have a3 := on_cell (B := wd.heap.size) C0.out C0.out.lt 3 rfl
        have b0 := on_cell (B := wd.heap.size) C1.out C1.out.lt 0 rfl
        have b1 := on_cell (B := wd.heap.size) C1.out C1.out.lt 1 rfl
        have b2 := on_cell (B := wd.heap.size) C1.out C1.out.lt 2 rfl
        have b3 := on_cell (B := wd.heap.size) C1.out C1.out.lt 3 rfl
        have od := fun n => on_drewN n wd
        go_wp2_with fail
        refine (H0.out _).mono ?_
        rintro E w1 ⟨rfl, hb1⟩
        have o1 := on_step (wd := wd) (on_drewN _ _) hb1
        clear hb1
        go_wp2_with fail
        refine (H1.out _).mono ?_
        rintro E w2 ⟨rfl, hb2⟩
        have o2 := on_step (wd := wd) o1 hb2
        clear hb2
        go_wp2
        go_ret
        exact ⟨ret_bool HH.out.symm, on_below HB.out HB.out.size o2⟩
    · have HH : Hid (ins a b = false) := decide_eq_false (by unfold Ins; omega)
      go_enter Try.func12, Try.ntmps12
      go_wp2
      generalize (w.alloc (.cells #[.int .i32 a.x, .int .i32 a.y, .int .i32 a.u, .int .i32 a.v] 23)).alloc (.cells #[.int .i32 b.x, .int .i32 b.y, .int .i32 b.u, .int .i32 b.v] 23) = wd at *
      have s0 := cellAt C0.out 0 rfl
      have s1 := cellAt C0.out 1 rfl
      have s2 := cellAt C0.out 2 rfl
      have s3 := cellAt C0.out 3 rfl
      have t0 := cellAt C1.out 0 rfl
      have t1 := cellAt C1.out 1 rfl
      have t2 := cellAt C1.out 2 rfl
      have t3 := cellAt C1.out 3 rfl
      go_quiet (fail)
      clear s0 s1 s2 s3 t0 t1 t2 t3
      have a0 := on_cell (B := wd.heap.size) C0.out C0.out.lt 0 rfl
      have a1 := on_cell (B := wd.heap.size) C0.out C0.out.lt 1 rfl
      have a2 := on_cell (B := wd.heap.size) C0.out C0.out.lt 2 rfl
      have a3 := on_cell (B := wd.heap.size) C0.out C0.out.lt 3 rfl
      have b0 := on_cell (B := wd.heap.size) C1.out C1.out.lt 0 rfl
      have b1 := on_cell (B := wd.heap.size) C1.out C1.out.lt 1 rfl
      have b2 := on_cell (B := wd.heap.size) C1.out C1.out.lt 2 rfl
      have b3 := on_cell (B := wd.heap.size) C1.out C1.out.lt 3 rfl
      have od := fun n => on_drewN n wd
      go_wp2
      go_ret
      exact ⟨ret_bool HH.out.symm, on_below HB.out HB.out.size (on_drewN _ _)⟩
  · have HH : Hid (ins a b = false) := decide_eq_false (by unfold Ins; omega)
    go_enter Try.func12, Try.ntmps12
    go_wp2
    generalize (w.alloc (.cells #[.int .i32 a.x, .int .i32 a.y, .int .i32 a.u, .int .i32 a.v] 23)).alloc (.cells #[.int .i32 b.x, .int .i32 b.y, .int .i32 b.u, .int .i32 b.v] 23) = wd at *
    have s0 := cellAt C0.out 0 rfl
    have s1 := cellAt C0.out 1 rfl
    have s2 := cellAt C0.out 2 rfl
    have s3 := cellAt C0.out 3 rfl
    have t0 := cellAt C1.out 0 rfl
    have t1 := cellAt C1.out 1 rfl
    have t2 := cellAt C1.out 2 rfl
    have t3 := cellAt C1.out 3 rfl
    go_quiet (fail)
    clear s0 s1 s2 s3 t0 t1 t2 t3
    have a0 := on_cell (B := wd.heap.size) C0.out C0.out.lt 0 rfl
    have a1 := on_cell (B := wd.heap.size) C0.out C0.out.lt 1 rfl
    have a2 := on_cell (B := wd.heap.size) C0.out C0.out.lt 2 rfl
    have a3 := on_cell (B := wd.heap.size) C0.out C0.out.lt 3 rfl
    have b0 := on_cell (B := wd.heap.size) C1.out C1.out.lt 0 rfl
    have b1 := on_cell (B := wd.heap.size) C1.out C1.out.lt 1 rfl
    have b2 := on_cell (B := wd.heap.size) C1.out C1.out.lt 2 rfl
    have b3 := on_cell (B := wd.heap.size) C1.out C1.out.lt 3 rfl
    have od := fun n => on_drewN n wd
    go_wp2
    go_ret
    exact ⟨ret_bool HH.out.symm, on_below HB.out HB.out.size (on_drewN _ _)⟩
end Go.Proofs.Ytmgopmcindlcmaa
