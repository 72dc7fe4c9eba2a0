/- The Go function GeomStays, called with numbers of 32 bits, returns true, and what lay in memory stays. -/
import Derived.Test.YtmgopmcindlcmaaGi
import Derived.Deep.DeepCutAuto
namespace Go.Proofs.Ytmgopmcindlcmaa
open Go.RowKit
set_option linter.unusedVariables false
set_option maxRecDepth 20000

theorem min_if (x y : Int) : (if y < x then y else x) = min x y := by split <;> omega
theorem three_made (w : World) (a b : Bx) (x v c d : Int) :
    Below w.heap.size w (((w.alloc (.cells #[.int .i32 a.x, .int .i32 a.y, .int .i32 a.u, .int .i32 a.v] 23)).alloc (.cells #[.int .i32 b.x, .int .i32 b.y, .int .i32 b.u, .int .i32 b.v] 23)).alloc (.cells #[.int .i32 x, .int .i32 v, .int .i32 c, .int .i32 d] 37)) ∧ Cells (((w.alloc (.cells #[.int .i32 a.x, .int .i32 a.y, .int .i32 a.u, .int .i32 a.v] 23)).alloc (.cells #[.int .i32 b.x, .int .i32 b.y, .int .i32 b.u, .int .i32 b.v] 23)).alloc (.cells #[.int .i32 x, .int .i32 v, .int .i32 c, .int .i32 d] 37)) w.heap.size 23 #[.int .i32 a.x, .int .i32 a.y, .int .i32 a.u, .int .i32 a.v] ∧ Cells (((w.alloc (.cells #[.int .i32 a.x, .int .i32 a.y, .int .i32 a.u, .int .i32 a.v] 23)).alloc (.cells #[.int .i32 b.x, .int .i32 b.y, .int .i32 b.u, .int .i32 b.v] 23)).alloc (.cells #[.int .i32 x, .int .i32 v, .int .i32 c, .int .i32 d] 37)) (w.heap.size + 1) 23 #[.int .i32 b.x, .int .i32 b.y, .int .i32 b.u, .int .i32 b.v] ∧ Cells (((w.alloc (.cells #[.int .i32 a.x, .int .i32 a.y, .int .i32 a.u, .int .i32 a.v] 23)).alloc (.cells #[.int .i32 b.x, .int .i32 b.y, .int .i32 b.u, .int .i32 b.v] 23)).alloc (.cells #[.int .i32 x, .int .i32 v, .int .i32 c, .int .i32 d] 37)) (w.heap.size + 1 + 1) 37 #[.int .i32 x, .int .i32 v, .int .i32 c, .int .i32 d] := by
  obtain ⟨HB, C0, C1⟩ := two_boxes w a b
  exact ⟨HB.alloc HB.size _, C0.alloc _, C1.alloc _, by simpa using Cells.made ((w.alloc (.cells #[.int .i32 a.x, .int .i32 a.y, .int .i32 a.u, .int .i32 a.v] 23)).alloc (.cells #[.int .i32 b.x, .int .i32 b.y, .int .i32 b.u, .int .i32 b.v] 23)) 37 #[.int .i32 x, .int .i32 v, .int .i32 c, .int .i32 d]⟩
set_option maxHeartbeats 4000000 in
theorem stays_walk (a b : Bx) (x v c d lo hi n t sp on s2 : Int) (q : Bool) (w : World) (hlo : min c d = lo) (hhi : max c d = hi)
    (h0 : ∀ W, Calls Try.prog 18 #[.agg #[.int .i32 a.x, .int .i32 a.y, .int .i32 a.u, .int .i32 a.v], .agg #[.int .i32 b.x, .int .i32 b.y, .int .i32 b.u, .int .i32 b.v]] W fun e w' => e = .returned (.int .i32 n) ∧ Below W.heap.size W w')
    (h1 : ∀ W, Calls Try.prog 18 #[.agg #[.int .i32 b.x, .int .i32 b.y, .int .i32 b.u, .int .i32 b.v], .agg #[.int .i32 a.x, .int .i32 a.y, .int .i32 a.u, .int .i32 a.v]] W fun e w' => e = .returned (.int .i32 n) ∧ Below W.heap.size W w')
    (h2 : ∀ W, Calls Try.prog 9 #[.agg #[.int .i32 a.x, .int .i32 a.y, .int .i32 a.u, .int .i32 a.v], .agg #[.int .i32 b.x, .int .i32 b.y, .int .i32 b.u, .int .i32 b.v]] W fun e w' => e = .returned (.bool q) ∧ Below W.heap.size W w')
    (h3 : ∀ W, Calls Try.prog 14 #[.int .i32 x, .int .i32 v, .int .i32 lo, .int .i32 hi] W fun e w' => e = .returned (.tuple #[.int .i32 t, .int .i32 sp]) ∧ W = w')
    (h4 : ∀ W, Calls Try.prog 14 #[.int .i32 t, .int .i32 sp, .int .i32 lo, .int .i32 hi] W fun e w' => e = .returned (.tuple #[.int .i32 on, .int .i32 s2]) ∧ W = w')
    (hx : in32 x) (hv : in32 v) (hl : in32 lo) (hh : in32 hi) (hn : 0 ≤ n) (hq : q = true → n = 0) (ht : lo ≤ t ∧ t ≤ hi)
    (hc : (lo ≤ x + v ∧ x + v ≤ hi ∧ t = x + v ∧ sp = v) ∨ ((x + v < lo ∨ hi < x + v) ∧ t ≠ x + v ∧ sp = 0)) (ho : (0 ≤ v → t ≤ on) ∧ (v ≤ 0 → on ≤ t)) :
    Calls Try.prog 8 #[.agg #[.int .i32 a.x, .int .i32 a.y, .int .i32 a.u, .int .i32 a.v], .agg #[.int .i32 b.x, .int .i32 b.y, .int .i32 b.u, .int .i32 b.v], .agg #[.int .i32 x, .int .i32 v, .int .i32 c, .int .i32 d]] w fun e w' => e = .returned (.bool true) ∧ Below w.heap.size w w' := by
  obtain ⟨HB, C0, C1, C2⟩ := three_made w a b x v c d
  have HB := Lib.hid HB
  have C0 := Lib.hid C0
  have C1 := Lib.hid C1
  have C2 := Lib.hid C2
  have H0 := Lib.hid h0
  have H1 := Lib.hid h1
  have H2 := Lib.hid h2
  have H3 := Lib.hid h3
  have H4 := Lib.hid h4
  have HC := Lib.hid hc
  have HO := Lib.hid ho
  have HQ := Lib.hid hq
  have HT := Lib.hid ht
  have HLO := Lib.hid hlo
  have HHI := Lib.hid hhi
  clear h0 h1 h2 h3 h4 hc ho hq hlo hhi ht
  obtain ⟨hx1, hx2⟩ := hx
  obtain ⟨hv1, hv2⟩ := hv
  obtain ⟨hl1, hl2⟩ := hl
  obtain ⟨hh1, hh2⟩ := hh
  go_enter Try.func8, Try.ntmps8
  go_wp2_with fail
  generalize ((w.alloc (.cells #[.int .i32 a.x, .int .i32 a.y, .int .i32 a.u, .int .i32 a.v] 23)).alloc (.cells #[.int .i32 b.x, .int .i32 b.y, .int .i32 b.u, .int .i32 b.v] 23)).alloc (.cells #[.int .i32 x, .int .i32 v, .int .i32 c, .int .i32 d] 37) = wd at *
  have a0 := on_cell (B := wd.heap.size) C0.out C0.out.lt 0 rfl
  have a1 := on_cell (B := wd.heap.size) C0.out C0.out.lt 1 rfl
  have a2 := on_cell (B := wd.heap.size) C0.out C0.out.lt 2 rfl
  have a3 := on_cell (B := wd.heap.size) C0.out C0.out.lt 3 rfl
  have b0 := on_cell (B := wd.heap.size) C1.out C1.out.lt 0 rfl
  have b1 := on_cell (B := wd.heap.size) C1.out C1.out.lt 1 rfl
  have b2 := on_cell (B := wd.heap.size) C1.out C1.out.lt 2 rfl
  have b3 := on_cell (B := wd.heap.size) C1.out C1.out.lt 3 rfl
  have p0 := on_cell (B := wd.heap.size) C2.out C2.out.lt 0 rfl
  have p1 := on_cell (B := wd.heap.size) C2.out C2.out.lt 1 rfl
  have p2 := on_cell (B := wd.heap.size) C2.out C2.out.lt 2 rfl
  have p3 := on_cell (B := wd.heap.size) C2.out C2.out.lt 3 rfl
  have o4 := On.refl wd.heap.size wd
  first | (go_at_call 18; with_reducible refine (H0.out _).mono ?_; rintro E w4 ⟨rfl, hb4⟩; have o4 := on_step (wd := wd) (by with_reducible assumption) hb4; clear hb4)
  go_upto_region 2 with fail
  go_cut [38] (fun s38 wx => s38 = .bool false ∧ On wd.heap.size wd wx)
  case first =>
    go_wp2_with fail
    first | (go_at_call 18; with_reducible refine (H1.out _).mono ?_; rintro E w4 ⟨rfl, hb4⟩; have o4 := on_step (wd := wd) (by with_reducible assumption) hb4; clear hb4)
    go_wp2_with fail
    (go_at_call 9; with_reducible refine (H2.out _).mono ?_; rintro E w4 ⟨rfl, hb4⟩; have o4 := on_step (wd := wd) (by with_reducible assumption) hb4; clear hb4)
    cases q
    · go_wp2_with fail
      go_meet
      exact ⟨congrArg Value.bool (decide_eq_false (by omega)), o4⟩
    · obtain rfl := HQ.out rfl
      go_wp2_with fail
      go_meet
      exact ⟨rfl, o4⟩
  case rest =>
  obtain ⟨rfl, o5⟩ := hcut
  clear o4 H0 H1 H2 HQ
  go_upto_region 4 with fail
  have o6 := on_drewB o5
  go_cut [8, 9, 10, 11] (fun s8 s9 s10 s11 wx => s8 = .int .i32 x ∧ s9 = .int .i32 v ∧ s10 = .int .i32 lo ∧ s11 = .int .i32 hi ∧ On wd.heap.size wd wx)
  case first =>
    go_region_held3 (fun w' => On wd.heap.size wd w') (first | assumption) (fail)
    all_goals go_wp2_with fail
    all_goals go_meet
    all_goals refine ⟨rfl, rfl, congrArg (Value.int .i32) ?_, congrArg (Value.int .i32) ?_, o6⟩
    all_goals (have f0 := HLO.out; have f1 := HHI.out; omega)
  case rest =>
  obtain ⟨rfl, rfl, rfl, rfl, o7⟩ := hcut
  clear o5 o6 HLO HHI
  go_wp2_with fail
  refine (H3.out _).mono ?_
  rintro E w5 ⟨rfl, rfl⟩
  clear H3
  obtain ⟨ht1, ht2⟩ := HT.out
  rcases HC.out with ⟨c1, c2, rfl, rfl⟩ | ⟨c1 | c1, c2, rfl⟩
  · clear HC HT ht1 ht2
    go_wp2_with fail
    refine (H4.out _).mono ?_
    rintro E w6 ⟨rfl, rfl⟩
    clear H4
    obtain ⟨o1, o2⟩ := HO.out
    by_cases v1 : sp < 0
    · have ho2 := o2 (by omega)
      clear o1 o2
      go_wp2_with fail
      refine (awake _).mono ?_
      rintro E w4 ⟨rfl, hb4⟩
      have o4 := on_step (wd := wd) o7 hb4
      clear hb4
      go_wp2
      go_ret
      exact ⟨rfl, on_below HB.out HB.out.size o4⟩
    · have ho1 := o1 (by omega)
      by_cases v2 : 0 < sp
      · clear o1 o2
        go_wp2_with fail
        refine (awake _).mono ?_
        rintro E w4 ⟨rfl, hb4⟩
        have o4 := on_step (wd := wd) o7 hb4
        clear hb4
        go_wp2
        go_ret
        exact ⟨rfl, on_below HB.out HB.out.size o4⟩
      · have ho2 := o2 (by omega)
        clear o1 o2
        go_wp2_with fail
        refine (awake _).mono ?_
        rintro E w4 ⟨rfl, hb4⟩
        have o4 := on_step (wd := wd) o7 hb4
        clear hb4
        go_wp2
        go_ret
        exact ⟨rfl, on_below HB.out HB.out.size o4⟩
  · clear HC HT
    have e2 : (t == x + v) = false := beq_eq_false_iff_ne.2 c2
    clear c2
    go_wp2_with fail
    refine (H4.out _).mono ?_
    rintro E w6 ⟨rfl, rfl⟩
    clear H4
    obtain ⟨o1, o2⟩ := HO.out
    by_cases v1 : v < 0
    · have ho2 := o2 (by omega)
      clear o1 o2
      go_wp2_with fail
      refine (awake _).mono ?_
      rintro E w4 ⟨rfl, hb4⟩
      have o4 := on_step (wd := wd) o7 hb4
      clear hb4
      go_wp2
      go_ret
      exact ⟨rfl, on_below HB.out HB.out.size o4⟩
    · have ho1 := o1 (by omega)
      by_cases v2 : 0 < v
      · clear o1 o2
        go_wp2_with fail
        refine (awake _).mono ?_
        rintro E w4 ⟨rfl, hb4⟩
        have o4 := on_step (wd := wd) o7 hb4
        clear hb4
        go_wp2
        go_ret
        exact ⟨rfl, on_below HB.out HB.out.size o4⟩
      · have ho2 := o2 (by omega)
        clear o1 o2
        go_wp2_with fail
        refine (awake _).mono ?_
        rintro E w4 ⟨rfl, hb4⟩
        have o4 := on_step (wd := wd) o7 hb4
        clear hb4
        go_wp2
        go_ret
        exact ⟨rfl, on_below HB.out HB.out.size o4⟩
  · clear HC HT
    have e2 : (t == x + v) = false := beq_eq_false_iff_ne.2 c2
    have e1 : decide (x + v ≤ hi) = false := decide_eq_false (by omega)
    clear c2
    go_wp2_with fail
    refine (H4.out _).mono ?_
    rintro E w6 ⟨rfl, rfl⟩
    clear H4
    obtain ⟨o1, o2⟩ := HO.out
    by_cases v1 : v < 0
    · have ho2 := o2 (by omega)
      clear o1 o2
      go_wp2_with fail
      refine (awake _).mono ?_
      rintro E w4 ⟨rfl, hb4⟩
      have o4 := on_step (wd := wd) o7 hb4
      clear hb4
      go_wp2
      go_ret
      exact ⟨rfl, on_below HB.out HB.out.size o4⟩
    · have ho1 := o1 (by omega)
      by_cases v2 : 0 < v
      · clear o1 o2
        go_wp2_with fail
        refine (awake _).mono ?_
        rintro E w4 ⟨rfl, hb4⟩
        have o4 := on_step (wd := wd) o7 hb4
        clear hb4
        go_wp2
        go_ret
        exact ⟨rfl, on_below HB.out HB.out.size o4⟩
      · have ho2 := o2 (by omega)
        clear o1 o2
        go_wp2_with fail
        refine (awake _).mono ?_
        rintro E w4 ⟨rfl, hb4⟩
        have o4 := on_step (wd := wd) o7 hb4
        clear hb4
        go_wp2
        go_ret
        exact ⟨rfl, on_below HB.out HB.out.size o4⟩
end Go.Proofs.Ytmgopmcindlcmaa
