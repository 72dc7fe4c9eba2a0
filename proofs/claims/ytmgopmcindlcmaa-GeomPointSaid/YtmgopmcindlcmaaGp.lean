/- The Go function GeomPoint, called with numbers of 32 bits, returns true, and what lay in memory stays. -/
import Derived.Test.YtmgopmcindlcmaaGi
import Derived.Deep.DeepCutAuto
namespace Go.Proofs.Ytmgopmcindlcmaa
open Go.RowKit
set_option linter.unusedVariables false
set_option maxRecDepth 20000

theorem point_says (a b : Bx) (u v : Int) : ((ovr a b == (has a (max a.x b.x) (max a.y b.y) && has b (max a.x b.x) (max a.y b.y))) && (ovr a b || !ins a b) && (!ins a b || !has a u v || has b u v) && (ovr a b || !has a u v || !has b u v)) = true := by
  have e1 : ovr a b = decide (Has a (max a.x b.x) (max a.y b.y) ∧ Has b (max a.x b.x) (max a.y b.y)) := by
    unfold ovr
    rw [decide_eq_decide]
    unfold Ovr Has
    omega
  have e2 : Ins a b → Ovr a b := by unfold Ins Ovr; omega
  have e3 : Ins a b → Has a u v → Has b u v := by unfold Ins Has; omega
  have e4 : Has a u v → Has b u v → Ovr a b := by unfold Ovr Has; omega
  simp only [Bool.and_eq_true, Bool.or_eq_true, Bool.not_eq_true', beq_iff_eq]
  refine ⟨⟨⟨by rw [e1]; unfold has; rw [Bool.decide_and], ?_⟩, ?_⟩, ?_⟩
  · unfold ovr ins
    rw [decide_eq_true_iff, decide_eq_false_iff_not]
    by_cases h : Ins a b
    · exact .inl (e2 h)
    · exact .inr h
  · unfold has ins
    rw [decide_eq_true_iff, decide_eq_false_iff_not, decide_eq_false_iff_not]
    by_cases h : Ins a b
    · by_cases k : Has a u v
      · exact .inr (e3 h k)
      · exact .inl (.inr k)
    · exact .inl (.inl h)
  · unfold has ovr
    rw [decide_eq_true_iff, decide_eq_false_iff_not, decide_eq_false_iff_not]
    by_cases h : Has a u v
    · by_cases k : Has b u v
      · exact .inl (.inl (e4 h k))
      · exact .inr k
    · exact .inl (.inr h)
theorem ovr_turned (a b : Bx) : ovr b a = ovr a b := by
  unfold ovr
  rw [decide_eq_decide]
  unfold Ovr
  omega
theorem three_boxes (w : World) (a b : Bx) (u v : Int) :
    Below w.heap.size w (((w.alloc (.cells #[.int .i32 a.x, .int .i32 a.y, .int .i32 a.u, .int .i32 a.v] 23)).alloc (.cells #[.int .i32 b.x, .int .i32 b.y, .int .i32 b.u, .int .i32 b.v] 23)).alloc (.cells #[.int .i32 u, .int .i32 v] 26)) ∧ Cells (((w.alloc (.cells #[.int .i32 a.x, .int .i32 a.y, .int .i32 a.u, .int .i32 a.v] 23)).alloc (.cells #[.int .i32 b.x, .int .i32 b.y, .int .i32 b.u, .int .i32 b.v] 23)).alloc (.cells #[.int .i32 u, .int .i32 v] 26)) w.heap.size 23 #[.int .i32 a.x, .int .i32 a.y, .int .i32 a.u, .int .i32 a.v] ∧ Cells (((w.alloc (.cells #[.int .i32 a.x, .int .i32 a.y, .int .i32 a.u, .int .i32 a.v] 23)).alloc (.cells #[.int .i32 b.x, .int .i32 b.y, .int .i32 b.u, .int .i32 b.v] 23)).alloc (.cells #[.int .i32 u, .int .i32 v] 26)) (w.heap.size + 1) 23 #[.int .i32 b.x, .int .i32 b.y, .int .i32 b.u, .int .i32 b.v] ∧ Cells (((w.alloc (.cells #[.int .i32 a.x, .int .i32 a.y, .int .i32 a.u, .int .i32 a.v] 23)).alloc (.cells #[.int .i32 b.x, .int .i32 b.y, .int .i32 b.u, .int .i32 b.v] 23)).alloc (.cells #[.int .i32 u, .int .i32 v] 26)) (w.heap.size + 1 + 1) 26 #[.int .i32 u, .int .i32 v] := by
  obtain ⟨HB, C0, C1⟩ := two_boxes w a b
  exact ⟨HB.alloc HB.size _, C0.alloc _, C1.alloc _, by simpa using Cells.made ((w.alloc (.cells #[.int .i32 a.x, .int .i32 a.y, .int .i32 a.u, .int .i32 a.v] 23)).alloc (.cells #[.int .i32 b.x, .int .i32 b.y, .int .i32 b.u, .int .i32 b.v] 23)) 26 #[.int .i32 u, .int .i32 v]⟩
set_option maxHeartbeats 4000000 in
theorem point_walk (a b : Bx) (u v mx my : Int) (q s1 s2 r s t : Bool) (w : World) (hmx : max a.x b.x = mx) (hmy : max a.y b.y = my)
    (h0 : ∀ W, Calls Try.prog 9 #[.agg #[.int .i32 a.x, .int .i32 a.y, .int .i32 a.u, .int .i32 a.v], .agg #[.int .i32 b.x, .int .i32 b.y, .int .i32 b.u, .int .i32 b.v]] W fun e w' => e = .returned (.bool q) ∧ Below W.heap.size W w')
    (h1 : ∀ W, Calls Try.prog 9 #[.agg #[.int .i32 b.x, .int .i32 b.y, .int .i32 b.u, .int .i32 b.v], .agg #[.int .i32 a.x, .int .i32 a.y, .int .i32 a.u, .int .i32 a.v]] W fun e w' => e = .returned (.bool q) ∧ Below W.heap.size W w')
    (h2 : ∀ W, Calls Try.prog 23 #[.agg #[.int .i32 a.x, .int .i32 a.y, .int .i32 a.u, .int .i32 a.v], .int .i64 mx, .int .i64 my] W fun e w' => e = .returned (.bool s1) ∧ Below W.heap.size W w')
    (h3 : ∀ W, Calls Try.prog 23 #[.agg #[.int .i32 b.x, .int .i32 b.y, .int .i32 b.u, .int .i32 b.v], .int .i64 mx, .int .i64 my] W fun e w' => e = .returned (.bool s2) ∧ Below W.heap.size W w')
    (h4 : ∀ W, Calls Try.prog 11 #[.agg #[.int .i32 a.x, .int .i32 a.y, .int .i32 a.u, .int .i32 a.v], .agg #[.int .i32 b.x, .int .i32 b.y, .int .i32 b.u, .int .i32 b.v]] W fun e w' => e = .returned (.bool r) ∧ Below W.heap.size W w')
    (h5 : ∀ W, Calls Try.prog 23 #[.agg #[.int .i32 a.x, .int .i32 a.y, .int .i32 a.u, .int .i32 a.v], .int .i64 u, .int .i64 v] W fun e w' => e = .returned (.bool s) ∧ Below W.heap.size W w')
    (h6 : ∀ W, Calls Try.prog 23 #[.agg #[.int .i32 b.x, .int .i32 b.y, .int .i32 b.u, .int .i32 b.v], .int .i64 u, .int .i64 v] W fun e w' => e = .returned (.bool t) ∧ Below W.heap.size W w')
    (hax : in32 a.x) (hay : in32 a.y) (hbx : in32 b.x) (hby : in32 b.y) (hu : in32 u) (hv : in32 v)
    (hc : ((q == (s1 && s2)) && (q || !r) && (!r || !s || t) && (q || !s || !t)) = true) :
    Calls Try.prog 7 #[.agg #[.int .i32 a.x, .int .i32 a.y, .int .i32 a.u, .int .i32 a.v], .agg #[.int .i32 b.x, .int .i32 b.y, .int .i32 b.u, .int .i32 b.v], .agg #[.int .i32 u, .int .i32 v]] w fun e w' => e = .returned (.bool true) ∧ Below w.heap.size w w' := by
  obtain ⟨HB, C0, C1, C2⟩ := three_boxes w a b u v
  have HB := Lib.hid HB
  have C0 := Lib.hid C0
  have C1 := Lib.hid C1
  have C2 := Lib.hid C2
  have W0 : IntKind.i64.wrap a.x = a.x := IntWalk.i64_in _ (by unfold in32 at *; omega)
  have W1 : IntKind.i64.wrap b.x = b.x := IntWalk.i64_in _ (by unfold in32 at *; omega)
  have W2 : IntKind.i64.wrap a.y = a.y := IntWalk.i64_in _ (by unfold in32 at *; omega)
  have W3 : IntKind.i64.wrap b.y = b.y := IntWalk.i64_in _ (by unfold in32 at *; omega)
  have E0 := Lib.hid (show IntKind.i64.wrap a.x = a.x ∧ IntKind.i64.wrap b.x = b.x ∧ max a.x b.x = mx from ⟨W0, W1, hmx⟩)
  have E1 := Lib.hid (show IntKind.i64.wrap a.y = a.y ∧ IntKind.i64.wrap b.y = b.y ∧ max a.y b.y = my from ⟨W2, W3, hmy⟩)
  have W4 := Lib.hid (show IntKind.i64.wrap u = u from IntWalk.i64_in _ (by unfold in32 at *; omega))
  have W5 := Lib.hid (show IntKind.i64.wrap v = v from IntWalk.i64_in _ (by unfold in32 at *; omega))
  clear hmx hmy W0 W1 W2 W3 hax hay hbx hby hu hv
  have H0 := Lib.hid h0
  have H1 := Lib.hid h1
  have H2 := Lib.hid h2
  have H3 := Lib.hid h3
  have H4 := Lib.hid h4
  have H5 := Lib.hid h5
  have H6 := Lib.hid h6
  have HC := Lib.hid hc
  clear h0 h1 h2 h3 h4 h5 h6 hc
  go_enter Try.func7, Try.ntmps7
  go_wp2_with fail
  generalize ((w.alloc (.cells #[.int .i32 a.x, .int .i32 a.y, .int .i32 a.u, .int .i32 a.v] 23)).alloc (.cells #[.int .i32 b.x, .int .i32 b.y, .int .i32 b.u, .int .i32 b.v] 23)).alloc (.cells #[.int .i32 u, .int .i32 v] 26) = wd at *
  have a0 := on_cell (B := wd.heap.size) C0.out C0.out.lt 0 rfl
  have a1 := on_cell (B := wd.heap.size) C0.out C0.out.lt 1 rfl
  have a2 := on_cell (B := wd.heap.size) C0.out C0.out.lt 2 rfl
  have a3 := on_cell (B := wd.heap.size) C0.out C0.out.lt 3 rfl
  have b0 := on_cell (B := wd.heap.size) C1.out C1.out.lt 0 rfl
  have b1 := on_cell (B := wd.heap.size) C1.out C1.out.lt 1 rfl
  have b2 := on_cell (B := wd.heap.size) C1.out C1.out.lt 2 rfl
  have b3 := on_cell (B := wd.heap.size) C1.out C1.out.lt 3 rfl
  have p0 := on_cell (B := wd.heap.size) C2.out C2.out.lt 0 rfl
  have p1 := on_cell (B := wd.heap.size) C2.out C2.out.lt 1 rfl
  have o4 := On.refl wd.heap.size wd
  first | (go_at_call 9; with_reducible refine (H0.out _).mono ?_; rintro E w4 ⟨rfl, hb4⟩; have o4 := on_step (wd := wd) (by with_reducible assumption) hb4; clear hb4) | (go_at_call 9; with_reducible refine (H1.out _).mono ?_; rintro E w4 ⟨rfl, hb4⟩; have o4 := on_step (wd := wd) (by with_reducible assumption) hb4; clear hb4) | (go_at_call 23; with_reducible refine (H2.out _).mono ?_; rintro E w4 ⟨rfl, hb4⟩; have o4 := on_step (wd := wd) (by with_reducible assumption) hb4; clear hb4) | (go_at_call 23; with_reducible refine (H3.out _).mono ?_; rintro E w4 ⟨rfl, hb4⟩; have o4 := on_step (wd := wd) (by with_reducible assumption) hb4; clear hb4) | (go_at_call 11; with_reducible refine (H4.out _).mono ?_; rintro E w4 ⟨rfl, hb4⟩; have o4 := on_step (wd := wd) (by with_reducible assumption) hb4; clear hb4) | (go_at_call 23; with_reducible refine (H5.out _).mono ?_; rintro E w4 ⟨rfl, hb4⟩; have o4 := on_step (wd := wd) (by with_reducible assumption) hb4; clear hb4) | (go_at_call 23; with_reducible refine (H6.out _).mono ?_; rintro E w4 ⟨rfl, hb4⟩; have o4 := on_step (wd := wd) (by with_reducible assumption) hb4; clear hb4) | (go_at_call 13; with_reducible refine (awake _).mono ?_; rintro E w4 ⟨rfl, hb4⟩; have o4 := on_step (wd := wd) (by with_reducible assumption) hb4; clear hb4)
  go_wp2_with fail
  have o5 := on_drewB o4
  go_upto_region 2 with fail
  go_cut [8, 9] (fun s8 s9 wx => s8 = .int .i64 mx ∧ s9 = .int .i64 my ∧ On wd.heap.size wd wx)
  case first =>
    go_region_held3 (fun w' => On wd.heap.size wd w') (first | assumption) (fail)
    all_goals go_wp2_with fail
    all_goals go_meet
    all_goals refine ⟨congrArg (Value.int .i64) ?_, congrArg (Value.int .i64) ?_, o5⟩
    all_goals (obtain ⟨f0, f1, f2⟩ := E0.out; obtain ⟨f3, f4, f5⟩ := E1.out; omega)
  case rest =>
  obtain ⟨rfl, rfl, o5⟩ := hcut
  clear E0 E1 o4
  go_upto_region 3 with fail
  go_cut [56] (fun s56 wx => s56 = .bool false ∧ On wd.heap.size wd wx)
  case first =>
    revert H0 H1 H2 H3 H4 HC
    clear H5 H6
    cases q <;> cases s1 <;> cases s2 <;> cases r <;> intro H0 H1 H2 H3 H4 HC
    all_goals first | (exfalso; revert HC; cases s <;> cases t <;> exact fun h => absurd h.out (by decide)) | skip
    all_goals clear HC
    all_goals go_wp2_with fail
    all_goals repeat ((first | (go_at_call 9; with_reducible refine (H0.out _).mono ?_; rintro E w4 ⟨rfl, hb4⟩; have o4 := on_step (wd := wd) (by with_reducible assumption) hb4; clear hb4) | (go_at_call 9; with_reducible refine (H1.out _).mono ?_; rintro E w4 ⟨rfl, hb4⟩; have o4 := on_step (wd := wd) (by with_reducible assumption) hb4; clear hb4) | (go_at_call 23; with_reducible refine (H2.out _).mono ?_; rintro E w4 ⟨rfl, hb4⟩; have o4 := on_step (wd := wd) (by with_reducible assumption) hb4; clear hb4) | (go_at_call 23; with_reducible refine (H3.out _).mono ?_; rintro E w4 ⟨rfl, hb4⟩; have o4 := on_step (wd := wd) (by with_reducible assumption) hb4; clear hb4) | (go_at_call 11; with_reducible refine (H4.out _).mono ?_; rintro E w4 ⟨rfl, hb4⟩; have o4 := on_step (wd := wd) (by with_reducible assumption) hb4; clear hb4) | (go_at_call 23; with_reducible refine (H5.out _).mono ?_; rintro E w4 ⟨rfl, hb4⟩; have o4 := on_step (wd := wd) (by with_reducible assumption) hb4; clear hb4) | (go_at_call 23; with_reducible refine (H6.out _).mono ?_; rintro E w4 ⟨rfl, hb4⟩; have o4 := on_step (wd := wd) (by with_reducible assumption) hb4; clear hb4) | (go_at_call 13; with_reducible refine (awake _).mono ?_; rintro E w4 ⟨rfl, hb4⟩; have o4 := on_step (wd := wd) (by with_reducible assumption) hb4; clear hb4)); go_wp2_with fail)
    all_goals go_meet
    all_goals exact ⟨rfl, o4⟩
  case rest =>
    obtain ⟨rfl, o6⟩ := hcut
    go_wp2_with fail
    have o7 := on_drewB o6
    go_region_held3 (fun w' => On wd.heap.size wd w') (first | assumption) (fail)
    rw [W4.out, W5.out]
    clear W4 W5
    obtain ⟨w6, hw6⟩ : ∃ W, wc.drew = W := ⟨_, rfl⟩
    rw [hw6] at o7 ⊢
    clear hw6 o6
    revert H0 H1 H2 H3 H4 H5 H6 HC
    cases q <;> cases r <;> cases s <;> cases t <;> intro H0 H1 H2 H3 H4 H5 H6 HC
    all_goals first | (exfalso; revert HC; cases s1 <;> cases s2 <;> exact fun h => absurd h.out (by decide)) | skip
    all_goals clear HC
    all_goals go_wp2_with fail
    all_goals repeat ((first | (go_at_call 9; with_reducible refine (H0.out _).mono ?_; rintro E w4 ⟨rfl, hb4⟩; have o4 := on_step (wd := wd) (by with_reducible assumption) hb4; clear hb4) | (go_at_call 9; with_reducible refine (H1.out _).mono ?_; rintro E w4 ⟨rfl, hb4⟩; have o4 := on_step (wd := wd) (by with_reducible assumption) hb4; clear hb4) | (go_at_call 23; with_reducible refine (H2.out _).mono ?_; rintro E w4 ⟨rfl, hb4⟩; have o4 := on_step (wd := wd) (by with_reducible assumption) hb4; clear hb4) | (go_at_call 23; with_reducible refine (H3.out _).mono ?_; rintro E w4 ⟨rfl, hb4⟩; have o4 := on_step (wd := wd) (by with_reducible assumption) hb4; clear hb4) | (go_at_call 11; with_reducible refine (H4.out _).mono ?_; rintro E w4 ⟨rfl, hb4⟩; have o4 := on_step (wd := wd) (by with_reducible assumption) hb4; clear hb4) | (go_at_call 23; with_reducible refine (H5.out _).mono ?_; rintro E w4 ⟨rfl, hb4⟩; have o4 := on_step (wd := wd) (by with_reducible assumption) hb4; clear hb4) | (go_at_call 23; with_reducible refine (H6.out _).mono ?_; rintro E w4 ⟨rfl, hb4⟩; have o4 := on_step (wd := wd) (by with_reducible assumption) hb4; clear hb4) | (go_at_call 13; with_reducible refine (awake _).mono ?_; rintro E w4 ⟨rfl, hb4⟩; have o4 := on_step (wd := wd) (by with_reducible assumption) hb4; clear hb4)); go_wp2_with fail)
    all_goals go_ret
    all_goals exact ⟨rfl, on_below HB.out HB.out.size o4⟩
end Go.Proofs.Ytmgopmcindlcmaa
