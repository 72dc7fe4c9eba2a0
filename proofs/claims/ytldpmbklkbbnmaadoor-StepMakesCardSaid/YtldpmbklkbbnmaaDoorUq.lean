/- The statements' own first state and their own last word: contracts. -/
import Derived.Test.YtldpmbklkbbnmaaDoorUo
import Derived.Test.YtldpmbklkbbnmaaDoorAe
namespace Go.Proofs.YtldpmbklkbbnmaaDoor
open Go.RowKit
set_option linter.unusedVariables false
set_option linter.unusedSimpArgs false
set_option maxRecDepth 20000

theorem pl_eql (a b : Pl) (w : World) : (binOp .eql 24 (.agg #[.int .i32 a.x, .int .i32 a.y, .int .i32 a.vx, .int .i32 a.vy, .int .u8 (a.h : Int), .int .u8 (a.c : Int), .int .u8 (a.f : Int)]) (.agg #[.int .i32 b.x, .int .i32 b.y, .int .i32 b.vx, .int .i32 b.vy, .int .u8 (b.h : Int), .int .u8 (b.c : Int), .int .u8 (b.f : Int)])).run Tryd.prog w = .ok (.bool (decide (a = b))) w := by
  rw [run_eql_struct, pl_in 9998]; rfl
theorem field_fr (s : St) (ao : Option Addr) (cap : Nat) (w : World) : (Instr.field 30 (.agg (stc s ao cap)) 0).run Tryd.prog w = .ok (.int .u64 (s.fr : Int)) w := by
  simp [Instr.field, run_underlying Tryd.underlying30, go_sem]; rfl
/-- The state behind a frame in which the first one goes to the right. -/
def gone1 : St := ⟨1, 7, ⟨8256, 14336, 64, 0, 100, 0, 0⟩, ⟨53248, 14336, 0, 0, 100, 0, 1⟩, [], 0, 0⟩
theorem stp_gone : stp (start 7) 2 0 = gone1 := by decide +kernel
theorem stp_bad : stp (start 7) 64 0 = start 7 := by decide +kernel
theorem good_start7 : (start 7).good = true := by decide +kernel
attribute [local go_sem ↓] ld_i32 ld_u8 ld_u64 ld_player ld_state st_state
theorem still_c (w : World) : Calls Tryd.prog 14 #[] w fun E w' => E = .returned (.agg (stc (start 7) none 0)) ∧ Below w.heap.size w w' := by
  have H0 := Lib.hid (Loc.one w 30 zsc)
  have CS : Hid (Calls Tryd.prog 34 #[.int .u64 7] (w.alloc (.cells zsc 30)) fun E w' => E = .returned (.agg (stc (start 7) none 0)) ∧ (w.alloc (.cells zsc 30)).grownBy w' none) := start_c 7 _
  go_enter Tryd.func14, Tryd.ntmps14
  go_wp2_with fail
  refine CS.out.mono ?_
  rintro E w1 ⟨rfl, hb⟩
  have H1 := H0.out.grown hb
  obtain ⟨w2, s2, H2, _⟩ := H1.stA ty_state 0 rfl 0 (stc (start 7) none 0) (cs' := stc (start 7) none 0) rfl (L' := [(w.heap.size, 30, stc (start 7) none 0)]) rfl (Nat.le_of_ble_eq_true rfl) rfl rfl
  go_wp2
  refine bodyPost_ret (v := .agg (stc (start 7) none 0)) (ret_struct Tryd.underlying30 ty_state _ 0 _ Tryd.results14 (H2.get 0 rfl) rfl rfl) rfl ?_
  exact ⟨rfl, H2.be⟩
/-- Both tables lie there. -/
structure Laid (w : World) : Prop where
  t : Tab w
  f : Fac w
theorem Laid.to {w w' : World} (h : Laid w) (hb : Below w.heap.size w w') : Laid w' := ⟨tab_below h.t hb h.t.1, fac_below h.f hb h.f.1⟩
theorem stepAt (s : St) (ao : Option Addr) (cap i j : Nat) (w : World) (hS : Shs w ao s.ss) (hn : ao = none → cap = 0) (hl : s.ss.length ≤ 1000000) (hf : s.fit) (hi : i < 256) (hj : j < 256) (hL : Laid w) {t : St} (ht : stp s i j = t) :
    Calls Tryd.prog 10 #[.agg (stc s ao cap), .agg #[.int .u8 (i : Int), .int .u8 (j : Int)]] w (StPost w.heap.size w t) := by
  rw [← ht]; exact step_c s ao cap i j w hS hn hl hf hi hj hL.t hL.f
set_option maxHeartbeats 4000000 in
theorem awake_c (w : World) (hL : Laid w) : Calls Tryd.prog 8 #[] w fun E w' => E = .returned (.bool true) ∧ Below w.heap.size w w' := by
  have HL := Lib.hid hL
  clear hL
  have H0 := Lib.hid (Loc.nil (B := w.heap.size) (w := w) (Nat.le_refl _))
  go_enter Tryd.func8, Tryd.ntmps8
  go_wp2_with fail
  refine (still_c _).mono ?_
  rintro E w1 ⟨rfl, hb1⟩
  have Ha1 := H0.out.to hb1
  obtain ⟨g1, wa2, za5, sa3, Ha4, _⟩ := Ha1.newA ty_state zsc (stc (start 7) none 0) rfl rfl rfl
  replace Ha4 : Loc _ _ _ [(g1, 30, #[.int .u64 0, .int .u64 7, .int .i32 8192, .int .i32 14336, .int .i32 0, .int .i32 0, .int .u8 100, .int .u8 0, .int .u8 0, .int .i32 53248, .int .i32 14336, .int .i32 0, .int .i32 0, .int .u8 100, .int .u8 0, .int .u8 1, .slice none 0 0, .int .u16 0, .int .u16 0])] := Ha4
  have la6 := Ha4.ldA ty_state 0 rfl 0 (vs := (stc (start 7) none 0)) rfl (Nat.le_of_ble_eq_true rfl)
  have C1 : Hid (Calls Tryd.prog 10 #[.agg (stc (start 7) none 0), .agg #[.int .u8 2, .int .u8 0]] wa2 (StPost wa2.heap.size wa2 gone1)) := stepAt (start 7) none 0 2 0 wa2 (shs_nil _ _) (fun _ => rfl) (by decide) (fit_start (by decide)) (by decide) (by decide) (HL.out.to Ha4.be) stp_gone
  go_wp2_with fail
  refine C1.out.mono ?_
  rintro E w2 ⟨ao2, cap2, rfl, hR2, hb2⟩
  clear C1
  clear la6 za5 sa3
  have Ha7 := Ha4.to hb2
  obtain ⟨g2, wa8, za11, sa9, Ha10, _⟩ := Ha7.newA ty_state zsc (stc gone1 ao2 cap2) rfl rfl rfl
  replace Ha10 : Loc _ _ _ [(g1, 30, #[.int .u64 0, .int .u64 7, .int .i32 8192, .int .i32 14336, .int .i32 0, .int .i32 0, .int .u8 100, .int .u8 0, .int .u8 0, .int .i32 53248, .int .i32 14336, .int .i32 0, .int .i32 0, .int .u8 100, .int .u8 0, .int .u8 1, .slice none 0 0, .int .u16 0, .int .u16 0]), (g2, 30, (stc gone1 ao2 cap2))] := Ha10
  go_upto_region 3 with fail
  clear za11 sa9
  have la12 := Ha10.ldO ty_u64 1 rfl 0 (v := .int .u64 1) rfl
  have la13 := Ha10.ldO ty_i32 1 rfl 2 (v := .int .i32 8256) rfl
  have la14 := Ha10.ldO ty_i32 0 rfl 2 (v := .int .i32 8192) rfl
  have la15 := Ha10.ldO ty_i32 1 rfl 4 (v := .int .i32 64) rfl
  have la16 := Ha10.ldA ty_player 1 rfl 9 (vs := (pcs ⟨53248, 14336, 0, 0, 100, 0, 1⟩)) rfl (Nat.le_of_ble_eq_true rfl)
  have la17 := Ha10.ldA ty_player 0 rfl 9 (vs := (pcs ⟨53248, 14336, 0, 0, 100, 0, 1⟩)) rfl (Nat.le_of_ble_eq_true rfl)
  have la18 := Ha10.ldA ty_state 0 rfl 0 (vs := (stc (start 7) none 0)) rfl (Nat.le_of_ble_eq_true rfl)
  have C2 : Hid (Calls Tryd.prog 10 #[.agg (stc (start 7) none 0), .agg #[.int .u8 64, .int .u8 0]] wa8 (StPost wa8.heap.size wa8 (start 7))) := stepAt (start 7) none 0 64 0 wa8 (shs_nil _ _) (fun _ => rfl) (by decide) (fit_start (by decide)) (by decide) (by decide) (HL.out.to Ha10.be) stp_bad
  have hpe := pl_eql ⟨53248, 14336, 0, 0, 100, 0, 1⟩ ⟨53248, 14336, 0, 0, 100, 0, 1⟩ wa8
  go_wp2_with fail
  refine C2.out.mono ?_
  rintro E w3 ⟨ao3, cap3, rfl, hR3, hb3⟩
  clear C2
  have hfd : (Instr.field 30 (.agg (stc (start 7) ao3 cap3)) 0).run Tryd.prog w3 = .ok (.int .u64 0) w3 := field_fr (start 7) ao3 cap3 w3
  go_wp2
  go_ret
  exact ⟨rfl, (Ha10.to hb3).be⟩
end Go.Proofs.YtldpmbklkbbnmaaDoor
