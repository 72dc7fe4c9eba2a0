/- The program's frame: boxes; whether players are apart; one who is stopped: contracts. -/
import Derived.Test.YtgmbdadkahcpcaaDoorUa
import Derived.Test.YtgmbdadkahcpcaaDoorAf
namespace Go.Proofs.YtgmbdadkahcpcaaDoor
open Go.RowKit
set_option linter.unusedVariables false
set_option linter.unusedSimpArgs false
set_option maxRecDepth 20000

theorem one_of {w : World} {Q : Ending → World → Prop} {P : Prop} {v : Value} (h : Q = fun E w' => E = .returned v ∧ Below w.heap.size w w') : Hid (∀ w', Below w.heap.size w w' → Q (.returned v) w') := fun w' hb => by rw [h]; exact ⟨rfl, hb⟩
attribute [local go_sem ↓] ld_i32 ld_player ld_players st_i32 st_player st_box
theorem square_c (x y s : Int) (w : World) :
    Calls Tryd.prog 63 #[.int .i32 x, .int .i32 y, .int .i32 s] w fun E w' => E = .returned (.agg #[.int .i32 x, .int .i32 y, .int .i32 s, .int .i32 s]) ∧ Below w.heap.size w w' := by
  have H0 := Lib.hid (Loc.one w 99 #[.int .i32 0, .int .i32 0, .int .i32 0, .int .i32 0])
  obtain ⟨w1, s1, H1, _⟩ := H0.out.stA ty_box 0 rfl 0 #[.int .i32 x, .int .i32 y, .int .i32 s, .int .i32 s] (cs' := #[.int .i32 x, .int .i32 y, .int .i32 s, .int .i32 s]) rfl rfl (Nat.le_refl _) rfl rfl
  go_enter Tryd.func63, Tryd.ntmps63
  go_wp2
  refine bodyPost_ret (v := .agg #[.int .i32 x, .int .i32 y, .int .i32 s, .int .i32 s]) (ret_struct Tryd.underlying99 ty_box _ 6 _ Tryd.results63 (H1.get 0 rfl) rfl rfl) rfl ⟨rfl, H1.be⟩
theorem boxOf_c (p : Pl) (w : World) :
    Calls Tryd.prog 66 #[pv p] w fun E w' => E = .returned (.agg #[.int .i32 p.x, .int .i32 p.y, .int .i32 4096, .int .i32 4096]) ∧ Below w.heap.size w w' := by
  have H0 := Lib.hid (Loc.two w 24 99 (pcs p) #[.int .i32 0, .int .i32 0, .int .i32 0, .int .i32 0])
  unfold pv
  go_enter Tryd.func66, Tryd.ntmps66
  go_upto_region 1 with fail
  generalize (w.alloc (.cells (pcs p) 24)).alloc (.cells #[.int .i32 0, .int .i32 0, .int .i32 0, .int .i32 0] 99) = wa at *
  have l0 := H0.out.ldO ty_i32 0 rfl 0 (v := .int .i32 p.x) rfl
  have l1 := H0.out.ldO ty_i32 0 rfl 1 (v := .int .i32 p.y) rfl
  go_wp2_with fail
  refine (square_c p.x p.y 4096 wa).mono ?_
  rintro E w2 ⟨rfl, hb⟩
  have H2 := Lib.hid (H0.out.to hb)
  obtain ⟨w1, s1, H1, _⟩ := H2.out.stA ty_box 1 rfl 0 #[.int .i32 p.x, .int .i32 p.y, .int .i32 4096, .int .i32 4096] (cs' := #[.int .i32 p.x, .int .i32 p.y, .int .i32 4096, .int .i32 4096]) rfl rfl (Nat.le_refl _) rfl rfl
  go_wp2
  refine bodyPost_ret (v := .agg #[.int .i32 p.x, .int .i32 p.y, .int .i32 4096, .int .i32 4096]) (ret_struct Tryd.underlying99 ty_box _ 2 _ Tryd.results66 (H1.get 1 rfl) rfl rfl) rfl ⟨rfl, H1.be⟩
theorem stopped_c (p : Pl) (w : World) :
    Calls Tryd.prog 62 #[pv p] w fun E w' => E = .returned (pv (haltP p)) ∧ Below w.heap.size w w' := by
  have H0 := Lib.hid (Loc.two w 24 24 (pcs p) #[.int .i32 0, .int .i32 0, .int .i32 0, .int .i32 0, .int .u8 0, .int .u8 0, .int .u8 0])
  unfold pv
  go_enter Tryd.func62, Tryd.ntmps62
  go_upto_region 1 with fail
  generalize (w.alloc (.cells (pcs p) 24)).alloc (.cells #[.int .i32 0, .int .i32 0, .int .i32 0, .int .i32 0, .int .u8 0, .int .u8 0, .int .u8 0] 24) = wa at *
  obtain ⟨w1, s1, H1, _⟩ := H0.out.stO ty_i32 0 rfl 2 (.int .i32 0) (cs' := pcs { p with vx := 0 }) rfl rfl (Nat.le_of_ble_eq_true rfl) rfl rfl
  obtain ⟨w2, s2, H2, _⟩ := H1.stO ty_i32 0 rfl 3 (.int .i32 0) (cs' := pcs (haltP p)) rfl rfl (Nat.le_of_ble_eq_true rfl) rfl rfl
  have l1 := H2.ldA ty_player 0 rfl 0 (vs := pcs (haltP p)) rfl (Nat.le_refl _)
  obtain ⟨w3, s3, H3, _⟩ := H2.stA ty_player 1 rfl 0 (pcs (haltP p)) (cs' := pcs (haltP p)) rfl rfl (Nat.le_refl _) rfl rfl
  go_wp2
  refine bodyPost_ret (v := pv (haltP p)) (ret_struct Tryd.underlying24 ty_player _ 2 _ Tryd.results62 (H3.get 1 rfl) rfl rfl) rfl ⟨rfl, H3.be⟩
theorem apart_c (p q : Pl) (w : World) (hp : G.in32 p.x ∧ G.in32 p.y) (hq : G.in32 q.x ∧ G.in32 q.y) :
    Calls Tryd.prog 61 #[.agg #[.int .i32 p.x, .int .i32 p.y, .int .i32 p.vx, .int .i32 p.vy, .int .u8 (p.h : Int), .int .u8 (p.c : Int), .int .u8 (p.f : Int), .int .i32 q.x, .int .i32 q.y, .int .i32 q.vx, .int .i32 q.vy, .int .u8 (q.h : Int), .int .u8 (q.c : Int), .int .u8 (q.f : Int)]] w fun E w' => E = .returned (.bool (!decide (OvP p q))) ∧ Below w.heap.size w w' := by
  have H0 := Lib.hid (Loc.one w 25 #[.int .i32 p.x, .int .i32 p.y, .int .i32 p.vx, .int .i32 p.vy, .int .u8 (p.h : Int), .int .u8 (p.c : Int), .int .u8 (p.f : Int), .int .i32 q.x, .int .i32 q.y, .int .i32 q.vx, .int .i32 q.vy, .int .u8 (q.h : Int), .int .u8 (q.c : Int), .int .u8 (q.f : Int)])
  obtain ⟨b, hb⟩ : ∃ b, b = decide (OvP p q) := ⟨_, rfl⟩
  have C1 : Hid (∀ W, Calls Tryd.prog 66 #[.agg (pcs p)] W fun E w' => E = .returned (.agg #[.int .i32 p.x, .int .i32 p.y, .int .i32 4096, .int .i32 4096]) ∧ Below W.heap.size W w') := fun W => boxOf_c p W
  have C2 : Hid (∀ W, Calls Tryd.prog 66 #[.agg (pcs q)] W fun E w' => E = .returned (.agg #[.int .i32 q.x, .int .i32 q.y, .int .i32 4096, .int .i32 4096]) ∧ Below W.heap.size W w') := fun W => boxOf_c q W
  have C3 : Hid (∀ W, Calls Tryd.prog 65 #[.agg #[.int .i32 p.x, .int .i32 p.y, .int .i32 4096, .int .i32 4096], .agg #[.int .i32 q.x, .int .i32 q.y, .int .i32 4096, .int .i32 4096]] W fun E w' => E = .returned (.bool b) ∧ Below W.heap.size W w') := fun W => by
    rw [hb, ← ovr_box]
    exact G.over ⟨p.x, p.y, 4096, 4096⟩ ⟨q.x, q.y, 4096, 4096⟩ W ⟨hp.1, hp.2, box_in, box_in⟩ ⟨hq.1, hq.2, box_in, box_in⟩
  rw [← hb]
  clear hb
  go_enter Tryd.func61, Tryd.ntmps61
  go_upto_region 1 with fail
  generalize w.alloc (.cells #[.int .i32 p.x, .int .i32 p.y, .int .i32 p.vx, .int .i32 p.vy, .int .u8 (p.h : Int), .int .u8 (p.c : Int), .int .u8 (p.f : Int), .int .i32 q.x, .int .i32 q.y, .int .i32 q.vx, .int .i32 q.vy, .int .u8 (q.h : Int), .int .u8 (q.c : Int), .int .u8 (q.f : Int)] 25) = wa at *
  have a1 := H0.out.onA ty_player 0 rfl 0 (vs := pcs p) rfl (Nat.le_of_ble_eq_true rfl)
  have a2 := H0.out.onA ty_player 0 rfl 7 (vs := pcs q) rfl (Nat.le_of_ble_eq_true rfl)
  have o0 := G.On.drew wa.heap.size wa
  go_region_held3 (fun w' => G.On wa.heap.size wa w') (first | assumption) (first | (go_at_call 66; refine (C1.out _).mono ?_; rintro E w4 ⟨rfl, hb4⟩; have o4 := G.on_step (wd := wa) (by assumption) hb4) | (go_at_call 66; refine (C2.out _).mono ?_; rintro E w4 ⟨rfl, hb4⟩; have o4 := G.on_step (wd := wa) (by assumption) hb4) | (go_at_call 65; refine (C3.out _).mono ?_; rintro E w4 ⟨rfl, hb4⟩; have o4 := G.on_step (wd := wa) (by assumption) hb4))
  go_wp2
  go_ret
  exact ⟨rfl, H0.out.be.trans (Below.mono o4 H0.out.size)⟩
end Go.Proofs.YtgmbdadkahcpcaaDoor
