/- The program's frame: both players moved: contract. -/
import Derived.Test.YtgmbdadkahcpcaaDoorUb
namespace Go.Proofs.YtgmbdadkahcpcaaDoor
open Go.RowKit
set_option linter.unusedVariables false
set_option linter.unusedSimpArgs false
set_option maxRecDepth 20000

/-- Two players' cells. -/
abbrev pps (p q : Pl) : Array Value := #[.int .i32 p.x, .int .i32 p.y, .int .i32 p.vx, .int .i32 p.vy, .int .u8 (p.h : Int), .int .u8 (p.c : Int), .int .u8 (p.f : Int), .int .i32 q.x, .int .i32 q.y, .int .i32 q.vx, .int .i32 q.vy, .int .u8 (q.h : Int), .int .u8 (q.c : Int), .int .u8 (q.f : Int)]
/-- Z: no player at all. -/
abbrev zpl : Array Value := #[.int .i32 0, .int .i32 0, .int .i32 0, .int .i32 0, .int .u8 0, .int .u8 0, .int .u8 0]
abbrev zpp : Array Value := #[.int .i32 0, .int .i32 0, .int .i32 0, .int .i32 0, .int .u8 0, .int .u8 0, .int .u8 0, .int .i32 0, .int .i32 0, .int .i32 0, .int .i32 0, .int .u8 0, .int .u8 0, .int .u8 0]
theorem mv_eq (p : Pl) : G.mv p.x p.vx 0 61440 = (goP p).vx ∧ G.mv p.y p.vy 0 28672 = (goP p).vy := by
  refine ⟨?_, ?_⟩
  · show (if (61440 : Int) < 0 ∨ cut0 (p.x + p.vx) 61440 ≠ p.x + p.vx then 0 else p.vx) = if cut0 (p.x + p.vx) 61440 ≠ p.x + p.vx then 0 else p.vx
    simp
  · show (if (28672 : Int) < 0 ∨ cut0 (p.y + p.vy) 28672 ≠ p.y + p.vy then 0 else p.vy) = if cut0 (p.y + p.vy) 28672 ≠ p.y + p.vy then 0 else p.vy
    simp
theorem goP_in2 (p : Pl) : G.in32 (goP p).x ∧ G.in32 (goP p).y := by
  unfold G.in32 goP cut0
  simp only
  omega
theorem gomoves (p : Pl) (h : p.ok) :
    (∀ W, Calls Tryd.prog 60 #[.int .i32 p.x, .int .i32 p.vx, .int .i32 0, .int .i32 61440] W fun e w' => e = .returned (.tuple #[.int .i32 (goP p).x, .int .i32 (goP p).vx]) ∧ W = w') ∧
    (∀ W, Calls Tryd.prog 60 #[.int .i32 p.y, .int .i32 p.vy, .int .i32 0, .int .i32 28672] W fun e w' => e = .returned (.tuple #[.int .i32 (goP p).y, .int .i32 (goP p).vy]) ∧ W = w') := by
  have h1 := h.x
  have h2 := h.y
  have h3 := h.vx
  have h4 := h.vy
  refine ⟨fun W => ?_, fun W => ?_⟩
  · rw [← (mv_eq p).1]; exact G.move p.x p.vx 0 61440 W (by unfold G.in32; omega) (by unfold G.in32; omega) (by unfold G.in32; omega) (by unfold G.in32; omega)
  · rw [← (mv_eq p).2]; exact G.move p.y p.vy 0 28672 W (by unfold G.in32; omega) (by unfold G.in32; omega) (by unfold G.in32; omega) (by unfold G.in32; omega)
attribute [local go_sem ↓] ld_i32 ld_player ld_players st_i32 st_player st_players
set_option maxHeartbeats 2000000 in
theorem moved_c (p q : Pl) (w : World) (hp : p.ok) (hq : q.ok) :
    Calls Tryd.prog 44 #[.agg (pps p q)] w fun E w' => E = .returned (.agg (if OvP (goP p) (goP q) then pps (haltP p) (haltP q) else pps (goP p) (goP q))) ∧ Below w.heap.size w w' := by
  have MP := Lib.hid (gomoves p hp)
  have MQ := Lib.hid (gomoves q hq)
  have H0 := Lib.hid (Loc.two w 25 25 (pps p q) zpp)
  have HAP : Hid (∀ W, Calls Tryd.prog 61 #[.agg (pps (goP p) (goP q))] W fun E w' => E = .returned (.bool (!decide (OvP (goP p) (goP q)))) ∧ Below W.heap.size W w') := fun W => apart_c (goP p) (goP q) W (goP_in2 p) (goP_in2 q)
  have HSP : Hid (∀ W, Calls Tryd.prog 62 #[.agg (pcs p)] W fun E w' => E = .returned (.agg (pcs (haltP p))) ∧ Below W.heap.size W w') := fun W => stopped_c p W
  have HSQ : Hid (∀ W, Calls Tryd.prog 62 #[.agg (pcs q)] W fun E w' => E = .returned (.agg (pcs (haltP q))) ∧ Below W.heap.size W w') := fun W => stopped_c q W
  clear hp hq
  obtain ⟨b, hb⟩ : ∃ b, b = decide (OvP (goP p) (goP q)) := ⟨_, rfl⟩
  rw [← hb] at HAP
  obtain ⟨Q, hQ⟩ : ∃ Q : Ending → World → Prop, Q = fun E w' => E = .returned (.agg (if OvP (goP p) (goP q) then pps (haltP p) (haltP q) else pps (goP p) (goP q))) ∧ Below w.heap.size w w' := ⟨_, rfl⟩
  rw [← hQ]
  have HQ : Hid (∀ w', Below w.heap.size w w' → Q (.returned (.agg (if b = true then pps (haltP p) (haltP q) else pps (goP p) (goP q)))) w') := fun w' h => by
    rw [hQ, hb]; refine ⟨?_, h⟩
    by_cases hc : OvP (goP p) (goP q)
    · rw [if_pos hc, if_pos (decide_eq_true hc)]
    · rw [if_neg hc, if_neg (by rw [decide_eq_false hc]; decide)]
  clear hQ hb
  go_enter Tryd.func44, Tryd.ntmps44
  go_upto_region 1 with fail
  generalize (w.alloc (.cells (pps p q) 25)).alloc (.cells zpp 25) = wa at *
  have la1 := H0.out.ldA ty_players 0 rfl 0 (vs := #[.int .i32 p.x, .int .i32 p.y, .int .i32 p.vx, .int .i32 p.vy, .int .u8 (p.h : Int), .int .u8 (p.c : Int), .int .u8 (p.f : Int), .int .i32 q.x, .int .i32 q.y, .int .i32 q.vx, .int .i32 q.vy, .int .u8 (q.h : Int), .int .u8 (q.c : Int), .int .u8 (q.f : Int)]) rfl (Nat.le_of_ble_eq_true rfl)
  obtain ⟨g2, wa2, za5, sa3, Ha4, _⟩ := H0.out.newA ty_players zpp #[.int .i32 p.x, .int .i32 p.y, .int .i32 p.vx, .int .i32 p.vy, .int .u8 (p.h : Int), .int .u8 (p.c : Int), .int .u8 (p.f : Int), .int .i32 q.x, .int .i32 q.y, .int .i32 q.vx, .int .i32 q.vy, .int .u8 (q.h : Int), .int .u8 (q.c : Int), .int .u8 (q.f : Int)] rfl rfl rfl
  replace Ha4 : Loc _ _ _ [(w.heap.size, 25, #[.int .i32 p.x, .int .i32 p.y, .int .i32 p.vx, .int .i32 p.vy, .int .u8 (p.h : Int), .int .u8 (p.c : Int), .int .u8 (p.f : Int), .int .i32 q.x, .int .i32 q.y, .int .i32 q.vx, .int .i32 q.vy, .int .u8 (q.h : Int), .int .u8 (q.c : Int), .int .u8 (q.f : Int)]), (w.heap.size + 1, 25, #[.int .i32 0, .int .i32 0, .int .i32 0, .int .i32 0, .int .u8 0, .int .u8 0, .int .u8 0, .int .i32 0, .int .i32 0, .int .i32 0, .int .i32 0, .int .u8 0, .int .u8 0, .int .u8 0]), (g2, 25, #[.int .i32 p.x, .int .i32 p.y, .int .i32 p.vx, .int .i32 p.vy, .int .u8 (p.h : Int), .int .u8 (p.c : Int), .int .u8 (p.f : Int), .int .i32 q.x, .int .i32 q.y, .int .i32 q.vx, .int .i32 q.vy, .int .u8 (q.h : Int), .int .u8 (q.c : Int), .int .u8 (q.f : Int)])] := Ha4
  go_upto_region 3 with fail
  go_loopw [8] (fun v wr => ∃ k : Nat, k ≤ 2 ∧ v = .int .i64 k ∧ Hid (Loc w.heap.size w wr [(w.heap.size, 25, pps p q), (w.heap.size + 1, 25, zpp), (g2, 25, pps (if 0 < k then goP p else p) (if 1 < k then goP q else q))])) (fun v _ => 2 - (intOf v).toNat)
  case atStart => exact ⟨0, by omega, rfl, Ha4⟩
  case round =>
    clear za5 sa3 la1 H0
    obtain ⟨k, hk, rfl, HR⟩ := hrel
    match k, hk with
    | 0, _ =>
      rw [show ((0 : Nat) : Int) = 0 from rfl]
      have lr01 := HR.out.ldA ty_player 0 rfl 0 (vs := (pcs p)) rfl (Nat.le_of_ble_eq_true rfl)
      obtain ⟨gp, wr02, zr05, sr03, Hr04, _⟩ := HR.out.newA ty_player zpl #[.int .i32 p.x, .int .i32 p.y, .int .i32 p.vx, .int .i32 p.vy, .int .u8 (p.h : Int), .int .u8 (p.c : Int), .int .u8 (p.f : Int)] rfl rfl rfl
      replace Hr04 : Loc _ _ _ [(w.heap.size, 25, (pps p q)), (w.heap.size + 1, 25, zpp), (g2, 25, (pps p q)), (gp, 24, #[.int .i32 p.x, .int .i32 p.y, .int .i32 p.vx, .int .i32 p.vy, .int .u8 (p.h : Int), .int .u8 (p.c : Int), .int .u8 (p.f : Int)])] := Hr04
      have lr06 := Hr04.ldO ty_i32 3 rfl 0 (v := .int .i32 p.x) rfl
      have lr07 := Hr04.ldO ty_i32 3 rfl 2 (v := .int .i32 p.vx) rfl
      go_wp2_with fail
      refine (MP.out.1 _).mono ?_
      rintro E w4 ⟨rfl, rfl⟩
      obtain ⟨wr08, sr09, Hr010, _⟩ := Hr04.stO ty_i32 3 rfl 0 (.int .i32 (goP p).x) (cs' := #[.int .i32 (goP p).x, .int .i32 p.y, .int .i32 p.vx, .int .i32 p.vy, .int .u8 (p.h : Int), .int .u8 (p.c : Int), .int .u8 (p.f : Int)]) rfl (L' := [(w.heap.size, 25, (pps p q)), (w.heap.size + 1, 25, zpp), (g2, 25, (pps p q)), (gp, 24, #[.int .i32 (goP p).x, .int .i32 p.y, .int .i32 p.vx, .int .i32 p.vy, .int .u8 (p.h : Int), .int .u8 (p.c : Int), .int .u8 (p.f : Int)])]) rfl (Nat.le_of_ble_eq_true rfl) rfl rfl
      obtain ⟨wr011, sr012, Hr013, _⟩ := Hr010.stO ty_i32 3 rfl 2 (.int .i32 (goP p).vx) (cs' := #[.int .i32 (goP p).x, .int .i32 p.y, .int .i32 (goP p).vx, .int .i32 p.vy, .int .u8 (p.h : Int), .int .u8 (p.c : Int), .int .u8 (p.f : Int)]) rfl (L' := [(w.heap.size, 25, (pps p q)), (w.heap.size + 1, 25, zpp), (g2, 25, (pps p q)), (gp, 24, #[.int .i32 (goP p).x, .int .i32 p.y, .int .i32 (goP p).vx, .int .i32 p.vy, .int .u8 (p.h : Int), .int .u8 (p.c : Int), .int .u8 (p.f : Int)])]) rfl (Nat.le_of_ble_eq_true rfl) rfl rfl
      have lr014 := Hr013.ldO ty_i32 3 rfl 1 (v := .int .i32 p.y) rfl
      have lr015 := Hr013.ldO ty_i32 3 rfl 3 (v := .int .i32 p.vy) rfl
      go_wp2_with fail
      refine (MP.out.2 _).mono ?_
      rintro E w5 ⟨rfl, rfl⟩
      obtain ⟨wr016, sr017, Hr018, _⟩ := Hr013.stO ty_i32 3 rfl 1 (.int .i32 (goP p).y) (cs' := #[.int .i32 (goP p).x, .int .i32 (goP p).y, .int .i32 (goP p).vx, .int .i32 p.vy, .int .u8 (p.h : Int), .int .u8 (p.c : Int), .int .u8 (p.f : Int)]) rfl (L' := [(w.heap.size, 25, (pps p q)), (w.heap.size + 1, 25, zpp), (g2, 25, (pps p q)), (gp, 24, #[.int .i32 (goP p).x, .int .i32 (goP p).y, .int .i32 (goP p).vx, .int .i32 p.vy, .int .u8 (p.h : Int), .int .u8 (p.c : Int), .int .u8 (p.f : Int)])]) rfl (Nat.le_of_ble_eq_true rfl) rfl rfl
      obtain ⟨wr019, sr020, Hr021, _⟩ := Hr018.stO ty_i32 3 rfl 3 (.int .i32 (goP p).vy) (cs' := #[.int .i32 (goP p).x, .int .i32 (goP p).y, .int .i32 (goP p).vx, .int .i32 (goP p).vy, .int .u8 (p.h : Int), .int .u8 (p.c : Int), .int .u8 (p.f : Int)]) rfl (L' := [(w.heap.size, 25, (pps p q)), (w.heap.size + 1, 25, zpp), (g2, 25, (pps p q)), (gp, 24, #[.int .i32 (goP p).x, .int .i32 (goP p).y, .int .i32 (goP p).vx, .int .i32 (goP p).vy, .int .u8 (p.h : Int), .int .u8 (p.c : Int), .int .u8 (p.f : Int)])]) rfl (Nat.le_of_ble_eq_true rfl) rfl rfl
      have lr022 := Hr021.ldA ty_player 3 rfl 0 (vs := (pcs (goP p))) rfl (Nat.le_of_ble_eq_true rfl)
      obtain ⟨wr023, sr024, Hr025, _⟩ := Hr021.stA ty_player 2 rfl 0 (pcs (goP p)) (cs' := pps (goP p) q) rfl (L' := [(w.heap.size, 25, (pps p q)), (w.heap.size + 1, 25, zpp), (g2, 25, pps (goP p) q), (gp, 24, #[.int .i32 (goP p).x, .int .i32 (goP p).y, .int .i32 (goP p).vx, .int .i32 (goP p).vy, .int .u8 (p.h : Int), .int .u8 (p.c : Int), .int .u8 (p.f : Int)])]) rfl (Nat.le_of_ble_eq_true rfl) rfl rfl
      go_wp2
      go_roundw
      case rel => exact ⟨1, by omega, by go_num, Hr025.drop 3 rfl⟩
      case measure => simp [intOf]
    | 1, _ =>
      rw [show ((1 : Nat) : Int) = 1 from rfl]
      have lr11 := HR.out.ldA ty_player 0 rfl 7 (vs := (pcs q)) rfl (Nat.le_of_ble_eq_true rfl)
      obtain ⟨gp, wr12, zr15, sr13, Hr14, _⟩ := HR.out.newA ty_player zpl #[.int .i32 q.x, .int .i32 q.y, .int .i32 q.vx, .int .i32 q.vy, .int .u8 (q.h : Int), .int .u8 (q.c : Int), .int .u8 (q.f : Int)] rfl rfl rfl
      replace Hr14 : Loc _ _ _ [(w.heap.size, 25, (pps p q)), (w.heap.size + 1, 25, zpp), (g2, 25, (pps (goP p) q)), (gp, 24, #[.int .i32 q.x, .int .i32 q.y, .int .i32 q.vx, .int .i32 q.vy, .int .u8 (q.h : Int), .int .u8 (q.c : Int), .int .u8 (q.f : Int)])] := Hr14
      have lr16 := Hr14.ldO ty_i32 3 rfl 0 (v := .int .i32 q.x) rfl
      have lr17 := Hr14.ldO ty_i32 3 rfl 2 (v := .int .i32 q.vx) rfl
      go_wp2_with fail
      refine (MQ.out.1 _).mono ?_
      rintro E w4 ⟨rfl, rfl⟩
      obtain ⟨wr18, sr19, Hr110, _⟩ := Hr14.stO ty_i32 3 rfl 0 (.int .i32 (goP q).x) (cs' := #[.int .i32 (goP q).x, .int .i32 q.y, .int .i32 q.vx, .int .i32 q.vy, .int .u8 (q.h : Int), .int .u8 (q.c : Int), .int .u8 (q.f : Int)]) rfl (L' := [(w.heap.size, 25, (pps p q)), (w.heap.size + 1, 25, zpp), (g2, 25, (pps (goP p) q)), (gp, 24, #[.int .i32 (goP q).x, .int .i32 q.y, .int .i32 q.vx, .int .i32 q.vy, .int .u8 (q.h : Int), .int .u8 (q.c : Int), .int .u8 (q.f : Int)])]) rfl (Nat.le_of_ble_eq_true rfl) rfl rfl
      obtain ⟨wr111, sr112, Hr113, _⟩ := Hr110.stO ty_i32 3 rfl 2 (.int .i32 (goP q).vx) (cs' := #[.int .i32 (goP q).x, .int .i32 q.y, .int .i32 (goP q).vx, .int .i32 q.vy, .int .u8 (q.h : Int), .int .u8 (q.c : Int), .int .u8 (q.f : Int)]) rfl (L' := [(w.heap.size, 25, (pps p q)), (w.heap.size + 1, 25, zpp), (g2, 25, (pps (goP p) q)), (gp, 24, #[.int .i32 (goP q).x, .int .i32 q.y, .int .i32 (goP q).vx, .int .i32 q.vy, .int .u8 (q.h : Int), .int .u8 (q.c : Int), .int .u8 (q.f : Int)])]) rfl (Nat.le_of_ble_eq_true rfl) rfl rfl
      have lr114 := Hr113.ldO ty_i32 3 rfl 1 (v := .int .i32 q.y) rfl
      have lr115 := Hr113.ldO ty_i32 3 rfl 3 (v := .int .i32 q.vy) rfl
      go_wp2_with fail
      refine (MQ.out.2 _).mono ?_
      rintro E w5 ⟨rfl, rfl⟩
      obtain ⟨wr116, sr117, Hr118, _⟩ := Hr113.stO ty_i32 3 rfl 1 (.int .i32 (goP q).y) (cs' := #[.int .i32 (goP q).x, .int .i32 (goP q).y, .int .i32 (goP q).vx, .int .i32 q.vy, .int .u8 (q.h : Int), .int .u8 (q.c : Int), .int .u8 (q.f : Int)]) rfl (L' := [(w.heap.size, 25, (pps p q)), (w.heap.size + 1, 25, zpp), (g2, 25, (pps (goP p) q)), (gp, 24, #[.int .i32 (goP q).x, .int .i32 (goP q).y, .int .i32 (goP q).vx, .int .i32 q.vy, .int .u8 (q.h : Int), .int .u8 (q.c : Int), .int .u8 (q.f : Int)])]) rfl (Nat.le_of_ble_eq_true rfl) rfl rfl
      obtain ⟨wr119, sr120, Hr121, _⟩ := Hr118.stO ty_i32 3 rfl 3 (.int .i32 (goP q).vy) (cs' := #[.int .i32 (goP q).x, .int .i32 (goP q).y, .int .i32 (goP q).vx, .int .i32 (goP q).vy, .int .u8 (q.h : Int), .int .u8 (q.c : Int), .int .u8 (q.f : Int)]) rfl (L' := [(w.heap.size, 25, (pps p q)), (w.heap.size + 1, 25, zpp), (g2, 25, (pps (goP p) q)), (gp, 24, #[.int .i32 (goP q).x, .int .i32 (goP q).y, .int .i32 (goP q).vx, .int .i32 (goP q).vy, .int .u8 (q.h : Int), .int .u8 (q.c : Int), .int .u8 (q.f : Int)])]) rfl (Nat.le_of_ble_eq_true rfl) rfl rfl
      have lr122 := Hr121.ldA ty_player 3 rfl 0 (vs := (pcs (goP q))) rfl (Nat.le_of_ble_eq_true rfl)
      obtain ⟨wr123, sr124, Hr125, _⟩ := Hr121.stA ty_player 2 rfl 7 (pcs (goP q)) (cs' := pps (goP p) (goP q)) rfl (L' := [(w.heap.size, 25, (pps p q)), (w.heap.size + 1, 25, zpp), (g2, 25, pps (goP p) (goP q)), (gp, 24, #[.int .i32 (goP q).x, .int .i32 (goP q).y, .int .i32 (goP q).vx, .int .i32 (goP q).vy, .int .u8 (q.h : Int), .int .u8 (q.c : Int), .int .u8 (q.f : Int)])]) rfl (Nat.le_of_ble_eq_true rfl) rfl rfl
      go_wp2
      go_roundw
      case rel => exact ⟨2, by omega, by go_num, Hr125.drop 3 rfl⟩
      case measure => simp [intOf]
    | 2, _ =>
      rw [show ((2 : Nat) : Int) = 2 from rfl]
      have le1 := HR.out.ldA ty_players 2 rfl 0 (vs := (pps (goP p) (goP q))) rfl (Nat.le_of_ble_eq_true rfl)
      go_wp2_with fail
      refine (HAP.out _).mono ?_
      rintro E w4 ⟨rfl, hb4⟩
      clear le1
      have He2 := HR.out.to hb4
      cases b
      · have le3 := He2.ldA ty_players 2 rfl 0 (vs := (pps (goP p) (goP q))) rfl (Nat.le_of_ble_eq_true rfl)
        obtain ⟨we4, se5, He6, _⟩ := He2.stA ty_players 1 rfl 0 (pps (goP p) (goP q)) (cs' := pps (goP p) (goP q)) rfl (L' := [(w.heap.size, 25, (pps p q)), (w.heap.size + 1, 25, pps (goP p) (goP q)), (g2, 25, (pps (goP p) (goP q)))]) rfl (Nat.le_of_ble_eq_true rfl) rfl rfl
        go_wp2
        refine bodyPost_ret (v := .agg (pps (goP p) (goP q))) (ret_array Tryd.underlying25 ty_players _ 2 _ Tryd.results44 (He6.get 1 rfl) rfl rfl) rfl ?_
        exact HQ.out _ He6.be
      · go_wp2
        go_loopw [41] (fun v wr => ∃ k : Nat, k ≤ 2 ∧ v = .int .i64 k ∧ Hid (Loc w.heap.size w wr [(w.heap.size, 25, pps (if 0 < k then haltP p else p) (if 1 < k then haltP q else q)), (w.heap.size + 1, 25, zpp)])) (fun v _ => 2 - (intOf v).toNat)
        case atStart => exact ⟨0, by omega, rfl, He2.drop 2 rfl⟩
        case round =>
          clear HR hb4 He2
          obtain ⟨k, hk, rfl, HR⟩ := hrel
          match k, hk with
          | 0, _ =>
            rw [show ((0 : Nat) : Int) = 0 from rfl]
            have ls01 := HR.out.ldA ty_player 0 rfl 0 (vs := (pcs p)) rfl (Nat.le_of_ble_eq_true rfl)
            go_wp2_with fail
            refine (HSP.out _).mono ?_
            rintro E w5 ⟨rfl, hb5⟩
            have Hs02 := HR.out.to hb5
            obtain ⟨ws03, ss04, Hs05, _⟩ := Hs02.stA ty_player 0 rfl 0 (pcs (haltP p)) (cs' := pps (haltP p) q) rfl (L' := [(w.heap.size, 25, pps (haltP p) q), (w.heap.size + 1, 25, zpp)]) rfl (Nat.le_of_ble_eq_true rfl) rfl rfl
            go_wp2
            go_roundw
            case rel => exact ⟨1, by omega, by go_num, Hs05⟩
            case measure => simp [intOf]
          | 1, _ =>
            rw [show ((1 : Nat) : Int) = 1 from rfl]
            have ls11 := HR.out.ldA ty_player 0 rfl 7 (vs := (pcs q)) rfl (Nat.le_of_ble_eq_true rfl)
            go_wp2_with fail
            refine (HSQ.out _).mono ?_
            rintro E w5 ⟨rfl, hb5⟩
            have Hs12 := HR.out.to hb5
            obtain ⟨ws13, ss14, Hs15, _⟩ := Hs12.stA ty_player 0 rfl 7 (pcs (haltP q)) (cs' := pps (haltP p) (haltP q)) rfl (L' := [(w.heap.size, 25, pps (haltP p) (haltP q)), (w.heap.size + 1, 25, zpp)]) rfl (Nat.le_of_ble_eq_true rfl) rfl rfl
            go_wp2
            go_roundw
            case rel => exact ⟨2, by omega, by go_num, Hs15⟩
            case measure => simp [intOf]
          | 2, _ =>
            rw [show ((2 : Nat) : Int) = 2 from rfl]
            have lf1 := HR.out.ldA ty_players 0 rfl 0 (vs := (pps (haltP p) (haltP q))) rfl (Nat.le_of_ble_eq_true rfl)
            obtain ⟨wf2, sf3, Hf4, _⟩ := HR.out.stA ty_players 1 rfl 0 (pps (haltP p) (haltP q)) (cs' := pps (haltP p) (haltP q)) rfl (L' := [(w.heap.size, 25, (pps (haltP p) (haltP q))), (w.heap.size + 1, 25, pps (haltP p) (haltP q))]) rfl (Nat.le_of_ble_eq_true rfl) rfl rfl
            go_wp2
            refine bodyPost_ret (v := .agg (pps (haltP p) (haltP q))) (ret_array Tryd.underlying25 ty_players _ 2 _ Tryd.results44 (Hf4.get 1 rfl) rfl rfl) rfl ?_
            exact HQ.out _ Hf4.be
end Go.Proofs.YtgmbdadkahcpcaaDoor
