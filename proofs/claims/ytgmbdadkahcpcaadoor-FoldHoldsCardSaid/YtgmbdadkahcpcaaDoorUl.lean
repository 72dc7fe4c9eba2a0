/- The document's frame: 3, both players moved: contract. -/
import Derived.Test.YtgmbdadkahcpcaaDoorUk
namespace Go.Proofs.YtgmbdadkahcpcaaDoor
open Go.RowKit
set_option linter.unusedVariables false
set_option linter.unusedSimpArgs false
set_option maxRecDepth 20000

theorem refgoes (p : Pl) (h : p.ok) :
    (∀ W, Calls Tryd.prog 76 #[.int .i32 p.x, .int .i32 p.vx, .int .i32 0, .int .i32 61440] W fun e w' => e = .returned (.tuple #[.int .i32 (goP p).x, .int .i32 (goP p).vx]) ∧ W = w') ∧
    (∀ W, Calls Tryd.prog 76 #[.int .i32 p.y, .int .i32 p.vy, .int .i32 0, .int .i32 28672] W fun e w' => e = .returned (.tuple #[.int .i32 (goP p).y, .int .i32 (goP p).vy]) ∧ W = w') := by
  have h1 := h.x
  have h2 := h.y
  have h3 := h.vx
  have h4 := h.vy
  refine ⟨fun W => ?_, fun W => ?_⟩
  · rw [← (mv_eq p).1]; exact G.refMove p.x p.vx 0 61440 W (by unfold G.in32; omega) (by unfold G.in32; omega) (by unfold G.in32; omega) (by unfold G.in32; omega)
  · rw [← (mv_eq p).2]; exact G.refMove p.y p.vy 0 28672 W (by unfold G.in32; omega) (by unfold G.in32; omega) (by unfold G.in32; omega) (by unfold G.in32; omega)
/-- Both moved, so far; both stopped, so far. -/
def mvd (s : St) (k : Nat) : St := { s with p := if 0 < k then goP s.p else s.p, q := if 1 < k then goP s.q else s.q }
def hlt (s : St) (k : Nat) : St := { s with p := if 0 < k then haltP s.p else s.p, q := if 1 < k then haltP s.q else s.q }
attribute [local go_sem ↓] ld_i32 ld_player ld_players ld_state st_i32 st_player st_players st_state
set_option maxHeartbeats 4000000 in
theorem three_c (s : St) (ao : Option Addr) (cap : Nat) (w : World) (hp : s.p.ok) (hq : s.q.ok) :
    Calls Tryd.prog 51 #[sv s ao cap] w fun E w' => E = .returned (sv (three s) ao cap) ∧ Below w.heap.size w w' := by
  have MP := Lib.hid (refgoes s.p hp)
  have MQ := Lib.hid (refgoes s.q hq)
  clear hp hq
  have H0 := Lib.hid (Loc.two w 30 30 (stc s ao cap) zsc)
  obtain ⟨Q, hQ⟩ : ∃ Q : Ending → World → Prop, Q = fun E w' => E = .returned (sv (three s) ao cap) ∧ Below w.heap.size w w' := ⟨_, rfl⟩
  rw [← hQ]
  have HQ : Hid (∀ w', Below w.heap.size w w' → Q (.returned (sv (three s) ao cap)) w') := fun w' h => by rw [hQ]; exact ⟨rfl, h⟩
  clear hQ
  go_enter Tryd.func51, Tryd.ntmps51
  go_upto_region 1 with fail
  generalize (w.alloc (.cells (stc s ao cap) 30)).alloc (.cells zsc 30) = wa at *
  have la1 := H0.out.ldA ty_players 0 rfl 2 (vs := (pps s.p s.q)) rfl (Nat.le_of_ble_eq_true rfl)
  obtain ⟨g2, wa2, za5, sa3, Ha4, _⟩ := H0.out.newA ty_players zpp (pps s.p s.q) rfl rfl rfl
  replace Ha4 : Loc _ _ _ [(w.heap.size, 30, #[.int .u64 (s.fr : Int), .int .u64 (s.sd : Int), .int .i32 s.p.x, .int .i32 s.p.y, .int .i32 s.p.vx, .int .i32 s.p.vy, .int .u8 (s.p.h : Int), .int .u8 (s.p.c : Int), .int .u8 (s.p.f : Int), .int .i32 s.q.x, .int .i32 s.q.y, .int .i32 s.q.vx, .int .i32 s.q.vy, .int .u8 (s.q.h : Int), .int .u8 (s.q.c : Int), .int .u8 (s.q.f : Int), .slice ao s.ss.length cap, .int .u16 (s.s0 : Int), .int .u16 (s.s1 : Int)]), (w.heap.size + 1, 30, zsc), (g2, 25, #[.int .i32 s.p.x, .int .i32 s.p.y, .int .i32 s.p.vx, .int .i32 s.p.vy, .int .u8 (s.p.h : Int), .int .u8 (s.p.c : Int), .int .u8 (s.p.f : Int), .int .i32 s.q.x, .int .i32 s.q.y, .int .i32 s.q.vx, .int .i32 s.q.vy, .int .u8 (s.q.h : Int), .int .u8 (s.q.c : Int), .int .u8 (s.q.f : Int)])] := Ha4
  go_upto_region 3 with fail
  go_loopw [4] (fun v wr => ∃ k : Nat, k ≤ 2 ∧ v = .int .i64 k ∧ Hid (Loc w.heap.size w wr [(w.heap.size, 30, stc (mvd s k) ao cap), (w.heap.size + 1, 30, zsc), (g2, 25, pps s.p s.q)])) (fun v _ => 2 - (intOf v).toNat)
  case atStart => exact ⟨0, by omega, rfl, Ha4⟩
  case round =>
    clear za5 sa3 la1 Ha4 H0
    obtain ⟨k, hk, rfl, HR⟩ := hrel
    match k, hk with
    | 0, _ =>
      rw [show ((0 : Nat) : Int) = 0 from rfl]
      have lr01 := HR.out.ldA ty_player 0 rfl 2 (vs := (pcs s.p)) rfl (Nat.le_of_ble_eq_true rfl)
      obtain ⟨g3, wr02, zr05, sr03, Hr04, _⟩ := HR.out.newA ty_player zpl (pcs s.p) rfl rfl rfl
      replace Hr04 : Loc _ _ _ [(w.heap.size, 30, #[.int .u64 (s.fr : Int), .int .u64 (s.sd : Int), .int .i32 s.p.x, .int .i32 s.p.y, .int .i32 s.p.vx, .int .i32 s.p.vy, .int .u8 (s.p.h : Int), .int .u8 (s.p.c : Int), .int .u8 (s.p.f : Int), .int .i32 s.q.x, .int .i32 s.q.y, .int .i32 s.q.vx, .int .i32 s.q.vy, .int .u8 (s.q.h : Int), .int .u8 (s.q.c : Int), .int .u8 (s.q.f : Int), .slice ao s.ss.length cap, .int .u16 (s.s0 : Int), .int .u16 (s.s1 : Int)]), (w.heap.size + 1, 30, zsc), (g2, 25, #[.int .i32 s.p.x, .int .i32 s.p.y, .int .i32 s.p.vx, .int .i32 s.p.vy, .int .u8 (s.p.h : Int), .int .u8 (s.p.c : Int), .int .u8 (s.p.f : Int), .int .i32 s.q.x, .int .i32 s.q.y, .int .i32 s.q.vx, .int .i32 s.q.vy, .int .u8 (s.q.h : Int), .int .u8 (s.q.c : Int), .int .u8 (s.q.f : Int)]), (g3, 24, #[.int .i32 s.p.x, .int .i32 s.p.y, .int .i32 s.p.vx, .int .i32 s.p.vy, .int .u8 (s.p.h : Int), .int .u8 (s.p.c : Int), .int .u8 (s.p.f : Int)])] := Hr04
      go_upto_region 6 with fail
      have HLO : Hid (∀ e ∈ [(w.heap.size, 30, stc (mvd s 0) ao cap), (w.heap.size + 1, 30, zsc), (g2, 25, pps s.p s.q)], e.1 < g3) := fun e he => by have := HR.out.low he; rw [zr05] at this; exact this
      clear zr05 sr03 lr01
      have HB1 : ∀ W, G.On g3 wr02 W → Loc w.heap.size w W [(w.heap.size, 30, stc (mvd s 0) ao cap), (w.heap.size + 1, 30, zsc), (g2, 25, pps s.p s.q)] := fun W hW => (show Loc w.heap.size w wr02 [(w.heap.size, 30, stc (mvd s 0) ao cap), (w.heap.size + 1, 30, zsc), (g2, 25, pps s.p s.q)] from Hr04.drop 3 rfl).toB hW (Hr04.bge 3 rfl) HLO.out
      have a1 := fun W hW => (HB1 W hW).ldO ty_i32 2 rfl 0 (v := .int .i32 s.p.x) rfl
      have a2 := fun W hW => (HB1 W hW).ldO ty_i32 2 rfl 2 (v := .int .i32 s.p.vx) rfl
      have hg3 : g3 ≤ wr02.heap.size := Nat.le_of_lt (Hr04.get 3 rfl).lt
      clear HB1
      have o0 : G.On g3 wr02 wr02.drew := G.On.drew g3 wr02
      refine wp_region_till (S := fun w' => G.On g3 wr02 w') (by kernel_rfl) ?_
      refine wpTill_take (i := 0) (v := ?vc000) rfl (by kernel_rfl) (fun _ _ _ h => h) (Or.inl ⟨by rfl, ?hyc000⟩) o0 ?restc000
      case hyc000 => (intro W hW; (try dsimp only at hW); go_simp; try with_reducible rfl)
      simp only [Act.put, List.setIfInBounds_toArray, List.set_cons_zero, List.set_cons_succ]
      refine wpTill_take (i := 1) (v := ?vc001) rfl (by kernel_rfl) (fun _ _ _ h => h) (Or.inl ⟨by rfl, ?hyc001⟩) o0 ?restc001
      case hyc001 => (intro W hW; (try dsimp only at hW); go_simp; try with_reducible rfl)
      simp only [Act.put, List.setIfInBounds_toArray, List.set_cons_zero, List.set_cons_succ]
      refine wpTill_take (i := 2) (v := ?vc002) rfl (by kernel_rfl) (fun _ _ _ h => h) (Or.inl ⟨by rfl, ?hyc002⟩) o0 ?restc002
      case hyc002 => (intro W hW; (try dsimp only at hW); go_simp; try with_reducible rfl)
      simp only [Act.put, List.setIfInBounds_toArray, List.set_cons_zero, List.set_cons_succ]
      refine wpTill_take (i := 3) (v := ?vc003) rfl (by kernel_rfl) (fun _ _ _ h => h) (Or.inl ⟨by rfl, ?hyc003⟩) o0 ?restc003
      case hyc003 => (intro W hW; (try dsimp only at hW); go_simp; try with_reducible rfl)
      simp only [Act.put, List.setIfInBounds_toArray, List.set_cons_zero, List.set_cons_succ]
      refine wpTill_take (i := 4) (v := ?vc004) rfl (by kernel_rfl) (fun _ _ _ h => h) (Or.inl ⟨by rfl, ?hyc004⟩) o0 ?restc004
      case hyc004 => (intro W hW; (try dsimp only at hW); go_simp; try with_reducible rfl)
      simp only [Act.put, List.setIfInBounds_toArray, List.set_cons_zero, List.set_cons_succ]
      refine wpTill_take (i := 5) (v := ?vc005) rfl (by kernel_rfl) (fun _ _ _ h => h) (Or.inl ⟨by rfl, ?hyc005⟩) o0 ?restc005
      case hyc005 => (intro W hW; (try dsimp only at hW); go_simp; try with_reducible rfl)
      simp only [Act.put, List.setIfInBounds_toArray, List.set_cons_zero, List.set_cons_succ]
      refine wpTill_take (i := 6) (v := ?vc006) rfl (by kernel_rfl) (fun _ _ _ h => h) (Or.inl ⟨by rfl, ?hyc006⟩) o0 ?restc006
      case hyc006 => (intro W hW; (try dsimp only at hW); go_simp; try with_reducible rfl)
      simp only [Act.put, List.setIfInBounds_toArray, List.set_cons_zero, List.set_cons_succ]
      refine wpTill_take (i := 7) (v := ?vc007) rfl (by kernel_rfl) (fun _ _ _ h => h) (Or.inl ⟨by rfl, ?hyc007⟩) o0 ?restc007
      case hyc007 => (intro W hW; (try dsimp only at hW); go_simp; try with_reducible rfl)
      simp only [Act.put, List.setIfInBounds_toArray, List.set_cons_zero, List.set_cons_succ]
      refine wpTill_run (i := 8) (by kernel_rfl) rfl o0 (fun K hK => ?_)
      go_simp
      go_at_call 76
      refine (MP.out.1 _).mono ?_
      rintro E w4 ⟨rfl, rfl⟩
      refine hK _ _ ?_
      clear hK K
      refine wpTill_take (i := 9) (v := ?vc009) rfl (by kernel_rfl) (fun _ _ _ h => h) (Or.inl ⟨by rfl, ?hyc009⟩) o0 ?restc009
      case hyc009 => (intro W hW; (try dsimp only at hW); go_simp; try with_reducible rfl)
      simp only [Act.put, List.setIfInBounds_toArray, List.set_cons_zero, List.set_cons_succ]
      refine wpTill_take (i := 10) (v := ?vc0010) rfl (by kernel_rfl) (fun _ _ _ h => h) (Or.inl ⟨by rfl, ?hyc0010⟩) o0 ?restc0010
      case hyc0010 => (intro W hW; (try dsimp only at hW); go_simp; try with_reducible rfl)
      simp only [Act.put, List.setIfInBounds_toArray, List.set_cons_zero, List.set_cons_succ]
      refine wpTill_take (i := 11) (v := ?vc0011) rfl (by kernel_rfl) (fun _ _ _ h => h) (Or.inl ⟨by rfl, ?hyc0011⟩) o0 ?restc0011
      case hyc0011 => (intro W hW; (try dsimp only at hW); go_simp; try with_reducible rfl)
      simp only [Act.put, List.setIfInBounds_toArray, List.set_cons_zero, List.set_cons_succ]
      refine wpTill_run (i := 12) (by kernel_rfl) rfl o0 (fun K hK => ?_)
      go_simp
      refine hK _ _ ?_
      clear hK K
      refine wpTill_run (i := 13) (by kernel_rfl) rfl o0 (fun K hK => ?_)
      obtain ⟨wr06, sr07, Hr08, hq013⟩ := Hr04.drew.stO ty_i32 3 rfl 0 (.int .i32 (goP s.p).x) (cs' := #[.int .i32 (goP s.p).x, .int .i32 s.p.y, .int .i32 s.p.vx, .int .i32 s.p.vy, .int .u8 (s.p.h : Int), .int .u8 (s.p.c : Int), .int .u8 (s.p.f : Int)]) rfl (L' := [(w.heap.size, 30, #[.int .u64 (s.fr : Int), .int .u64 (s.sd : Int), .int .i32 s.p.x, .int .i32 s.p.y, .int .i32 s.p.vx, .int .i32 s.p.vy, .int .u8 (s.p.h : Int), .int .u8 (s.p.c : Int), .int .u8 (s.p.f : Int), .int .i32 s.q.x, .int .i32 s.q.y, .int .i32 s.q.vx, .int .i32 s.q.vy, .int .u8 (s.q.h : Int), .int .u8 (s.q.c : Int), .int .u8 (s.q.f : Int), .slice ao s.ss.length cap, .int .u16 (s.s0 : Int), .int .u16 (s.s1 : Int)]), (w.heap.size + 1, 30, zsc), (g2, 25, #[.int .i32 s.p.x, .int .i32 s.p.y, .int .i32 s.p.vx, .int .i32 s.p.vy, .int .u8 (s.p.h : Int), .int .u8 (s.p.c : Int), .int .u8 (s.p.f : Int), .int .i32 s.q.x, .int .i32 s.q.y, .int .i32 s.q.vx, .int .i32 s.q.vy, .int .u8 (s.q.h : Int), .int .u8 (s.q.c : Int), .int .u8 (s.q.f : Int)]), (g3, 24, #[.int .i32 (goP s.p).x, .int .i32 s.p.y, .int .i32 s.p.vx, .int .i32 s.p.vy, .int .u8 (s.p.h : Int), .int .u8 (s.p.c : Int), .int .u8 (s.p.f : Int)])]) rfl (Nat.le_of_ble_eq_true rfl) rfl rfl
      go_simp
      have o5 : G.On g3 wr02 wr06 := Below.trans o0 (grown_nb hq013 (fun q e => by cases e; exact Nat.le_refl _) hg3)
      refine hK _ _ ?_
      clear hK K
      refine wpTill_run (i := 14) (by kernel_rfl) rfl o5 (fun K hK => ?_)
      go_simp
      refine hK _ _ ?_
      clear hK K
      refine wpTill_run (i := 15) (by kernel_rfl) rfl o5 (fun K hK => ?_)
      obtain ⟨wr09, sr010, Hr011, hq015⟩ := Hr08.stO ty_i32 3 rfl 2 (.int .i32 (goP s.p).vx) (cs' := #[.int .i32 (goP s.p).x, .int .i32 s.p.y, .int .i32 (goP s.p).vx, .int .i32 s.p.vy, .int .u8 (s.p.h : Int), .int .u8 (s.p.c : Int), .int .u8 (s.p.f : Int)]) rfl (L' := [(w.heap.size, 30, #[.int .u64 (s.fr : Int), .int .u64 (s.sd : Int), .int .i32 s.p.x, .int .i32 s.p.y, .int .i32 s.p.vx, .int .i32 s.p.vy, .int .u8 (s.p.h : Int), .int .u8 (s.p.c : Int), .int .u8 (s.p.f : Int), .int .i32 s.q.x, .int .i32 s.q.y, .int .i32 s.q.vx, .int .i32 s.q.vy, .int .u8 (s.q.h : Int), .int .u8 (s.q.c : Int), .int .u8 (s.q.f : Int), .slice ao s.ss.length cap, .int .u16 (s.s0 : Int), .int .u16 (s.s1 : Int)]), (w.heap.size + 1, 30, zsc), (g2, 25, #[.int .i32 s.p.x, .int .i32 s.p.y, .int .i32 s.p.vx, .int .i32 s.p.vy, .int .u8 (s.p.h : Int), .int .u8 (s.p.c : Int), .int .u8 (s.p.f : Int), .int .i32 s.q.x, .int .i32 s.q.y, .int .i32 s.q.vx, .int .i32 s.q.vy, .int .u8 (s.q.h : Int), .int .u8 (s.q.c : Int), .int .u8 (s.q.f : Int)]), (g3, 24, #[.int .i32 (goP s.p).x, .int .i32 s.p.y, .int .i32 (goP s.p).vx, .int .i32 s.p.vy, .int .u8 (s.p.h : Int), .int .u8 (s.p.c : Int), .int .u8 (s.p.f : Int)])]) rfl (Nat.le_of_ble_eq_true rfl) rfl rfl
      go_simp
      refine hK _ _ ?_
      clear hK K
      refine wpTill_done (by kernel_rfl) ?_
      go_upto_region 7 with fail
      clear a1 a2 o0 o5 hg3 hq013 hq015
      clear sr010 sr07
      have HB1 : ∀ W, G.On g3 wr09 W → Loc w.heap.size w W [(w.heap.size, 30, stc (mvd s 0) ao cap), (w.heap.size + 1, 30, zsc), (g2, 25, pps s.p s.q)] := fun W hW => (show Loc w.heap.size w wr09 [(w.heap.size, 30, stc (mvd s 0) ao cap), (w.heap.size + 1, 30, zsc), (g2, 25, pps s.p s.q)] from Hr011.drop 3 rfl).toB hW (Hr011.bge 3 rfl) HLO.out
      have a1 := fun W hW => (HB1 W hW).ldO ty_i32 2 rfl 1 (v := .int .i32 s.p.y) rfl
      have a2 := fun W hW => (HB1 W hW).ldO ty_i32 2 rfl 3 (v := .int .i32 s.p.vy) rfl
      have hg3 : g3 ≤ wr09.heap.size := Nat.le_of_lt (Hr011.get 3 rfl).lt
      clear HB1
      have o0 : G.On g3 wr09 wr09.drew := G.On.drew g3 wr09
      refine wp_region_till (S := fun w' => G.On g3 wr09 w') (by kernel_rfl) ?_
      refine wpTill_take (i := 0) (v := ?vc010) rfl (by kernel_rfl) (fun _ _ _ h => h) (Or.inl ⟨by rfl, ?hyc010⟩) o0 ?restc010
      case hyc010 => (intro W hW; (try dsimp only at hW); go_simp; try with_reducible rfl)
      simp only [Act.put, List.setIfInBounds_toArray, List.set_cons_zero, List.set_cons_succ]
      refine wpTill_take (i := 1) (v := ?vc011) rfl (by kernel_rfl) (fun _ _ _ h => h) (Or.inl ⟨by rfl, ?hyc011⟩) o0 ?restc011
      case hyc011 => (intro W hW; (try dsimp only at hW); go_simp; try with_reducible rfl)
      simp only [Act.put, List.setIfInBounds_toArray, List.set_cons_zero, List.set_cons_succ]
      refine wpTill_take (i := 2) (v := ?vc012) rfl (by kernel_rfl) (fun _ _ _ h => h) (Or.inl ⟨by rfl, ?hyc012⟩) o0 ?restc012
      case hyc012 => (intro W hW; (try dsimp only at hW); go_simp; try with_reducible rfl)
      simp only [Act.put, List.setIfInBounds_toArray, List.set_cons_zero, List.set_cons_succ]
      refine wpTill_take (i := 3) (v := ?vc013) rfl (by kernel_rfl) (fun _ _ _ h => h) (Or.inl ⟨by rfl, ?hyc013⟩) o0 ?restc013
      case hyc013 => (intro W hW; (try dsimp only at hW); go_simp; try with_reducible rfl)
      simp only [Act.put, List.setIfInBounds_toArray, List.set_cons_zero, List.set_cons_succ]
      refine wpTill_take (i := 4) (v := ?vc014) rfl (by kernel_rfl) (fun _ _ _ h => h) (Or.inl ⟨by rfl, ?hyc014⟩) o0 ?restc014
      case hyc014 => (intro W hW; (try dsimp only at hW); go_simp; try with_reducible rfl)
      simp only [Act.put, List.setIfInBounds_toArray, List.set_cons_zero, List.set_cons_succ]
      refine wpTill_take (i := 5) (v := ?vc015) rfl (by kernel_rfl) (fun _ _ _ h => h) (Or.inl ⟨by rfl, ?hyc015⟩) o0 ?restc015
      case hyc015 => (intro W hW; (try dsimp only at hW); go_simp; try with_reducible rfl)
      simp only [Act.put, List.setIfInBounds_toArray, List.set_cons_zero, List.set_cons_succ]
      refine wpTill_take (i := 6) (v := ?vc016) rfl (by kernel_rfl) (fun _ _ _ h => h) (Or.inl ⟨by rfl, ?hyc016⟩) o0 ?restc016
      case hyc016 => (intro W hW; (try dsimp only at hW); go_simp; try with_reducible rfl)
      simp only [Act.put, List.setIfInBounds_toArray, List.set_cons_zero, List.set_cons_succ]
      refine wpTill_take (i := 7) (v := ?vc017) rfl (by kernel_rfl) (fun _ _ _ h => h) (Or.inl ⟨by rfl, ?hyc017⟩) o0 ?restc017
      case hyc017 => (intro W hW; (try dsimp only at hW); go_simp; try with_reducible rfl)
      simp only [Act.put, List.setIfInBounds_toArray, List.set_cons_zero, List.set_cons_succ]
      refine wpTill_run (i := 8) (by kernel_rfl) rfl o0 (fun K hK => ?_)
      go_simp
      go_at_call 76
      refine (MP.out.2 _).mono ?_
      rintro E w4 ⟨rfl, rfl⟩
      refine hK _ _ ?_
      clear hK K
      refine wpTill_take (i := 9) (v := ?vc019) rfl (by kernel_rfl) (fun _ _ _ h => h) (Or.inl ⟨by rfl, ?hyc019⟩) o0 ?restc019
      case hyc019 => (intro W hW; (try dsimp only at hW); go_simp; try with_reducible rfl)
      simp only [Act.put, List.setIfInBounds_toArray, List.set_cons_zero, List.set_cons_succ]
      refine wpTill_take (i := 10) (v := ?vc0110) rfl (by kernel_rfl) (fun _ _ _ h => h) (Or.inl ⟨by rfl, ?hyc0110⟩) o0 ?restc0110
      case hyc0110 => (intro W hW; (try dsimp only at hW); go_simp; try with_reducible rfl)
      simp only [Act.put, List.setIfInBounds_toArray, List.set_cons_zero, List.set_cons_succ]
      refine wpTill_take (i := 11) (v := ?vc0111) rfl (by kernel_rfl) (fun _ _ _ h => h) (Or.inl ⟨by rfl, ?hyc0111⟩) o0 ?restc0111
      case hyc0111 => (intro W hW; (try dsimp only at hW); go_simp; try with_reducible rfl)
      simp only [Act.put, List.setIfInBounds_toArray, List.set_cons_zero, List.set_cons_succ]
      refine wpTill_run (i := 12) (by kernel_rfl) rfl o0 (fun K hK => ?_)
      go_simp
      refine hK _ _ ?_
      clear hK K
      refine wpTill_run (i := 13) (by kernel_rfl) rfl o0 (fun K hK => ?_)
      obtain ⟨wr012, sr013, Hr014, hq113⟩ := Hr011.drew.stO ty_i32 3 rfl 1 (.int .i32 (goP s.p).y) (cs' := #[.int .i32 (goP s.p).x, .int .i32 (goP s.p).y, .int .i32 (goP s.p).vx, .int .i32 s.p.vy, .int .u8 (s.p.h : Int), .int .u8 (s.p.c : Int), .int .u8 (s.p.f : Int)]) rfl (L' := [(w.heap.size, 30, #[.int .u64 (s.fr : Int), .int .u64 (s.sd : Int), .int .i32 s.p.x, .int .i32 s.p.y, .int .i32 s.p.vx, .int .i32 s.p.vy, .int .u8 (s.p.h : Int), .int .u8 (s.p.c : Int), .int .u8 (s.p.f : Int), .int .i32 s.q.x, .int .i32 s.q.y, .int .i32 s.q.vx, .int .i32 s.q.vy, .int .u8 (s.q.h : Int), .int .u8 (s.q.c : Int), .int .u8 (s.q.f : Int), .slice ao s.ss.length cap, .int .u16 (s.s0 : Int), .int .u16 (s.s1 : Int)]), (w.heap.size + 1, 30, zsc), (g2, 25, #[.int .i32 s.p.x, .int .i32 s.p.y, .int .i32 s.p.vx, .int .i32 s.p.vy, .int .u8 (s.p.h : Int), .int .u8 (s.p.c : Int), .int .u8 (s.p.f : Int), .int .i32 s.q.x, .int .i32 s.q.y, .int .i32 s.q.vx, .int .i32 s.q.vy, .int .u8 (s.q.h : Int), .int .u8 (s.q.c : Int), .int .u8 (s.q.f : Int)]), (g3, 24, #[.int .i32 (goP s.p).x, .int .i32 (goP s.p).y, .int .i32 (goP s.p).vx, .int .i32 s.p.vy, .int .u8 (s.p.h : Int), .int .u8 (s.p.c : Int), .int .u8 (s.p.f : Int)])]) rfl (Nat.le_of_ble_eq_true rfl) rfl rfl
      go_simp
      have o5 : G.On g3 wr09 wr012 := Below.trans o0 (grown_nb hq113 (fun q e => by cases e; exact Nat.le_refl _) hg3)
      refine hK _ _ ?_
      clear hK K
      refine wpTill_run (i := 14) (by kernel_rfl) rfl o5 (fun K hK => ?_)
      go_simp
      refine hK _ _ ?_
      clear hK K
      refine wpTill_run (i := 15) (by kernel_rfl) rfl o5 (fun K hK => ?_)
      obtain ⟨wr015, sr016, Hr017, hq115⟩ := Hr014.stO ty_i32 3 rfl 3 (.int .i32 (goP s.p).vy) (cs' := #[.int .i32 (goP s.p).x, .int .i32 (goP s.p).y, .int .i32 (goP s.p).vx, .int .i32 (goP s.p).vy, .int .u8 (s.p.h : Int), .int .u8 (s.p.c : Int), .int .u8 (s.p.f : Int)]) rfl (L' := [(w.heap.size, 30, #[.int .u64 (s.fr : Int), .int .u64 (s.sd : Int), .int .i32 s.p.x, .int .i32 s.p.y, .int .i32 s.p.vx, .int .i32 s.p.vy, .int .u8 (s.p.h : Int), .int .u8 (s.p.c : Int), .int .u8 (s.p.f : Int), .int .i32 s.q.x, .int .i32 s.q.y, .int .i32 s.q.vx, .int .i32 s.q.vy, .int .u8 (s.q.h : Int), .int .u8 (s.q.c : Int), .int .u8 (s.q.f : Int), .slice ao s.ss.length cap, .int .u16 (s.s0 : Int), .int .u16 (s.s1 : Int)]), (w.heap.size + 1, 30, zsc), (g2, 25, #[.int .i32 s.p.x, .int .i32 s.p.y, .int .i32 s.p.vx, .int .i32 s.p.vy, .int .u8 (s.p.h : Int), .int .u8 (s.p.c : Int), .int .u8 (s.p.f : Int), .int .i32 s.q.x, .int .i32 s.q.y, .int .i32 s.q.vx, .int .i32 s.q.vy, .int .u8 (s.q.h : Int), .int .u8 (s.q.c : Int), .int .u8 (s.q.f : Int)]), (g3, 24, #[.int .i32 (goP s.p).x, .int .i32 (goP s.p).y, .int .i32 (goP s.p).vx, .int .i32 (goP s.p).vy, .int .u8 (s.p.h : Int), .int .u8 (s.p.c : Int), .int .u8 (s.p.f : Int)])]) rfl (Nat.le_of_ble_eq_true rfl) rfl rfl
      go_simp
      refine hK _ _ ?_
      clear hK K
      refine wpTill_done (by kernel_rfl) ?_
      go_upto_region 8 with fail
      clear a1 a2 o0 o5 hg3 hq113 hq115
      clear sr016 sr013
      have lr018 := Hr017.ldA ty_player 3 rfl 0 (vs := (pcs (goP s.p))) rfl (Nat.le_of_ble_eq_true rfl)
      obtain ⟨wr019, sr020, Hr021, _⟩ := Hr017.stA ty_player 0 rfl 2 (pcs (goP s.p)) (cs' := stc (mvd s 1) ao cap) rfl (L' := [(w.heap.size, 30, stc (mvd s 1) ao cap), (w.heap.size + 1, 30, zsc), (g2, 25, #[.int .i32 s.p.x, .int .i32 s.p.y, .int .i32 s.p.vx, .int .i32 s.p.vy, .int .u8 (s.p.h : Int), .int .u8 (s.p.c : Int), .int .u8 (s.p.f : Int), .int .i32 s.q.x, .int .i32 s.q.y, .int .i32 s.q.vx, .int .i32 s.q.vy, .int .u8 (s.q.h : Int), .int .u8 (s.q.c : Int), .int .u8 (s.q.f : Int)]), (g3, 24, #[.int .i32 (goP s.p).x, .int .i32 (goP s.p).y, .int .i32 (goP s.p).vx, .int .i32 (goP s.p).vy, .int .u8 (s.p.h : Int), .int .u8 (s.p.c : Int), .int .u8 (s.p.f : Int)])]) rfl (Nat.le_of_ble_eq_true rfl) rfl rfl
      go_wp2
      go_roundw
      case rel => exact ⟨1, by omega, by go_num, Hr021.drop 3 rfl⟩
      case measure => simp [intOf]
    | 1, _ =>
      rw [show ((1 : Nat) : Int) = 1 from rfl]
      have lr11 := HR.out.ldA ty_player 0 rfl 9 (vs := (pcs s.q)) rfl (Nat.le_of_ble_eq_true rfl)
      obtain ⟨g3, wr12, zr15, sr13, Hr14, _⟩ := HR.out.newA ty_player zpl (pcs s.q) rfl rfl rfl
      replace Hr14 : Loc _ _ _ [(w.heap.size, 30, #[.int .u64 (s.fr : Int), .int .u64 (s.sd : Int), .int .i32 (goP s.p).x, .int .i32 (goP s.p).y, .int .i32 (goP s.p).vx, .int .i32 (goP s.p).vy, .int .u8 ((goP s.p).h : Int), .int .u8 ((goP s.p).c : Int), .int .u8 ((goP s.p).f : Int), .int .i32 s.q.x, .int .i32 s.q.y, .int .i32 s.q.vx, .int .i32 s.q.vy, .int .u8 (s.q.h : Int), .int .u8 (s.q.c : Int), .int .u8 (s.q.f : Int), .slice ao s.ss.length cap, .int .u16 (s.s0 : Int), .int .u16 (s.s1 : Int)]), (w.heap.size + 1, 30, zsc), (g2, 25, #[.int .i32 s.p.x, .int .i32 s.p.y, .int .i32 s.p.vx, .int .i32 s.p.vy, .int .u8 (s.p.h : Int), .int .u8 (s.p.c : Int), .int .u8 (s.p.f : Int), .int .i32 s.q.x, .int .i32 s.q.y, .int .i32 s.q.vx, .int .i32 s.q.vy, .int .u8 (s.q.h : Int), .int .u8 (s.q.c : Int), .int .u8 (s.q.f : Int)]), (g3, 24, #[.int .i32 s.q.x, .int .i32 s.q.y, .int .i32 s.q.vx, .int .i32 s.q.vy, .int .u8 (s.q.h : Int), .int .u8 (s.q.c : Int), .int .u8 (s.q.f : Int)])] := Hr14
      go_upto_region 6 with fail
      have HLO : Hid (∀ e ∈ [(w.heap.size, 30, stc (mvd s 1) ao cap), (w.heap.size + 1, 30, zsc), (g2, 25, pps s.p s.q)], e.1 < g3) := fun e he => by have := HR.out.low he; rw [zr15] at this; exact this
      clear zr15 sr13 lr11
      have HB1 : ∀ W, G.On g3 wr12 W → Loc w.heap.size w W [(w.heap.size, 30, stc (mvd s 1) ao cap), (w.heap.size + 1, 30, zsc), (g2, 25, pps s.p s.q)] := fun W hW => (show Loc w.heap.size w wr12 [(w.heap.size, 30, stc (mvd s 1) ao cap), (w.heap.size + 1, 30, zsc), (g2, 25, pps s.p s.q)] from Hr14.drop 3 rfl).toB hW (Hr14.bge 3 rfl) HLO.out
      have a1 := fun W hW => (HB1 W hW).ldO ty_i32 2 rfl 7 (v := .int .i32 s.q.x) rfl
      have a2 := fun W hW => (HB1 W hW).ldO ty_i32 2 rfl 9 (v := .int .i32 s.q.vx) rfl
      have hg3 : g3 ≤ wr12.heap.size := Nat.le_of_lt (Hr14.get 3 rfl).lt
      clear HB1
      have o0 : G.On g3 wr12 wr12.drew := G.On.drew g3 wr12
      refine wp_region_till (S := fun w' => G.On g3 wr12 w') (by kernel_rfl) ?_
      refine wpTill_take (i := 0) (v := ?vc100) rfl (by kernel_rfl) (fun _ _ _ h => h) (Or.inl ⟨by rfl, ?hyc100⟩) o0 ?restc100
      case hyc100 => (intro W hW; (try dsimp only at hW); go_simp; try with_reducible rfl)
      simp only [Act.put, List.setIfInBounds_toArray, List.set_cons_zero, List.set_cons_succ]
      refine wpTill_take (i := 1) (v := ?vc101) rfl (by kernel_rfl) (fun _ _ _ h => h) (Or.inl ⟨by rfl, ?hyc101⟩) o0 ?restc101
      case hyc101 => (intro W hW; (try dsimp only at hW); go_simp; try with_reducible rfl)
      simp only [Act.put, List.setIfInBounds_toArray, List.set_cons_zero, List.set_cons_succ]
      refine wpTill_take (i := 2) (v := ?vc102) rfl (by kernel_rfl) (fun _ _ _ h => h) (Or.inl ⟨by rfl, ?hyc102⟩) o0 ?restc102
      case hyc102 => (intro W hW; (try dsimp only at hW); go_simp; try with_reducible rfl)
      simp only [Act.put, List.setIfInBounds_toArray, List.set_cons_zero, List.set_cons_succ]
      refine wpTill_take (i := 3) (v := ?vc103) rfl (by kernel_rfl) (fun _ _ _ h => h) (Or.inl ⟨by rfl, ?hyc103⟩) o0 ?restc103
      case hyc103 => (intro W hW; (try dsimp only at hW); go_simp; try with_reducible rfl)
      simp only [Act.put, List.setIfInBounds_toArray, List.set_cons_zero, List.set_cons_succ]
      refine wpTill_take (i := 4) (v := ?vc104) rfl (by kernel_rfl) (fun _ _ _ h => h) (Or.inl ⟨by rfl, ?hyc104⟩) o0 ?restc104
      case hyc104 => (intro W hW; (try dsimp only at hW); go_simp; try with_reducible rfl)
      simp only [Act.put, List.setIfInBounds_toArray, List.set_cons_zero, List.set_cons_succ]
      refine wpTill_take (i := 5) (v := ?vc105) rfl (by kernel_rfl) (fun _ _ _ h => h) (Or.inl ⟨by rfl, ?hyc105⟩) o0 ?restc105
      case hyc105 => (intro W hW; (try dsimp only at hW); go_simp; try with_reducible rfl)
      simp only [Act.put, List.setIfInBounds_toArray, List.set_cons_zero, List.set_cons_succ]
      refine wpTill_take (i := 6) (v := ?vc106) rfl (by kernel_rfl) (fun _ _ _ h => h) (Or.inl ⟨by rfl, ?hyc106⟩) o0 ?restc106
      case hyc106 => (intro W hW; (try dsimp only at hW); go_simp; try with_reducible rfl)
      simp only [Act.put, List.setIfInBounds_toArray, List.set_cons_zero, List.set_cons_succ]
      refine wpTill_take (i := 7) (v := ?vc107) rfl (by kernel_rfl) (fun _ _ _ h => h) (Or.inl ⟨by rfl, ?hyc107⟩) o0 ?restc107
      case hyc107 => (intro W hW; (try dsimp only at hW); go_simp; try with_reducible rfl)
      simp only [Act.put, List.setIfInBounds_toArray, List.set_cons_zero, List.set_cons_succ]
      refine wpTill_run (i := 8) (by kernel_rfl) rfl o0 (fun K hK => ?_)
      go_simp
      go_at_call 76
      refine (MQ.out.1 _).mono ?_
      rintro E w4 ⟨rfl, rfl⟩
      refine hK _ _ ?_
      clear hK K
      refine wpTill_take (i := 9) (v := ?vc109) rfl (by kernel_rfl) (fun _ _ _ h => h) (Or.inl ⟨by rfl, ?hyc109⟩) o0 ?restc109
      case hyc109 => (intro W hW; (try dsimp only at hW); go_simp; try with_reducible rfl)
      simp only [Act.put, List.setIfInBounds_toArray, List.set_cons_zero, List.set_cons_succ]
      refine wpTill_take (i := 10) (v := ?vc1010) rfl (by kernel_rfl) (fun _ _ _ h => h) (Or.inl ⟨by rfl, ?hyc1010⟩) o0 ?restc1010
      case hyc1010 => (intro W hW; (try dsimp only at hW); go_simp; try with_reducible rfl)
      simp only [Act.put, List.setIfInBounds_toArray, List.set_cons_zero, List.set_cons_succ]
      refine wpTill_take (i := 11) (v := ?vc1011) rfl (by kernel_rfl) (fun _ _ _ h => h) (Or.inl ⟨by rfl, ?hyc1011⟩) o0 ?restc1011
      case hyc1011 => (intro W hW; (try dsimp only at hW); go_simp; try with_reducible rfl)
      simp only [Act.put, List.setIfInBounds_toArray, List.set_cons_zero, List.set_cons_succ]
      refine wpTill_run (i := 12) (by kernel_rfl) rfl o0 (fun K hK => ?_)
      go_simp
      refine hK _ _ ?_
      clear hK K
      refine wpTill_run (i := 13) (by kernel_rfl) rfl o0 (fun K hK => ?_)
      obtain ⟨wr16, sr17, Hr18, hq013⟩ := Hr14.drew.stO ty_i32 3 rfl 0 (.int .i32 (goP s.q).x) (cs' := #[.int .i32 (goP s.q).x, .int .i32 s.q.y, .int .i32 s.q.vx, .int .i32 s.q.vy, .int .u8 (s.q.h : Int), .int .u8 (s.q.c : Int), .int .u8 (s.q.f : Int)]) rfl (L' := [(w.heap.size, 30, #[.int .u64 (s.fr : Int), .int .u64 (s.sd : Int), .int .i32 (goP s.p).x, .int .i32 (goP s.p).y, .int .i32 (goP s.p).vx, .int .i32 (goP s.p).vy, .int .u8 ((goP s.p).h : Int), .int .u8 ((goP s.p).c : Int), .int .u8 ((goP s.p).f : Int), .int .i32 s.q.x, .int .i32 s.q.y, .int .i32 s.q.vx, .int .i32 s.q.vy, .int .u8 (s.q.h : Int), .int .u8 (s.q.c : Int), .int .u8 (s.q.f : Int), .slice ao s.ss.length cap, .int .u16 (s.s0 : Int), .int .u16 (s.s1 : Int)]), (w.heap.size + 1, 30, zsc), (g2, 25, #[.int .i32 s.p.x, .int .i32 s.p.y, .int .i32 s.p.vx, .int .i32 s.p.vy, .int .u8 (s.p.h : Int), .int .u8 (s.p.c : Int), .int .u8 (s.p.f : Int), .int .i32 s.q.x, .int .i32 s.q.y, .int .i32 s.q.vx, .int .i32 s.q.vy, .int .u8 (s.q.h : Int), .int .u8 (s.q.c : Int), .int .u8 (s.q.f : Int)]), (g3, 24, #[.int .i32 (goP s.q).x, .int .i32 s.q.y, .int .i32 s.q.vx, .int .i32 s.q.vy, .int .u8 (s.q.h : Int), .int .u8 (s.q.c : Int), .int .u8 (s.q.f : Int)])]) rfl (Nat.le_of_ble_eq_true rfl) rfl rfl
      go_simp
      have o5 : G.On g3 wr12 wr16 := Below.trans o0 (grown_nb hq013 (fun q e => by cases e; exact Nat.le_refl _) hg3)
      refine hK _ _ ?_
      clear hK K
      refine wpTill_run (i := 14) (by kernel_rfl) rfl o5 (fun K hK => ?_)
      go_simp
      refine hK _ _ ?_
      clear hK K
      refine wpTill_run (i := 15) (by kernel_rfl) rfl o5 (fun K hK => ?_)
      obtain ⟨wr19, sr110, Hr111, hq015⟩ := Hr18.stO ty_i32 3 rfl 2 (.int .i32 (goP s.q).vx) (cs' := #[.int .i32 (goP s.q).x, .int .i32 s.q.y, .int .i32 (goP s.q).vx, .int .i32 s.q.vy, .int .u8 (s.q.h : Int), .int .u8 (s.q.c : Int), .int .u8 (s.q.f : Int)]) rfl (L' := [(w.heap.size, 30, #[.int .u64 (s.fr : Int), .int .u64 (s.sd : Int), .int .i32 (goP s.p).x, .int .i32 (goP s.p).y, .int .i32 (goP s.p).vx, .int .i32 (goP s.p).vy, .int .u8 ((goP s.p).h : Int), .int .u8 ((goP s.p).c : Int), .int .u8 ((goP s.p).f : Int), .int .i32 s.q.x, .int .i32 s.q.y, .int .i32 s.q.vx, .int .i32 s.q.vy, .int .u8 (s.q.h : Int), .int .u8 (s.q.c : Int), .int .u8 (s.q.f : Int), .slice ao s.ss.length cap, .int .u16 (s.s0 : Int), .int .u16 (s.s1 : Int)]), (w.heap.size + 1, 30, zsc), (g2, 25, #[.int .i32 s.p.x, .int .i32 s.p.y, .int .i32 s.p.vx, .int .i32 s.p.vy, .int .u8 (s.p.h : Int), .int .u8 (s.p.c : Int), .int .u8 (s.p.f : Int), .int .i32 s.q.x, .int .i32 s.q.y, .int .i32 s.q.vx, .int .i32 s.q.vy, .int .u8 (s.q.h : Int), .int .u8 (s.q.c : Int), .int .u8 (s.q.f : Int)]), (g3, 24, #[.int .i32 (goP s.q).x, .int .i32 s.q.y, .int .i32 (goP s.q).vx, .int .i32 s.q.vy, .int .u8 (s.q.h : Int), .int .u8 (s.q.c : Int), .int .u8 (s.q.f : Int)])]) rfl (Nat.le_of_ble_eq_true rfl) rfl rfl
      go_simp
      refine hK _ _ ?_
      clear hK K
      refine wpTill_done (by kernel_rfl) ?_
      go_upto_region 7 with fail
      clear a1 a2 o0 o5 hg3 hq013 hq015
      clear sr110 sr17
      have HB1 : ∀ W, G.On g3 wr19 W → Loc w.heap.size w W [(w.heap.size, 30, stc (mvd s 1) ao cap), (w.heap.size + 1, 30, zsc), (g2, 25, pps s.p s.q)] := fun W hW => (show Loc w.heap.size w wr19 [(w.heap.size, 30, stc (mvd s 1) ao cap), (w.heap.size + 1, 30, zsc), (g2, 25, pps s.p s.q)] from Hr111.drop 3 rfl).toB hW (Hr111.bge 3 rfl) HLO.out
      have a1 := fun W hW => (HB1 W hW).ldO ty_i32 2 rfl 8 (v := .int .i32 s.q.y) rfl
      have a2 := fun W hW => (HB1 W hW).ldO ty_i32 2 rfl 10 (v := .int .i32 s.q.vy) rfl
      have hg3 : g3 ≤ wr19.heap.size := Nat.le_of_lt (Hr111.get 3 rfl).lt
      clear HB1
      have o0 : G.On g3 wr19 wr19.drew := G.On.drew g3 wr19
      refine wp_region_till (S := fun w' => G.On g3 wr19 w') (by kernel_rfl) ?_
      refine wpTill_take (i := 0) (v := ?vc110) rfl (by kernel_rfl) (fun _ _ _ h => h) (Or.inl ⟨by rfl, ?hyc110⟩) o0 ?restc110
      case hyc110 => (intro W hW; (try dsimp only at hW); go_simp; try with_reducible rfl)
      simp only [Act.put, List.setIfInBounds_toArray, List.set_cons_zero, List.set_cons_succ]
      refine wpTill_take (i := 1) (v := ?vc111) rfl (by kernel_rfl) (fun _ _ _ h => h) (Or.inl ⟨by rfl, ?hyc111⟩) o0 ?restc111
      case hyc111 => (intro W hW; (try dsimp only at hW); go_simp; try with_reducible rfl)
      simp only [Act.put, List.setIfInBounds_toArray, List.set_cons_zero, List.set_cons_succ]
      refine wpTill_take (i := 2) (v := ?vc112) rfl (by kernel_rfl) (fun _ _ _ h => h) (Or.inl ⟨by rfl, ?hyc112⟩) o0 ?restc112
      case hyc112 => (intro W hW; (try dsimp only at hW); go_simp; try with_reducible rfl)
      simp only [Act.put, List.setIfInBounds_toArray, List.set_cons_zero, List.set_cons_succ]
      refine wpTill_take (i := 3) (v := ?vc113) rfl (by kernel_rfl) (fun _ _ _ h => h) (Or.inl ⟨by rfl, ?hyc113⟩) o0 ?restc113
      case hyc113 => (intro W hW; (try dsimp only at hW); go_simp; try with_reducible rfl)
      simp only [Act.put, List.setIfInBounds_toArray, List.set_cons_zero, List.set_cons_succ]
      refine wpTill_take (i := 4) (v := ?vc114) rfl (by kernel_rfl) (fun _ _ _ h => h) (Or.inl ⟨by rfl, ?hyc114⟩) o0 ?restc114
      case hyc114 => (intro W hW; (try dsimp only at hW); go_simp; try with_reducible rfl)
      simp only [Act.put, List.setIfInBounds_toArray, List.set_cons_zero, List.set_cons_succ]
      refine wpTill_take (i := 5) (v := ?vc115) rfl (by kernel_rfl) (fun _ _ _ h => h) (Or.inl ⟨by rfl, ?hyc115⟩) o0 ?restc115
      case hyc115 => (intro W hW; (try dsimp only at hW); go_simp; try with_reducible rfl)
      simp only [Act.put, List.setIfInBounds_toArray, List.set_cons_zero, List.set_cons_succ]
      refine wpTill_take (i := 6) (v := ?vc116) rfl (by kernel_rfl) (fun _ _ _ h => h) (Or.inl ⟨by rfl, ?hyc116⟩) o0 ?restc116
      case hyc116 => (intro W hW; (try dsimp only at hW); go_simp; try with_reducible rfl)
      simp only [Act.put, List.setIfInBounds_toArray, List.set_cons_zero, List.set_cons_succ]
      refine wpTill_take (i := 7) (v := ?vc117) rfl (by kernel_rfl) (fun _ _ _ h => h) (Or.inl ⟨by rfl, ?hyc117⟩) o0 ?restc117
      case hyc117 => (intro W hW; (try dsimp only at hW); go_simp; try with_reducible rfl)
      simp only [Act.put, List.setIfInBounds_toArray, List.set_cons_zero, List.set_cons_succ]
      refine wpTill_run (i := 8) (by kernel_rfl) rfl o0 (fun K hK => ?_)
      go_simp
      go_at_call 76
      refine (MQ.out.2 _).mono ?_
      rintro E w4 ⟨rfl, rfl⟩
      refine hK _ _ ?_
      clear hK K
      refine wpTill_take (i := 9) (v := ?vc119) rfl (by kernel_rfl) (fun _ _ _ h => h) (Or.inl ⟨by rfl, ?hyc119⟩) o0 ?restc119
      case hyc119 => (intro W hW; (try dsimp only at hW); go_simp; try with_reducible rfl)
      simp only [Act.put, List.setIfInBounds_toArray, List.set_cons_zero, List.set_cons_succ]
      refine wpTill_take (i := 10) (v := ?vc1110) rfl (by kernel_rfl) (fun _ _ _ h => h) (Or.inl ⟨by rfl, ?hyc1110⟩) o0 ?restc1110
      case hyc1110 => (intro W hW; (try dsimp only at hW); go_simp; try with_reducible rfl)
      simp only [Act.put, List.setIfInBounds_toArray, List.set_cons_zero, List.set_cons_succ]
      refine wpTill_take (i := 11) (v := ?vc1111) rfl (by kernel_rfl) (fun _ _ _ h => h) (Or.inl ⟨by rfl, ?hyc1111⟩) o0 ?restc1111
      case hyc1111 => (intro W hW; (try dsimp only at hW); go_simp; try with_reducible rfl)
      simp only [Act.put, List.setIfInBounds_toArray, List.set_cons_zero, List.set_cons_succ]
      refine wpTill_run (i := 12) (by kernel_rfl) rfl o0 (fun K hK => ?_)
      go_simp
      refine hK _ _ ?_
      clear hK K
      refine wpTill_run (i := 13) (by kernel_rfl) rfl o0 (fun K hK => ?_)
      obtain ⟨wr112, sr113, Hr114, hq113⟩ := Hr111.drew.stO ty_i32 3 rfl 1 (.int .i32 (goP s.q).y) (cs' := #[.int .i32 (goP s.q).x, .int .i32 (goP s.q).y, .int .i32 (goP s.q).vx, .int .i32 s.q.vy, .int .u8 (s.q.h : Int), .int .u8 (s.q.c : Int), .int .u8 (s.q.f : Int)]) rfl (L' := [(w.heap.size, 30, #[.int .u64 (s.fr : Int), .int .u64 (s.sd : Int), .int .i32 (goP s.p).x, .int .i32 (goP s.p).y, .int .i32 (goP s.p).vx, .int .i32 (goP s.p).vy, .int .u8 ((goP s.p).h : Int), .int .u8 ((goP s.p).c : Int), .int .u8 ((goP s.p).f : Int), .int .i32 s.q.x, .int .i32 s.q.y, .int .i32 s.q.vx, .int .i32 s.q.vy, .int .u8 (s.q.h : Int), .int .u8 (s.q.c : Int), .int .u8 (s.q.f : Int), .slice ao s.ss.length cap, .int .u16 (s.s0 : Int), .int .u16 (s.s1 : Int)]), (w.heap.size + 1, 30, zsc), (g2, 25, #[.int .i32 s.p.x, .int .i32 s.p.y, .int .i32 s.p.vx, .int .i32 s.p.vy, .int .u8 (s.p.h : Int), .int .u8 (s.p.c : Int), .int .u8 (s.p.f : Int), .int .i32 s.q.x, .int .i32 s.q.y, .int .i32 s.q.vx, .int .i32 s.q.vy, .int .u8 (s.q.h : Int), .int .u8 (s.q.c : Int), .int .u8 (s.q.f : Int)]), (g3, 24, #[.int .i32 (goP s.q).x, .int .i32 (goP s.q).y, .int .i32 (goP s.q).vx, .int .i32 s.q.vy, .int .u8 (s.q.h : Int), .int .u8 (s.q.c : Int), .int .u8 (s.q.f : Int)])]) rfl (Nat.le_of_ble_eq_true rfl) rfl rfl
      go_simp
      have o5 : G.On g3 wr19 wr112 := Below.trans o0 (grown_nb hq113 (fun q e => by cases e; exact Nat.le_refl _) hg3)
      refine hK _ _ ?_
      clear hK K
      refine wpTill_run (i := 14) (by kernel_rfl) rfl o5 (fun K hK => ?_)
      go_simp
      refine hK _ _ ?_
      clear hK K
      refine wpTill_run (i := 15) (by kernel_rfl) rfl o5 (fun K hK => ?_)
      obtain ⟨wr115, sr116, Hr117, hq115⟩ := Hr114.stO ty_i32 3 rfl 3 (.int .i32 (goP s.q).vy) (cs' := #[.int .i32 (goP s.q).x, .int .i32 (goP s.q).y, .int .i32 (goP s.q).vx, .int .i32 (goP s.q).vy, .int .u8 (s.q.h : Int), .int .u8 (s.q.c : Int), .int .u8 (s.q.f : Int)]) rfl (L' := [(w.heap.size, 30, #[.int .u64 (s.fr : Int), .int .u64 (s.sd : Int), .int .i32 (goP s.p).x, .int .i32 (goP s.p).y, .int .i32 (goP s.p).vx, .int .i32 (goP s.p).vy, .int .u8 ((goP s.p).h : Int), .int .u8 ((goP s.p).c : Int), .int .u8 ((goP s.p).f : Int), .int .i32 s.q.x, .int .i32 s.q.y, .int .i32 s.q.vx, .int .i32 s.q.vy, .int .u8 (s.q.h : Int), .int .u8 (s.q.c : Int), .int .u8 (s.q.f : Int), .slice ao s.ss.length cap, .int .u16 (s.s0 : Int), .int .u16 (s.s1 : Int)]), (w.heap.size + 1, 30, zsc), (g2, 25, #[.int .i32 s.p.x, .int .i32 s.p.y, .int .i32 s.p.vx, .int .i32 s.p.vy, .int .u8 (s.p.h : Int), .int .u8 (s.p.c : Int), .int .u8 (s.p.f : Int), .int .i32 s.q.x, .int .i32 s.q.y, .int .i32 s.q.vx, .int .i32 s.q.vy, .int .u8 (s.q.h : Int), .int .u8 (s.q.c : Int), .int .u8 (s.q.f : Int)]), (g3, 24, #[.int .i32 (goP s.q).x, .int .i32 (goP s.q).y, .int .i32 (goP s.q).vx, .int .i32 (goP s.q).vy, .int .u8 (s.q.h : Int), .int .u8 (s.q.c : Int), .int .u8 (s.q.f : Int)])]) rfl (Nat.le_of_ble_eq_true rfl) rfl rfl
      go_simp
      refine hK _ _ ?_
      clear hK K
      refine wpTill_done (by kernel_rfl) ?_
      go_upto_region 8 with fail
      clear a1 a2 o0 o5 hg3 hq113 hq115
      clear sr116 sr113
      have lr118 := Hr117.ldA ty_player 3 rfl 0 (vs := (pcs (goP s.q))) rfl (Nat.le_of_ble_eq_true rfl)
      obtain ⟨wr119, sr120, Hr121, _⟩ := Hr117.stA ty_player 0 rfl 9 (pcs (goP s.q)) (cs' := stc (mvd s 2) ao cap) rfl (L' := [(w.heap.size, 30, stc (mvd s 2) ao cap), (w.heap.size + 1, 30, zsc), (g2, 25, #[.int .i32 s.p.x, .int .i32 s.p.y, .int .i32 s.p.vx, .int .i32 s.p.vy, .int .u8 (s.p.h : Int), .int .u8 (s.p.c : Int), .int .u8 (s.p.f : Int), .int .i32 s.q.x, .int .i32 s.q.y, .int .i32 s.q.vx, .int .i32 s.q.vy, .int .u8 (s.q.h : Int), .int .u8 (s.q.c : Int), .int .u8 (s.q.f : Int)]), (g3, 24, #[.int .i32 (goP s.q).x, .int .i32 (goP s.q).y, .int .i32 (goP s.q).vx, .int .i32 (goP s.q).vy, .int .u8 (s.q.h : Int), .int .u8 (s.q.c : Int), .int .u8 (s.q.f : Int)])]) rfl (Nat.le_of_ble_eq_true rfl) rfl rfl
      go_wp2
      go_roundw
      case rel => exact ⟨2, by omega, by go_num, Hr121.drop 3 rfl⟩
      case measure => simp [intOf]
    | 2, _ =>
      rw [show ((2 : Nat) : Int) = 2 from rfl]
      clear MP MQ
      obtain ⟨b, hb⟩ : ∃ b, b = decide (OvP (goP s.p) (goP s.q)) := ⟨_, rfl⟩
      have C1 : Hid (∀ W, Calls Tryd.prog 78 #[.agg (pcs (goP s.p))] W fun E w' => E = .returned (.agg #[.int .i32 (goP s.p).x, .int .i32 (goP s.p).y, .int .i32 4096, .int .i32 4096]) ∧ Below W.heap.size W w') := fun W => refBox (goP s.p) W
      have C2 : Hid (∀ W, Calls Tryd.prog 78 #[.agg (pcs (goP s.q))] W fun E w' => E = .returned (.agg #[.int .i32 (goP s.q).x, .int .i32 (goP s.q).y, .int .i32 4096, .int .i32 4096]) ∧ Below W.heap.size W w') := fun W => refBox (goP s.q) W
      have C3 : Hid (∀ W, Calls Tryd.prog 77 #[.agg #[.int .i32 (goP s.p).x, .int .i32 (goP s.p).y, .int .i32 4096, .int .i32 4096], .agg #[.int .i32 (goP s.q).x, .int .i32 (goP s.q).y, .int .i32 4096, .int .i32 4096]] W fun E w' => E = .returned (.bool b) ∧ Below W.heap.size W w') := fun W => by
        rw [hb, ← ovr_box]
        exact G.refOver ⟨(goP s.p).x, (goP s.p).y, 4096, 4096⟩ ⟨(goP s.q).x, (goP s.q).y, 4096, 4096⟩ W ⟨(goP_in2 s.p).1, (goP_in2 s.p).2, box_in, box_in⟩ ⟨(goP_in2 s.q).1, (goP_in2 s.q).2, box_in, box_in⟩
      have HB := Lib.hid hb
      clear hb
      go_upto_region 9 with fail
      have ae1 := HR.out.onA ty_player 0 rfl 2 (vs := (pcs (goP s.p))) rfl (Nat.le_of_ble_eq_true rfl)
      have ae2 := HR.out.onA ty_player 0 rfl 9 (vs := (pcs (goP s.q))) rfl (Nat.le_of_ble_eq_true rfl)
      have o0 := G.On.drew wr.heap.size wr
      go_region_held3 (fun w' => G.On wr.heap.size wr w') (first | assumption) (first | (go_at_call 78; refine (C1.out _).mono ?_; rintro E w4 ⟨rfl, hb4⟩; have o4 := G.on_step (wd := wr) (by assumption) hb4) | (go_at_call 78; refine (C2.out _).mono ?_; rintro E w4 ⟨rfl, hb4⟩; have o4 := G.on_step (wd := wr) (by assumption) hb4) | (go_at_call 77; refine (C3.out _).mono ?_; rintro E w4 ⟨rfl, hb4⟩; have o4 := G.on_step (wd := wr) (by assumption) hb4))
      clear ae2 ae1
      have He3 := HR.out.to o4
      clear C1 C2 C3 o0 o4
      cases b
      · have ht : three s = mvd s 2 := by unfold three; rw [if_neg (of_decide_eq_false HB.out.symm)]; rfl
        rw [ht] at HQ
        clear ht
        have le4 := He3.ldA ty_state 0 rfl 0 (vs := (stc (mvd s 2) ao cap)) rfl (Nat.le_of_ble_eq_true rfl)
        obtain ⟨we5, se6, He7, _⟩ := He3.stA ty_state 1 rfl 0 (stc (mvd s 2) ao cap) (cs' := stc (mvd s 2) ao cap) rfl (L' := [(w.heap.size, 30, #[.int .u64 (s.fr : Int), .int .u64 (s.sd : Int), .int .i32 (goP s.p).x, .int .i32 (goP s.p).y, .int .i32 (goP s.p).vx, .int .i32 (goP s.p).vy, .int .u8 ((goP s.p).h : Int), .int .u8 ((goP s.p).c : Int), .int .u8 ((goP s.p).f : Int), .int .i32 (goP s.q).x, .int .i32 (goP s.q).y, .int .i32 (goP s.q).vx, .int .i32 (goP s.q).vy, .int .u8 ((goP s.q).h : Int), .int .u8 ((goP s.q).c : Int), .int .u8 ((goP s.q).f : Int), .slice ao s.ss.length cap, .int .u16 (s.s0 : Int), .int .u16 (s.s1 : Int)]), (w.heap.size + 1, 30, stc (mvd s 2) ao cap), (g2, 25, #[.int .i32 s.p.x, .int .i32 s.p.y, .int .i32 s.p.vx, .int .i32 s.p.vy, .int .u8 (s.p.h : Int), .int .u8 (s.p.c : Int), .int .u8 (s.p.f : Int), .int .i32 s.q.x, .int .i32 s.q.y, .int .i32 s.q.vx, .int .i32 s.q.vy, .int .u8 (s.q.h : Int), .int .u8 (s.q.c : Int), .int .u8 (s.q.f : Int)])]) rfl (Nat.le_of_ble_eq_true rfl) rfl rfl
        go_wp2
        refine bodyPost_ret (v := .agg (stc (mvd s 2) ao cap)) (ret_struct Tryd.underlying30 ty_state _ 2 _ Tryd.results51 (He7.get 1 rfl) rfl rfl) rfl ?_
        exact HQ.out _ He7.be
      · have ht : three s = hlt s 2 := by unfold three; rw [if_pos (of_decide_eq_true HB.out.symm)]; rfl
        rw [ht] at HQ
        clear ht
        have le4 := He3.ldA ty_players 2 rfl 0 (vs := (pps s.p s.q)) rfl (Nat.le_of_ble_eq_true rfl)
        obtain ⟨we5, se6, He7, _⟩ := He3.stA ty_players 0 rfl 2 (pps s.p s.q) (cs' := stc (hlt s 0) ao cap) rfl (L' := [(w.heap.size, 30, stc (hlt s 0) ao cap), (w.heap.size + 1, 30, zsc), (g2, 25, #[.int .i32 s.p.x, .int .i32 s.p.y, .int .i32 s.p.vx, .int .i32 s.p.vy, .int .u8 (s.p.h : Int), .int .u8 (s.p.c : Int), .int .u8 (s.p.f : Int), .int .i32 s.q.x, .int .i32 s.q.y, .int .i32 s.q.vx, .int .i32 s.q.vy, .int .u8 (s.q.h : Int), .int .u8 (s.q.c : Int), .int .u8 (s.q.f : Int)])]) rfl (Nat.le_of_ble_eq_true rfl) rfl rfl
        go_upto_region 12 with fail
        go_loopw [6] (fun v wr => ∃ k : Nat, k ≤ 2 ∧ v = .int .i64 k ∧ Hid (Loc w.heap.size w wr [(w.heap.size, 30, stc (hlt s k) ao cap), (w.heap.size + 1, 30, zsc), (g2, 25, pps s.p s.q)])) (fun v _ => 2 - (intOf v).toNat)
        case atStart => exact ⟨0, by omega, rfl, He7⟩
        case round =>
          clear se6 le4 He7 HR
          obtain ⟨k, hk, rfl, HR⟩ := hrel
          match k, hk with
          | 0, _ =>
            rw [show ((0 : Nat) : Int) = 0 from rfl]
            obtain ⟨ws01, ss02, Hs03, _⟩ := HR.out.stO ty_i32 0 rfl 4 (.int .i32 0) (cs' := #[.int .u64 (s.fr : Int), .int .u64 (s.sd : Int), .int .i32 s.p.x, .int .i32 s.p.y, .int .i32 0, .int .i32 s.p.vy, .int .u8 (s.p.h : Int), .int .u8 (s.p.c : Int), .int .u8 (s.p.f : Int), .int .i32 s.q.x, .int .i32 s.q.y, .int .i32 s.q.vx, .int .i32 s.q.vy, .int .u8 (s.q.h : Int), .int .u8 (s.q.c : Int), .int .u8 (s.q.f : Int), .slice ao s.ss.length cap, .int .u16 (s.s0 : Int), .int .u16 (s.s1 : Int)]) rfl (L' := [(w.heap.size, 30, #[.int .u64 (s.fr : Int), .int .u64 (s.sd : Int), .int .i32 s.p.x, .int .i32 s.p.y, .int .i32 0, .int .i32 s.p.vy, .int .u8 (s.p.h : Int), .int .u8 (s.p.c : Int), .int .u8 (s.p.f : Int), .int .i32 s.q.x, .int .i32 s.q.y, .int .i32 s.q.vx, .int .i32 s.q.vy, .int .u8 (s.q.h : Int), .int .u8 (s.q.c : Int), .int .u8 (s.q.f : Int), .slice ao s.ss.length cap, .int .u16 (s.s0 : Int), .int .u16 (s.s1 : Int)]), (w.heap.size + 1, 30, zsc), (g2, 25, #[.int .i32 s.p.x, .int .i32 s.p.y, .int .i32 s.p.vx, .int .i32 s.p.vy, .int .u8 (s.p.h : Int), .int .u8 (s.p.c : Int), .int .u8 (s.p.f : Int), .int .i32 s.q.x, .int .i32 s.q.y, .int .i32 s.q.vx, .int .i32 s.q.vy, .int .u8 (s.q.h : Int), .int .u8 (s.q.c : Int), .int .u8 (s.q.f : Int)])]) rfl (Nat.le_of_ble_eq_true rfl) rfl rfl
            obtain ⟨ws04, ss05, Hs06, _⟩ := Hs03.stO ty_i32 0 rfl 5 (.int .i32 0) (cs' := stc (hlt s 1) ao cap) rfl (L' := [(w.heap.size, 30, stc (hlt s 1) ao cap), (w.heap.size + 1, 30, zsc), (g2, 25, #[.int .i32 s.p.x, .int .i32 s.p.y, .int .i32 s.p.vx, .int .i32 s.p.vy, .int .u8 (s.p.h : Int), .int .u8 (s.p.c : Int), .int .u8 (s.p.f : Int), .int .i32 s.q.x, .int .i32 s.q.y, .int .i32 s.q.vx, .int .i32 s.q.vy, .int .u8 (s.q.h : Int), .int .u8 (s.q.c : Int), .int .u8 (s.q.f : Int)])]) rfl (Nat.le_of_ble_eq_true rfl) rfl rfl
            go_wp2
            go_roundw
            case rel => exact ⟨1, by omega, by go_num, Hs06⟩
            case measure => simp [intOf]
          | 1, _ =>
            rw [show ((1 : Nat) : Int) = 1 from rfl]
            obtain ⟨ws11, ss12, Hs13, _⟩ := HR.out.stO ty_i32 0 rfl 11 (.int .i32 0) (cs' := #[.int .u64 (s.fr : Int), .int .u64 (s.sd : Int), .int .i32 s.p.x, .int .i32 s.p.y, .int .i32 0, .int .i32 0, .int .u8 (s.p.h : Int), .int .u8 (s.p.c : Int), .int .u8 (s.p.f : Int), .int .i32 s.q.x, .int .i32 s.q.y, .int .i32 0, .int .i32 s.q.vy, .int .u8 (s.q.h : Int), .int .u8 (s.q.c : Int), .int .u8 (s.q.f : Int), .slice ao s.ss.length cap, .int .u16 (s.s0 : Int), .int .u16 (s.s1 : Int)]) rfl (L' := [(w.heap.size, 30, #[.int .u64 (s.fr : Int), .int .u64 (s.sd : Int), .int .i32 s.p.x, .int .i32 s.p.y, .int .i32 0, .int .i32 0, .int .u8 (s.p.h : Int), .int .u8 (s.p.c : Int), .int .u8 (s.p.f : Int), .int .i32 s.q.x, .int .i32 s.q.y, .int .i32 0, .int .i32 s.q.vy, .int .u8 (s.q.h : Int), .int .u8 (s.q.c : Int), .int .u8 (s.q.f : Int), .slice ao s.ss.length cap, .int .u16 (s.s0 : Int), .int .u16 (s.s1 : Int)]), (w.heap.size + 1, 30, zsc), (g2, 25, #[.int .i32 s.p.x, .int .i32 s.p.y, .int .i32 s.p.vx, .int .i32 s.p.vy, .int .u8 (s.p.h : Int), .int .u8 (s.p.c : Int), .int .u8 (s.p.f : Int), .int .i32 s.q.x, .int .i32 s.q.y, .int .i32 s.q.vx, .int .i32 s.q.vy, .int .u8 (s.q.h : Int), .int .u8 (s.q.c : Int), .int .u8 (s.q.f : Int)])]) rfl (Nat.le_of_ble_eq_true rfl) rfl rfl
            obtain ⟨ws14, ss15, Hs16, _⟩ := Hs13.stO ty_i32 0 rfl 12 (.int .i32 0) (cs' := stc (hlt s 2) ao cap) rfl (L' := [(w.heap.size, 30, stc (hlt s 2) ao cap), (w.heap.size + 1, 30, zsc), (g2, 25, #[.int .i32 s.p.x, .int .i32 s.p.y, .int .i32 s.p.vx, .int .i32 s.p.vy, .int .u8 (s.p.h : Int), .int .u8 (s.p.c : Int), .int .u8 (s.p.f : Int), .int .i32 s.q.x, .int .i32 s.q.y, .int .i32 s.q.vx, .int .i32 s.q.vy, .int .u8 (s.q.h : Int), .int .u8 (s.q.c : Int), .int .u8 (s.q.f : Int)])]) rfl (Nat.le_of_ble_eq_true rfl) rfl rfl
            go_wp2
            go_roundw
            case rel => exact ⟨2, by omega, by go_num, Hs16⟩
            case measure => simp [intOf]
          | 2, _ =>
            rw [show ((2 : Nat) : Int) = 2 from rfl]
            have lf1 := HR.out.ldA ty_state 0 rfl 0 (vs := (stc (hlt s 2) ao cap)) rfl (Nat.le_of_ble_eq_true rfl)
            obtain ⟨wf2, sf3, Hf4, _⟩ := HR.out.stA ty_state 1 rfl 0 (stc (hlt s 2) ao cap) (cs' := stc (hlt s 2) ao cap) rfl (L' := [(w.heap.size, 30, (stc (hlt s 2) ao cap)), (w.heap.size + 1, 30, stc (hlt s 2) ao cap), (g2, 25, #[.int .i32 s.p.x, .int .i32 s.p.y, .int .i32 s.p.vx, .int .i32 s.p.vy, .int .u8 (s.p.h : Int), .int .u8 (s.p.c : Int), .int .u8 (s.p.f : Int), .int .i32 s.q.x, .int .i32 s.q.y, .int .i32 s.q.vx, .int .i32 s.q.vy, .int .u8 (s.q.h : Int), .int .u8 (s.q.c : Int), .int .u8 (s.q.f : Int)])]) rfl (Nat.le_of_ble_eq_true rfl) rfl rfl
            go_wp2
            refine bodyPost_ret (v := .agg (stc (hlt s 2) ao cap)) (ret_struct Tryd.underlying30 ty_state _ 2 _ Tryd.results51 (Hf4.get 1 rfl) rfl rfl) rfl ?_
            exact HQ.out _ Hf4.be
end Go.Proofs.YtgmbdadkahcpcaaDoor
