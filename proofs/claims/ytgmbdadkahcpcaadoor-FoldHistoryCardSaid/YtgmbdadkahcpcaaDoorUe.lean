/- The program's frame: who is brought back: contracts. -/
import Derived.Test.YtgmbdadkahcpcaaDoorUd
namespace Go.Proofs.YtgmbdadkahcpcaaDoor
open Go.RowKit
set_option linter.unusedVariables false
set_option linter.unusedSimpArgs false
set_option maxRecDepth 20000

attribute [local go_sem ↓] ld_u8 ld_u64 ld_state ld_player ld_players ld_source st_i32 st_u8 st_u64 st_player st_players st_state st_source
theorem draw61440_c (sd g : Nat) (w : World) (hs : sd < 18446744073709551616) (hc : Cells w g 105 #[.int .u64 (sd : Int)]) :
    Calls Tryd.prog 68 #[.int .i64 61440, .pointer (some ⟨g, 0, none⟩)] w fun E w' => E = .returned (.int .i32 ((R.bl sd 61441 : Nat) : Int)) ∧ Cells w' g 105 #[.int .u64 ((skp sd 1 : Nat) : Int)] ∧ w.grownBy w' (some g) := by
  have B1 := Lib.hid (R.below_many sd 61441 w (by decide) (by decide) hs)
  have H0 : Loc g w w [(g, 105, #[.int .u64 (sd : Int)])] := ⟨Nat.le_of_lt hc.lt, Below.refl _ _, fun e he => (by rw [List.mem_singleton] at he; subst he; exact Nat.le_refl _), by simp, fun e he => by rw [List.mem_singleton] at he; subst he; exact hc⟩
  have hl : R.bl sd 61441 < 61441 := bel_lt mx_lt (by decide)
  generalize R.bl sd 61441 = n at *
  have hw : IntKind.i32.wrap (n : Int) = (n : Int) := by simp [IntKind.wrap, IntKind.bits, IntKind.signed]; omega
  clear hc hs hl
  have la1 := H0.ldA ty_source 0 rfl 0 (vs := #[.int .u64 (sd : Int)]) rfl (Nat.le_of_ble_eq_true rfl)
  go_enter Tryd.func68, Tryd.ntmps68
  go_wp2_with fail
  refine B1.out.mono ?_
  rintro E w1 ⟨rfl, hb1⟩
  clear la1
  have Ha2 := H0.to hb1
  obtain ⟨ga3, wa4, za7, sa5, Ha6, hg2⟩ := Ha2.newA ty_source (#[.int .u64 0]) #[.int .u64 ((skp sd 1 : Nat) : Int)] rfl rfl rfl
  replace Ha6 : Loc _ _ _ [(g, 105, #[.int .u64 (sd : Int)]), (ga3, 105, #[.int .u64 ((skp sd 1 : Nat) : Int)])] := Ha6
  have la8 := Ha6.ldA ty_source 1 rfl 0 (vs := #[.int .u64 ((skp sd 1 : Nat) : Int)]) rfl (Nat.le_of_ble_eq_true rfl)
  obtain ⟨wa9, sa10, Ha11, hg3⟩ := Ha6.stA ty_source 0 rfl 0 #[.int .u64 ((skp sd 1 : Nat) : Int)] (cs' := #[.int .u64 ((skp sd 1 : Nat) : Int)]) rfl (L' := [(g, 105, #[.int .u64 ((skp sd 1 : Nat) : Int)]), (ga3, 105, #[.int .u64 ((skp sd 1 : Nat) : Int)])]) rfl (Nat.le_of_ble_eq_true rfl) rfl rfl
  go_wp2
  go_ret
  exact ⟨rfl, Ha11.get 0 rfl, (grown_any ((grown_of_below hb1).trans hg2)).trans hg3⟩
theorem draw28672_c (sd g : Nat) (w : World) (hs : sd < 18446744073709551616) (hc : Cells w g 105 #[.int .u64 (sd : Int)]) :
    Calls Tryd.prog 68 #[.int .i64 28672, .pointer (some ⟨g, 0, none⟩)] w fun E w' => E = .returned (.int .i32 ((R.bl sd 28673 : Nat) : Int)) ∧ Cells w' g 105 #[.int .u64 ((skp sd 1 : Nat) : Int)] ∧ w.grownBy w' (some g) := by
  have B1 := Lib.hid (R.below_many sd 28673 w (by decide) (by decide) hs)
  have H0 : Loc g w w [(g, 105, #[.int .u64 (sd : Int)])] := ⟨Nat.le_of_lt hc.lt, Below.refl _ _, fun e he => (by rw [List.mem_singleton] at he; subst he; exact Nat.le_refl _), by simp, fun e he => by rw [List.mem_singleton] at he; subst he; exact hc⟩
  have hl : R.bl sd 28673 < 28673 := bel_lt mx_lt (by decide)
  generalize R.bl sd 28673 = n at *
  have hw : IntKind.i32.wrap (n : Int) = (n : Int) := by simp [IntKind.wrap, IntKind.bits, IntKind.signed]; omega
  clear hc hs hl
  have la1 := H0.ldA ty_source 0 rfl 0 (vs := #[.int .u64 (sd : Int)]) rfl (Nat.le_of_ble_eq_true rfl)
  go_enter Tryd.func68, Tryd.ntmps68
  go_wp2_with fail
  refine B1.out.mono ?_
  rintro E w1 ⟨rfl, hb1⟩
  clear la1
  have Ha2 := H0.to hb1
  obtain ⟨ga3, wa4, za7, sa5, Ha6, hg2⟩ := Ha2.newA ty_source (#[.int .u64 0]) #[.int .u64 ((skp sd 1 : Nat) : Int)] rfl rfl rfl
  replace Ha6 : Loc _ _ _ [(g, 105, #[.int .u64 (sd : Int)]), (ga3, 105, #[.int .u64 ((skp sd 1 : Nat) : Int)])] := Ha6
  have la8 := Ha6.ldA ty_source 1 rfl 0 (vs := #[.int .u64 ((skp sd 1 : Nat) : Int)]) rfl (Nat.le_of_ble_eq_true rfl)
  obtain ⟨wa9, sa10, Ha11, hg3⟩ := Ha6.stA ty_source 0 rfl 0 #[.int .u64 ((skp sd 1 : Nat) : Int)] (cs' := #[.int .u64 ((skp sd 1 : Nat) : Int)]) rfl (L' := [(g, 105, #[.int .u64 ((skp sd 1 : Nat) : Int)]), (ga3, 105, #[.int .u64 ((skp sd 1 : Nat) : Int)])]) rfl (Nat.le_of_ble_eq_true rfl) rfl rfl
  go_wp2
  go_ret
  exact ⟨rfl, Ha11.get 0 rfl, (grown_any ((grown_of_below hb1).trans hg2)).trans hg3⟩
set_option maxHeartbeats 2000000 in
theorem rev0_alive (s : St) (ao : Option Addr) (cap : Nat) (w : World) (hh : 0 < s.p.h) :
    Calls Tryd.prog 46 #[sv s ao cap, .int .i64 0] w fun E w' => E = .returned (sv s ao cap) ∧ Below w.heap.size w w' := by
  have H0 := Lib.hid (Loc.two w 30 30 (stc s ao cap) zsc)
  have hhi : (0 : Int) < (s.p.h : Int) := by omega
  obtain ⟨Q, hQ⟩ : ∃ Q : Ending → World → Prop, Q = fun E w' => E = .returned (sv s ao cap) ∧ Below w.heap.size w w' := ⟨_, rfl⟩
  rw [← hQ]
  have HQ : Hid (∀ w', Below w.heap.size w w' → Q (.returned (sv s ao cap)) w') := fun w' h => by rw [hQ]; exact ⟨rfl, h⟩
  clear hQ
  go_enter Tryd.func46, Tryd.ntmps46
  go_upto_region 1 with fail
  generalize (w.alloc (.cells (stc s ao cap) 30)).alloc (.cells zsc 30) = wa at *
  have la1 := H0.out.ldO ty_u8 0 rfl 6 (v := .int .u8 (s.p.h : Int)) rfl
  have la2 := H0.out.ldA ty_state 0 rfl 0 (vs := (stc s ao cap)) rfl (Nat.le_of_ble_eq_true rfl)
  obtain ⟨wa3, sa4, Ha5, _⟩ := H0.out.stA ty_state 1 rfl 0 (stc s ao cap) (cs' := stc s ao cap) rfl (L' := [(w.heap.size, 30, #[.int .u64 (s.fr : Int), .int .u64 (s.sd : Int), .int .i32 s.p.x, .int .i32 s.p.y, .int .i32 s.p.vx, .int .i32 s.p.vy, .int .u8 (s.p.h : Int), .int .u8 (s.p.c : Int), .int .u8 (s.p.f : Int), .int .i32 s.q.x, .int .i32 s.q.y, .int .i32 s.q.vx, .int .i32 s.q.vy, .int .u8 (s.q.h : Int), .int .u8 (s.q.c : Int), .int .u8 (s.q.f : Int), .slice ao s.ss.length cap, .int .u16 (s.s0 : Int), .int .u16 (s.s1 : Int)]), (w.heap.size + 1, 30, stc s ao cap)]) rfl (Nat.le_of_ble_eq_true rfl) rfl rfl
  go_wp2
  refine bodyPost_ret (v := .agg (stc s ao cap)) (ret_struct Tryd.underlying30 ty_state _ 4 _ Tryd.results46 (Ha5.get 1 rfl) rfl rfl) rfl ?_
  exact HQ.out _ Ha5.be
set_option maxHeartbeats 2000000 in
theorem rev0_dead (s : St) (ao : Option Addr) (cap : Nat) (w : World) (hh : s.p.h = 0) (hsd : s.sd < 18446744073709551616) (hox : G.in32 s.q.x) (hoy : G.in32 s.q.y) :
    Calls Tryd.prog 46 #[sv s ao cap, .int .i64 0] w fun E w' => E = .returned (sv (back src s 0) ao cap) ∧ Below w.heap.size w w' := by
  have hmf : ∀ (fn : Fn) (first cap : Array Value) (w : World), (Instr.makeFunc fn first cap).run Tryd.prog w = .ok (.func fn first cap) w := fun _ _ _ _ => rfl
  have HBK : Hid (back src s 0 = { s with p := if OvP ⟨(R.bl s.sd 61441 : Nat), (R.bl (skp s.sd 1) 28673 : Nat), 0, 0, 100, s.p.c, s.p.f⟩ s.q then ⟨s.p.x, s.p.y, 0, 0, 100, s.p.c, s.p.f⟩ else ⟨(R.bl s.sd 61441 : Nat), (R.bl (skp s.sd 1) 28673 : Nat), 0, 0, 100, s.p.c, s.p.f⟩, sd := skp (skp s.sd 1) 1 }) := by
    show _ = _
    rw [back, if_neg (by show ¬ 0 < s.p.h; omega)]
    rfl
  have H0 := Lib.hid (Loc.two w 30 30 (stc s ao cap) zsc)
  obtain ⟨Q, hQ⟩ : ∃ Q : Ending → World → Prop, Q = fun E w' => E = .returned (sv (back src s 0) ao cap) ∧ Below w.heap.size w w' := ⟨_, rfl⟩
  rw [← hQ]
  have HQ : Hid (∀ w', Below w.heap.size w w' → Q (.returned (sv (back src s 0) ao cap)) w') := fun w' h => by rw [hQ]; exact ⟨rfl, h⟩
  clear hQ
  rw [HBK.out] at HQ
  clear HBK
  have hl1 : R.bl s.sd 61441 < 61441 := bel_lt mx_lt (by decide)
  have hl2 : R.bl (skp s.sd 1) 28673 < 28673 := bel_lt mx_lt (by decide)
  have D1 := Lib.hid (fun g W (h : Cells W g 105 #[.int .u64 (s.sd : Int)]) => draw61440_c s.sd g W hsd h)
  have D2 := Lib.hid (fun g W (h : Cells W g 105 #[.int .u64 ((skp s.sd 1 : Nat) : Int)]) => draw28672_c (skp s.sd 1) g W (skp_lt _ _) h)
  generalize R.bl s.sd 61441 = n1 at *
  generalize R.bl (skp s.sd 1) 28673 = n2 at *
  generalize skp (skp s.sd 1) 1 = u at *
  generalize skp s.sd 1 = u1 at *
  have hrin : G.in32 (n1 : Int) ∧ G.in32 (n2 : Int) := by unfold G.in32; omega
  have C1 := Lib.hid (fun W => stopped_c s.p W)
  have C2 : Hid (∀ W, Calls Tryd.prog 61 #[.agg (pps (⟨(n1 : Int), (n2 : Int), 0, 0, 100, s.p.c, s.p.f⟩ : Pl) s.q)] W fun E w' => E = .returned (.bool (!decide (OvP (⟨(n1 : Int), (n2 : Int), 0, 0, 100, s.p.c, s.p.f⟩ : Pl) s.q))) ∧ Below W.heap.size W w') := fun W => by
    have := apart_c (⟨(n1 : Int), (n2 : Int), 0, 0, 100, s.p.c, s.p.f⟩ : Pl) s.q W hrin ⟨hox, hoy⟩
    exact this
  obtain ⟨b, hb⟩ : ∃ b, b = decide (OvP (⟨(n1 : Int), (n2 : Int), 0, 0, 100, s.p.c, s.p.f⟩ : Pl) s.q) := ⟨_, rfl⟩
  have HB := Lib.hid hb
  rw [← hb] at C2
  clear hb hl1 hl2 hrin hox hoy hsd
  unfold pv at C1
  go_enter Tryd.func46, Tryd.ntmps46
  go_upto_region 1 with fail
  generalize (w.alloc (.cells (stc s ao cap) 30)).alloc (.cells zsc 30) = wa at *
  have la1 := H0.out.ldO ty_u8 0 rfl 6 (v := .int .u8 0) (by show some (Value.int .u8 (s.p.h : Int)) = _; rw [hh]; rfl)
  have la2 := H0.out.ldO ty_u64 0 rfl 1 (v := .int .u64 (s.sd : Int)) rfl
  obtain ⟨g2, wa3, za6, sa4, Ha5, _⟩ := H0.out.newA ty_source (#[.int .u64 0]) #[.int .u64 (s.sd : Int)] rfl rfl rfl
  replace Ha5 : Loc _ _ _ [(w.heap.size, 30, #[.int .u64 (s.fr : Int), .int .u64 (s.sd : Int), .int .i32 s.p.x, .int .i32 s.p.y, .int .i32 s.p.vx, .int .i32 s.p.vy, .int .u8 (s.p.h : Int), .int .u8 (s.p.c : Int), .int .u8 (s.p.f : Int), .int .i32 s.q.x, .int .i32 s.q.y, .int .i32 s.q.vx, .int .i32 s.q.vy, .int .u8 (s.q.h : Int), .int .u8 (s.q.c : Int), .int .u8 (s.q.f : Int), .slice ao s.ss.length cap, .int .u16 (s.s0 : Int), .int .u16 (s.s1 : Int)]), (w.heap.size + 1, 30, zsc), (g2, 105, #[.int .u64 (s.sd : Int)])] := Ha5
  have la7 := Ha5.ldA ty_player 0 rfl 2 (vs := (pcs s.p)) rfl (Nat.le_of_ble_eq_true rfl)
  go_wp2_with fail
  refine (C1.out _).mono ?_
  rintro E w4 ⟨rfl, hb4⟩
  clear la7 za6 sa4 la2 la1
  have Ha8 := Ha5.to hb4
  obtain ⟨wa9, sa10, Ha11, _⟩ := Ha8.stA ty_player 0 rfl 2 (pcs (haltP s.p)) (cs' := stc { s with p := haltP s.p } ao cap) rfl (L' := [(w.heap.size, 30, stc { s with p := haltP s.p } ao cap), (w.heap.size + 1, 30, zsc), (g2, 105, #[.int .u64 (s.sd : Int)])]) rfl (Nat.le_of_ble_eq_true rfl) rfl rfl
  obtain ⟨wa12, sa13, Ha14, _⟩ := Ha11.stO ty_u8 0 rfl 6 (.int .u8 100) (cs' := stc { s with p := (⟨s.p.x, s.p.y, 0, 0, 100, s.p.c, s.p.f⟩ : Pl) } ao cap) rfl (L' := [(w.heap.size, 30, stc { s with p := (⟨s.p.x, s.p.y, 0, 0, 100, s.p.c, s.p.f⟩ : Pl) } ao cap), (w.heap.size + 1, 30, zsc), (g2, 105, #[.int .u64 (s.sd : Int)])]) rfl (Nat.le_of_ble_eq_true rfl) rfl rfl
  have la15 := Ha14.ldA ty_players 0 rfl 2 (vs := (pps (⟨s.p.x, s.p.y, 0, 0, 100, s.p.c, s.p.f⟩ : Pl) s.q)) rfl (Nat.le_of_ble_eq_true rfl)
  obtain ⟨g3, wa16, za19, sa17, Ha18, _⟩ := Ha14.newA ty_players zpp (pps (⟨s.p.x, s.p.y, 0, 0, 100, s.p.c, s.p.f⟩ : Pl) s.q) rfl rfl rfl
  replace Ha18 : Loc _ _ _ [(w.heap.size, 30, #[.int .u64 (s.fr : Int), .int .u64 (s.sd : Int), .int .i32 s.p.x, .int .i32 s.p.y, .int .i32 0, .int .i32 0, .int .u8 100, .int .u8 (s.p.c : Int), .int .u8 (s.p.f : Int), .int .i32 s.q.x, .int .i32 s.q.y, .int .i32 s.q.vx, .int .i32 s.q.vy, .int .u8 (s.q.h : Int), .int .u8 (s.q.c : Int), .int .u8 (s.q.f : Int), .slice ao s.ss.length cap, .int .u16 (s.s0 : Int), .int .u16 (s.s1 : Int)]), (w.heap.size + 1, 30, zsc), (g2, 105, #[.int .u64 (s.sd : Int)]), (g3, 25, #[.int .i32 s.p.x, .int .i32 s.p.y, .int .i32 0, .int .i32 0, .int .u8 100, .int .u8 (s.p.c : Int), .int .u8 (s.p.f : Int), .int .i32 s.q.x, .int .i32 s.q.y, .int .i32 s.q.vx, .int .i32 s.q.vy, .int .u8 (s.q.h : Int), .int .u8 (s.q.c : Int), .int .u8 (s.q.f : Int)])] := Ha18
  go_wp2_with fail
  refine (D1.out g2 _ (Ha18.get 2 rfl)).mono ?_
  rintro E w5 ⟨rfl, hc5, hb5⟩
  clear za19 sa17 la15 sa13 sa10
  have Ha20 := Ha18.turn (k := 2) #[.int .u64 (u1 : Int)] rfl (L' := [(w.heap.size, 30, #[.int .u64 (s.fr : Int), .int .u64 (s.sd : Int), .int .i32 s.p.x, .int .i32 s.p.y, .int .i32 0, .int .i32 0, .int .u8 100, .int .u8 (s.p.c : Int), .int .u8 (s.p.f : Int), .int .i32 s.q.x, .int .i32 s.q.y, .int .i32 s.q.vx, .int .i32 s.q.vy, .int .u8 (s.q.h : Int), .int .u8 (s.q.c : Int), .int .u8 (s.q.f : Int), .slice ao s.ss.length cap, .int .u16 (s.s0 : Int), .int .u16 (s.s1 : Int)]), (w.heap.size + 1, 30, zsc), (g2, 105, #[.int .u64 (u1 : Int)]), (g3, 25, #[.int .i32 s.p.x, .int .i32 s.p.y, .int .i32 0, .int .i32 0, .int .u8 100, .int .u8 (s.p.c : Int), .int .u8 (s.p.f : Int), .int .i32 s.q.x, .int .i32 s.q.y, .int .i32 s.q.vx, .int .i32 s.q.vy, .int .u8 (s.q.h : Int), .int .u8 (s.q.c : Int), .int .u8 (s.q.f : Int)])]) rfl hb5 hc5
  obtain ⟨wa21, sa22, Ha23, _⟩ := Ha20.stO ty_i32 3 rfl 0 (.int .i32 (n1 : Int)) (cs' := #[.int .i32 (n1 : Int), .int .i32 s.p.y, .int .i32 0, .int .i32 0, .int .u8 100, .int .u8 (s.p.c : Int), .int .u8 (s.p.f : Int), .int .i32 s.q.x, .int .i32 s.q.y, .int .i32 s.q.vx, .int .i32 s.q.vy, .int .u8 (s.q.h : Int), .int .u8 (s.q.c : Int), .int .u8 (s.q.f : Int)]) rfl (L' := [(w.heap.size, 30, #[.int .u64 (s.fr : Int), .int .u64 (s.sd : Int), .int .i32 s.p.x, .int .i32 s.p.y, .int .i32 0, .int .i32 0, .int .u8 100, .int .u8 (s.p.c : Int), .int .u8 (s.p.f : Int), .int .i32 s.q.x, .int .i32 s.q.y, .int .i32 s.q.vx, .int .i32 s.q.vy, .int .u8 (s.q.h : Int), .int .u8 (s.q.c : Int), .int .u8 (s.q.f : Int), .slice ao s.ss.length cap, .int .u16 (s.s0 : Int), .int .u16 (s.s1 : Int)]), (w.heap.size + 1, 30, zsc), (g2, 105, #[.int .u64 (u1 : Int)]), (g3, 25, #[.int .i32 (n1 : Int), .int .i32 s.p.y, .int .i32 0, .int .i32 0, .int .u8 100, .int .u8 (s.p.c : Int), .int .u8 (s.p.f : Int), .int .i32 s.q.x, .int .i32 s.q.y, .int .i32 s.q.vx, .int .i32 s.q.vy, .int .u8 (s.q.h : Int), .int .u8 (s.q.c : Int), .int .u8 (s.q.f : Int)])]) rfl (Nat.le_of_ble_eq_true rfl) rfl rfl
  go_wp2_with fail
  refine (D2.out g2 _ (Ha23.get 2 rfl)).mono ?_
  rintro E w6 ⟨rfl, hc6, hb6⟩
  clear sa22
  have Ha24 := Ha23.turn (k := 2) #[.int .u64 (u : Int)] rfl (L' := [(w.heap.size, 30, #[.int .u64 (s.fr : Int), .int .u64 (s.sd : Int), .int .i32 s.p.x, .int .i32 s.p.y, .int .i32 0, .int .i32 0, .int .u8 100, .int .u8 (s.p.c : Int), .int .u8 (s.p.f : Int), .int .i32 s.q.x, .int .i32 s.q.y, .int .i32 s.q.vx, .int .i32 s.q.vy, .int .u8 (s.q.h : Int), .int .u8 (s.q.c : Int), .int .u8 (s.q.f : Int), .slice ao s.ss.length cap, .int .u16 (s.s0 : Int), .int .u16 (s.s1 : Int)]), (w.heap.size + 1, 30, zsc), (g2, 105, #[.int .u64 (u : Int)]), (g3, 25, #[.int .i32 (n1 : Int), .int .i32 s.p.y, .int .i32 0, .int .i32 0, .int .u8 100, .int .u8 (s.p.c : Int), .int .u8 (s.p.f : Int), .int .i32 s.q.x, .int .i32 s.q.y, .int .i32 s.q.vx, .int .i32 s.q.vy, .int .u8 (s.q.h : Int), .int .u8 (s.q.c : Int), .int .u8 (s.q.f : Int)])]) rfl hb6 hc6
  obtain ⟨wa25, sa26, Ha27, _⟩ := Ha24.stO ty_i32 3 rfl 1 (.int .i32 (n2 : Int)) (cs' := #[.int .i32 (n1 : Int), .int .i32 (n2 : Int), .int .i32 0, .int .i32 0, .int .u8 100, .int .u8 (s.p.c : Int), .int .u8 (s.p.f : Int), .int .i32 s.q.x, .int .i32 s.q.y, .int .i32 s.q.vx, .int .i32 s.q.vy, .int .u8 (s.q.h : Int), .int .u8 (s.q.c : Int), .int .u8 (s.q.f : Int)]) rfl (L' := [(w.heap.size, 30, #[.int .u64 (s.fr : Int), .int .u64 (s.sd : Int), .int .i32 s.p.x, .int .i32 s.p.y, .int .i32 0, .int .i32 0, .int .u8 100, .int .u8 (s.p.c : Int), .int .u8 (s.p.f : Int), .int .i32 s.q.x, .int .i32 s.q.y, .int .i32 s.q.vx, .int .i32 s.q.vy, .int .u8 (s.q.h : Int), .int .u8 (s.q.c : Int), .int .u8 (s.q.f : Int), .slice ao s.ss.length cap, .int .u16 (s.s0 : Int), .int .u16 (s.s1 : Int)]), (w.heap.size + 1, 30, zsc), (g2, 105, #[.int .u64 (u : Int)]), (g3, 25, #[.int .i32 (n1 : Int), .int .i32 (n2 : Int), .int .i32 0, .int .i32 0, .int .u8 100, .int .u8 (s.p.c : Int), .int .u8 (s.p.f : Int), .int .i32 s.q.x, .int .i32 s.q.y, .int .i32 s.q.vx, .int .i32 s.q.vy, .int .u8 (s.q.h : Int), .int .u8 (s.q.c : Int), .int .u8 (s.q.f : Int)])]) rfl (Nat.le_of_ble_eq_true rfl) rfl rfl
  have la28 := Ha27.ldA ty_players 3 rfl 0 (vs := (pps (⟨(n1 : Int), (n2 : Int), 0, 0, 100, s.p.c, s.p.f⟩ : Pl) s.q)) rfl (Nat.le_of_ble_eq_true rfl)
  go_wp2_with fail
  refine (C2.out _).mono ?_
  rintro E w7 ⟨rfl, hb7⟩
  clear la28 sa26
  have Ha29 := Ha27.to hb7
  cases b
  · rw [if_neg (of_decide_eq_false HB.out.symm)] at HQ
    have la30 := Ha29.ldA ty_players 3 rfl 0 (vs := (pps (⟨(n1 : Int), (n2 : Int), 0, 0, 100, s.p.c, s.p.f⟩ : Pl) s.q)) rfl (Nat.le_of_ble_eq_true rfl)
    obtain ⟨wa31, sa32, Ha33, _⟩ := Ha29.stA ty_players 0 rfl 2 (pps (⟨(n1 : Int), (n2 : Int), 0, 0, 100, s.p.c, s.p.f⟩ : Pl) s.q) (cs' := stc { s with p := (⟨(n1 : Int), (n2 : Int), 0, 0, 100, s.p.c, s.p.f⟩ : Pl) } ao cap) rfl (L' := [(w.heap.size, 30, stc { s with p := (⟨(n1 : Int), (n2 : Int), 0, 0, 100, s.p.c, s.p.f⟩ : Pl) } ao cap), (w.heap.size + 1, 30, zsc), (g2, 105, #[.int .u64 (u : Int)]), (g3, 25, #[.int .i32 (n1 : Int), .int .i32 (n2 : Int), .int .i32 0, .int .i32 0, .int .u8 100, .int .u8 (s.p.c : Int), .int .u8 (s.p.f : Int), .int .i32 s.q.x, .int .i32 s.q.y, .int .i32 s.q.vx, .int .i32 s.q.vy, .int .u8 (s.q.h : Int), .int .u8 (s.q.c : Int), .int .u8 (s.q.f : Int)])]) rfl (Nat.le_of_ble_eq_true rfl) rfl rfl
    have la34 := Ha33.ldO ty_u64 2 rfl 0 (v := .int .u64 (u : Int)) rfl
    obtain ⟨wa35, sa36, Ha37, _⟩ := Ha33.stO ty_u64 0 rfl 1 (.int .u64 (u : Int)) (cs' := stc { s with p := (⟨(n1 : Int), (n2 : Int), 0, 0, 100, s.p.c, s.p.f⟩ : Pl), sd := u } ao cap) rfl (L' := [(w.heap.size, 30, stc { s with p := (⟨(n1 : Int), (n2 : Int), 0, 0, 100, s.p.c, s.p.f⟩ : Pl), sd := u } ao cap), (w.heap.size + 1, 30, zsc), (g2, 105, #[.int .u64 (u : Int)]), (g3, 25, #[.int .i32 (n1 : Int), .int .i32 (n2 : Int), .int .i32 0, .int .i32 0, .int .u8 100, .int .u8 (s.p.c : Int), .int .u8 (s.p.f : Int), .int .i32 s.q.x, .int .i32 s.q.y, .int .i32 s.q.vx, .int .i32 s.q.vy, .int .u8 (s.q.h : Int), .int .u8 (s.q.c : Int), .int .u8 (s.q.f : Int)])]) rfl (Nat.le_of_ble_eq_true rfl) rfl rfl
    have la38 := Ha37.ldA ty_state 0 rfl 0 (vs := (stc { s with p := (⟨(n1 : Int), (n2 : Int), 0, 0, 100, s.p.c, s.p.f⟩ : Pl), sd := u } ao cap)) rfl (Nat.le_of_ble_eq_true rfl)
    obtain ⟨wa39, sa40, Ha41, _⟩ := Ha37.stA ty_state 1 rfl 0 (stc { s with p := (⟨(n1 : Int), (n2 : Int), 0, 0, 100, s.p.c, s.p.f⟩ : Pl), sd := u } ao cap) (cs' := stc { s with p := (⟨(n1 : Int), (n2 : Int), 0, 0, 100, s.p.c, s.p.f⟩ : Pl), sd := u } ao cap) rfl (L' := [(w.heap.size, 30, #[.int .u64 (s.fr : Int), .int .u64 (u : Int), .int .i32 (n1 : Int), .int .i32 (n2 : Int), .int .i32 0, .int .i32 0, .int .u8 100, .int .u8 (s.p.c : Int), .int .u8 (s.p.f : Int), .int .i32 s.q.x, .int .i32 s.q.y, .int .i32 s.q.vx, .int .i32 s.q.vy, .int .u8 (s.q.h : Int), .int .u8 (s.q.c : Int), .int .u8 (s.q.f : Int), .slice ao s.ss.length cap, .int .u16 (s.s0 : Int), .int .u16 (s.s1 : Int)]), (w.heap.size + 1, 30, stc { s with p := (⟨(n1 : Int), (n2 : Int), 0, 0, 100, s.p.c, s.p.f⟩ : Pl), sd := u } ao cap), (g2, 105, #[.int .u64 (u : Int)]), (g3, 25, #[.int .i32 (n1 : Int), .int .i32 (n2 : Int), .int .i32 0, .int .i32 0, .int .u8 100, .int .u8 (s.p.c : Int), .int .u8 (s.p.f : Int), .int .i32 s.q.x, .int .i32 s.q.y, .int .i32 s.q.vx, .int .i32 s.q.vy, .int .u8 (s.q.h : Int), .int .u8 (s.q.c : Int), .int .u8 (s.q.f : Int)])]) rfl (Nat.le_of_ble_eq_true rfl) rfl rfl
    go_wp2
    refine bodyPost_ret (v := .agg (stc { s with p := (⟨(n1 : Int), (n2 : Int), 0, 0, 100, s.p.c, s.p.f⟩ : Pl), sd := u } ao cap)) (ret_struct Tryd.underlying30 ty_state _ 4 _ Tryd.results46 (Ha41.get 1 rfl) rfl rfl) rfl ?_
    exact HQ.out _ Ha41.be
  · rw [if_pos (of_decide_eq_true HB.out.symm)] at HQ
    have la30 := Ha29.ldO ty_u64 2 rfl 0 (v := .int .u64 (u : Int)) rfl
    obtain ⟨wa31, sa32, Ha33, _⟩ := Ha29.stO ty_u64 0 rfl 1 (.int .u64 (u : Int)) (cs' := stc { s with p := (⟨s.p.x, s.p.y, 0, 0, 100, s.p.c, s.p.f⟩ : Pl), sd := u } ao cap) rfl (L' := [(w.heap.size, 30, stc { s with p := (⟨s.p.x, s.p.y, 0, 0, 100, s.p.c, s.p.f⟩ : Pl), sd := u } ao cap), (w.heap.size + 1, 30, zsc), (g2, 105, #[.int .u64 (u : Int)]), (g3, 25, #[.int .i32 (n1 : Int), .int .i32 (n2 : Int), .int .i32 0, .int .i32 0, .int .u8 100, .int .u8 (s.p.c : Int), .int .u8 (s.p.f : Int), .int .i32 s.q.x, .int .i32 s.q.y, .int .i32 s.q.vx, .int .i32 s.q.vy, .int .u8 (s.q.h : Int), .int .u8 (s.q.c : Int), .int .u8 (s.q.f : Int)])]) rfl (Nat.le_of_ble_eq_true rfl) rfl rfl
    have la34 := Ha33.ldA ty_state 0 rfl 0 (vs := (stc { s with p := (⟨s.p.x, s.p.y, 0, 0, 100, s.p.c, s.p.f⟩ : Pl), sd := u } ao cap)) rfl (Nat.le_of_ble_eq_true rfl)
    obtain ⟨wa35, sa36, Ha37, _⟩ := Ha33.stA ty_state 1 rfl 0 (stc { s with p := (⟨s.p.x, s.p.y, 0, 0, 100, s.p.c, s.p.f⟩ : Pl), sd := u } ao cap) (cs' := stc { s with p := (⟨s.p.x, s.p.y, 0, 0, 100, s.p.c, s.p.f⟩ : Pl), sd := u } ao cap) rfl (L' := [(w.heap.size, 30, #[.int .u64 (s.fr : Int), .int .u64 (u : Int), .int .i32 s.p.x, .int .i32 s.p.y, .int .i32 0, .int .i32 0, .int .u8 100, .int .u8 (s.p.c : Int), .int .u8 (s.p.f : Int), .int .i32 s.q.x, .int .i32 s.q.y, .int .i32 s.q.vx, .int .i32 s.q.vy, .int .u8 (s.q.h : Int), .int .u8 (s.q.c : Int), .int .u8 (s.q.f : Int), .slice ao s.ss.length cap, .int .u16 (s.s0 : Int), .int .u16 (s.s1 : Int)]), (w.heap.size + 1, 30, stc { s with p := (⟨s.p.x, s.p.y, 0, 0, 100, s.p.c, s.p.f⟩ : Pl), sd := u } ao cap), (g2, 105, #[.int .u64 (u : Int)]), (g3, 25, #[.int .i32 (n1 : Int), .int .i32 (n2 : Int), .int .i32 0, .int .i32 0, .int .u8 100, .int .u8 (s.p.c : Int), .int .u8 (s.p.f : Int), .int .i32 s.q.x, .int .i32 s.q.y, .int .i32 s.q.vx, .int .i32 s.q.vy, .int .u8 (s.q.h : Int), .int .u8 (s.q.c : Int), .int .u8 (s.q.f : Int)])]) rfl (Nat.le_of_ble_eq_true rfl) rfl rfl
    go_wp2
    refine bodyPost_ret (v := .agg (stc { s with p := (⟨s.p.x, s.p.y, 0, 0, 100, s.p.c, s.p.f⟩ : Pl), sd := u } ao cap)) (ret_struct Tryd.underlying30 ty_state _ 4 _ Tryd.results46 (Ha37.get 1 rfl) rfl rfl) rfl ?_
    exact HQ.out _ Ha37.be
theorem rev0_c (s : St) (ao : Option Addr) (cap : Nat) (w : World) (hsd : s.sd < 18446744073709551616) (hox : G.in32 s.q.x) (hoy : G.in32 s.q.y) :
    Calls Tryd.prog 46 #[sv s ao cap, .int .i64 0] w fun E w' => E = .returned (sv (back src s 0) ao cap) ∧ Below w.heap.size w w' := by
  by_cases hh : 0 < s.p.h
  · have e : back src s 0 = s := by rw [back, if_pos (by show 0 < s.p.h; exact hh)]
    rw [e]; exact rev0_alive s ao cap w hh
  · exact rev0_dead s ao cap w (by omega) hsd hox hoy
set_option maxHeartbeats 2000000 in
theorem rev1_alive (s : St) (ao : Option Addr) (cap : Nat) (w : World) (hh : 0 < s.q.h) :
    Calls Tryd.prog 46 #[sv s ao cap, .int .i64 1] w fun E w' => E = .returned (sv s ao cap) ∧ Below w.heap.size w w' := by
  have H0 := Lib.hid (Loc.two w 30 30 (stc s ao cap) zsc)
  have hhi : (0 : Int) < (s.q.h : Int) := by omega
  obtain ⟨Q, hQ⟩ : ∃ Q : Ending → World → Prop, Q = fun E w' => E = .returned (sv s ao cap) ∧ Below w.heap.size w w' := ⟨_, rfl⟩
  rw [← hQ]
  have HQ : Hid (∀ w', Below w.heap.size w w' → Q (.returned (sv s ao cap)) w') := fun w' h => by rw [hQ]; exact ⟨rfl, h⟩
  clear hQ
  go_enter Tryd.func46, Tryd.ntmps46
  go_upto_region 1 with fail
  generalize (w.alloc (.cells (stc s ao cap) 30)).alloc (.cells zsc 30) = wa at *
  have la1 := H0.out.ldO ty_u8 0 rfl 13 (v := .int .u8 (s.q.h : Int)) rfl
  have la2 := H0.out.ldA ty_state 0 rfl 0 (vs := (stc s ao cap)) rfl (Nat.le_of_ble_eq_true rfl)
  obtain ⟨wa3, sa4, Ha5, _⟩ := H0.out.stA ty_state 1 rfl 0 (stc s ao cap) (cs' := stc s ao cap) rfl (L' := [(w.heap.size, 30, #[.int .u64 (s.fr : Int), .int .u64 (s.sd : Int), .int .i32 s.p.x, .int .i32 s.p.y, .int .i32 s.p.vx, .int .i32 s.p.vy, .int .u8 (s.p.h : Int), .int .u8 (s.p.c : Int), .int .u8 (s.p.f : Int), .int .i32 s.q.x, .int .i32 s.q.y, .int .i32 s.q.vx, .int .i32 s.q.vy, .int .u8 (s.q.h : Int), .int .u8 (s.q.c : Int), .int .u8 (s.q.f : Int), .slice ao s.ss.length cap, .int .u16 (s.s0 : Int), .int .u16 (s.s1 : Int)]), (w.heap.size + 1, 30, stc s ao cap)]) rfl (Nat.le_of_ble_eq_true rfl) rfl rfl
  go_wp2
  refine bodyPost_ret (v := .agg (stc s ao cap)) (ret_struct Tryd.underlying30 ty_state _ 4 _ Tryd.results46 (Ha5.get 1 rfl) rfl rfl) rfl ?_
  exact HQ.out _ Ha5.be
set_option maxHeartbeats 2000000 in
theorem rev1_dead (s : St) (ao : Option Addr) (cap : Nat) (w : World) (hh : s.q.h = 0) (hsd : s.sd < 18446744073709551616) (hox : G.in32 s.p.x) (hoy : G.in32 s.p.y) :
    Calls Tryd.prog 46 #[sv s ao cap, .int .i64 1] w fun E w' => E = .returned (sv (back src s 1) ao cap) ∧ Below w.heap.size w w' := by
  have hmf : ∀ (fn : Fn) (first cap : Array Value) (w : World), (Instr.makeFunc fn first cap).run Tryd.prog w = .ok (.func fn first cap) w := fun _ _ _ _ => rfl
  have HBK : Hid (back src s 1 = { s with q := if OvP ⟨(R.bl s.sd 61441 : Nat), (R.bl (skp s.sd 1) 28673 : Nat), 0, 0, 100, s.q.c, s.q.f⟩ s.p then ⟨s.q.x, s.q.y, 0, 0, 100, s.q.c, s.q.f⟩ else ⟨(R.bl s.sd 61441 : Nat), (R.bl (skp s.sd 1) 28673 : Nat), 0, 0, 100, s.q.c, s.q.f⟩, sd := skp (skp s.sd 1) 1 }) := by
    show _ = _
    rw [back, if_neg (by show ¬ 0 < s.q.h; omega)]
    rfl
  have H0 := Lib.hid (Loc.two w 30 30 (stc s ao cap) zsc)
  obtain ⟨Q, hQ⟩ : ∃ Q : Ending → World → Prop, Q = fun E w' => E = .returned (sv (back src s 1) ao cap) ∧ Below w.heap.size w w' := ⟨_, rfl⟩
  rw [← hQ]
  have HQ : Hid (∀ w', Below w.heap.size w w' → Q (.returned (sv (back src s 1) ao cap)) w') := fun w' h => by rw [hQ]; exact ⟨rfl, h⟩
  clear hQ
  rw [HBK.out] at HQ
  clear HBK
  have hl1 : R.bl s.sd 61441 < 61441 := bel_lt mx_lt (by decide)
  have hl2 : R.bl (skp s.sd 1) 28673 < 28673 := bel_lt mx_lt (by decide)
  have D1 := Lib.hid (fun g W (h : Cells W g 105 #[.int .u64 (s.sd : Int)]) => draw61440_c s.sd g W hsd h)
  have D2 := Lib.hid (fun g W (h : Cells W g 105 #[.int .u64 ((skp s.sd 1 : Nat) : Int)]) => draw28672_c (skp s.sd 1) g W (skp_lt _ _) h)
  generalize R.bl s.sd 61441 = n1 at *
  generalize R.bl (skp s.sd 1) 28673 = n2 at *
  generalize skp (skp s.sd 1) 1 = u at *
  generalize skp s.sd 1 = u1 at *
  have hrin : G.in32 (n1 : Int) ∧ G.in32 (n2 : Int) := by unfold G.in32; omega
  have C1 := Lib.hid (fun W => stopped_c s.q W)
  have C2 : Hid (∀ W, Calls Tryd.prog 61 #[.agg (pps s.p (⟨(n1 : Int), (n2 : Int), 0, 0, 100, s.q.c, s.q.f⟩ : Pl))] W fun E w' => E = .returned (.bool (!decide (OvP (⟨(n1 : Int), (n2 : Int), 0, 0, 100, s.q.c, s.q.f⟩ : Pl) s.p))) ∧ Below W.heap.size W w') := fun W => by
    have := apart_c s.p (⟨(n1 : Int), (n2 : Int), 0, 0, 100, s.q.c, s.q.f⟩ : Pl) W ⟨hox, hoy⟩ hrin
    rw [show decide (OvP s.p (⟨(n1 : Int), (n2 : Int), 0, 0, 100, s.q.c, s.q.f⟩ : Pl)) = decide (OvP (⟨(n1 : Int), (n2 : Int), 0, 0, 100, s.q.c, s.q.f⟩ : Pl) s.p) from decide_eq_decide.2 (ovp_comm _ _)] at this
    exact this
  obtain ⟨b, hb⟩ : ∃ b, b = decide (OvP (⟨(n1 : Int), (n2 : Int), 0, 0, 100, s.q.c, s.q.f⟩ : Pl) s.p) := ⟨_, rfl⟩
  have HB := Lib.hid hb
  rw [← hb] at C2
  clear hb hl1 hl2 hrin hox hoy hsd
  unfold pv at C1
  go_enter Tryd.func46, Tryd.ntmps46
  go_upto_region 1 with fail
  generalize (w.alloc (.cells (stc s ao cap) 30)).alloc (.cells zsc 30) = wa at *
  have la1 := H0.out.ldO ty_u8 0 rfl 13 (v := .int .u8 0) (by show some (Value.int .u8 (s.q.h : Int)) = _; rw [hh]; rfl)
  have la2 := H0.out.ldO ty_u64 0 rfl 1 (v := .int .u64 (s.sd : Int)) rfl
  obtain ⟨g2, wa3, za6, sa4, Ha5, _⟩ := H0.out.newA ty_source (#[.int .u64 0]) #[.int .u64 (s.sd : Int)] rfl rfl rfl
  replace Ha5 : Loc _ _ _ [(w.heap.size, 30, #[.int .u64 (s.fr : Int), .int .u64 (s.sd : Int), .int .i32 s.p.x, .int .i32 s.p.y, .int .i32 s.p.vx, .int .i32 s.p.vy, .int .u8 (s.p.h : Int), .int .u8 (s.p.c : Int), .int .u8 (s.p.f : Int), .int .i32 s.q.x, .int .i32 s.q.y, .int .i32 s.q.vx, .int .i32 s.q.vy, .int .u8 (s.q.h : Int), .int .u8 (s.q.c : Int), .int .u8 (s.q.f : Int), .slice ao s.ss.length cap, .int .u16 (s.s0 : Int), .int .u16 (s.s1 : Int)]), (w.heap.size + 1, 30, zsc), (g2, 105, #[.int .u64 (s.sd : Int)])] := Ha5
  have la7 := Ha5.ldA ty_player 0 rfl 9 (vs := (pcs s.q)) rfl (Nat.le_of_ble_eq_true rfl)
  go_wp2_with fail
  refine (C1.out _).mono ?_
  rintro E w4 ⟨rfl, hb4⟩
  clear la7 za6 sa4 la2 la1
  have Ha8 := Ha5.to hb4
  obtain ⟨wa9, sa10, Ha11, _⟩ := Ha8.stA ty_player 0 rfl 9 (pcs (haltP s.q)) (cs' := stc { s with q := haltP s.q } ao cap) rfl (L' := [(w.heap.size, 30, stc { s with q := haltP s.q } ao cap), (w.heap.size + 1, 30, zsc), (g2, 105, #[.int .u64 (s.sd : Int)])]) rfl (Nat.le_of_ble_eq_true rfl) rfl rfl
  obtain ⟨wa12, sa13, Ha14, _⟩ := Ha11.stO ty_u8 0 rfl 13 (.int .u8 100) (cs' := stc { s with q := (⟨s.q.x, s.q.y, 0, 0, 100, s.q.c, s.q.f⟩ : Pl) } ao cap) rfl (L' := [(w.heap.size, 30, stc { s with q := (⟨s.q.x, s.q.y, 0, 0, 100, s.q.c, s.q.f⟩ : Pl) } ao cap), (w.heap.size + 1, 30, zsc), (g2, 105, #[.int .u64 (s.sd : Int)])]) rfl (Nat.le_of_ble_eq_true rfl) rfl rfl
  have la15 := Ha14.ldA ty_players 0 rfl 2 (vs := (pps s.p (⟨s.q.x, s.q.y, 0, 0, 100, s.q.c, s.q.f⟩ : Pl))) rfl (Nat.le_of_ble_eq_true rfl)
  obtain ⟨g3, wa16, za19, sa17, Ha18, _⟩ := Ha14.newA ty_players zpp (pps s.p (⟨s.q.x, s.q.y, 0, 0, 100, s.q.c, s.q.f⟩ : Pl)) rfl rfl rfl
  replace Ha18 : Loc _ _ _ [(w.heap.size, 30, #[.int .u64 (s.fr : Int), .int .u64 (s.sd : Int), .int .i32 s.p.x, .int .i32 s.p.y, .int .i32 s.p.vx, .int .i32 s.p.vy, .int .u8 (s.p.h : Int), .int .u8 (s.p.c : Int), .int .u8 (s.p.f : Int), .int .i32 s.q.x, .int .i32 s.q.y, .int .i32 0, .int .i32 0, .int .u8 100, .int .u8 (s.q.c : Int), .int .u8 (s.q.f : Int), .slice ao s.ss.length cap, .int .u16 (s.s0 : Int), .int .u16 (s.s1 : Int)]), (w.heap.size + 1, 30, zsc), (g2, 105, #[.int .u64 (s.sd : Int)]), (g3, 25, #[.int .i32 s.p.x, .int .i32 s.p.y, .int .i32 s.p.vx, .int .i32 s.p.vy, .int .u8 (s.p.h : Int), .int .u8 (s.p.c : Int), .int .u8 (s.p.f : Int), .int .i32 s.q.x, .int .i32 s.q.y, .int .i32 0, .int .i32 0, .int .u8 100, .int .u8 (s.q.c : Int), .int .u8 (s.q.f : Int)])] := Ha18
  go_wp2_with fail
  refine (D1.out g2 _ (Ha18.get 2 rfl)).mono ?_
  rintro E w5 ⟨rfl, hc5, hb5⟩
  clear za19 sa17 la15 sa13 sa10
  have Ha20 := Ha18.turn (k := 2) #[.int .u64 (u1 : Int)] rfl (L' := [(w.heap.size, 30, #[.int .u64 (s.fr : Int), .int .u64 (s.sd : Int), .int .i32 s.p.x, .int .i32 s.p.y, .int .i32 s.p.vx, .int .i32 s.p.vy, .int .u8 (s.p.h : Int), .int .u8 (s.p.c : Int), .int .u8 (s.p.f : Int), .int .i32 s.q.x, .int .i32 s.q.y, .int .i32 0, .int .i32 0, .int .u8 100, .int .u8 (s.q.c : Int), .int .u8 (s.q.f : Int), .slice ao s.ss.length cap, .int .u16 (s.s0 : Int), .int .u16 (s.s1 : Int)]), (w.heap.size + 1, 30, zsc), (g2, 105, #[.int .u64 (u1 : Int)]), (g3, 25, #[.int .i32 s.p.x, .int .i32 s.p.y, .int .i32 s.p.vx, .int .i32 s.p.vy, .int .u8 (s.p.h : Int), .int .u8 (s.p.c : Int), .int .u8 (s.p.f : Int), .int .i32 s.q.x, .int .i32 s.q.y, .int .i32 0, .int .i32 0, .int .u8 100, .int .u8 (s.q.c : Int), .int .u8 (s.q.f : Int)])]) rfl hb5 hc5
  obtain ⟨wa21, sa22, Ha23, _⟩ := Ha20.stO ty_i32 3 rfl 7 (.int .i32 (n1 : Int)) (cs' := #[.int .i32 s.p.x, .int .i32 s.p.y, .int .i32 s.p.vx, .int .i32 s.p.vy, .int .u8 (s.p.h : Int), .int .u8 (s.p.c : Int), .int .u8 (s.p.f : Int), .int .i32 (n1 : Int), .int .i32 s.q.y, .int .i32 0, .int .i32 0, .int .u8 100, .int .u8 (s.q.c : Int), .int .u8 (s.q.f : Int)]) rfl (L' := [(w.heap.size, 30, #[.int .u64 (s.fr : Int), .int .u64 (s.sd : Int), .int .i32 s.p.x, .int .i32 s.p.y, .int .i32 s.p.vx, .int .i32 s.p.vy, .int .u8 (s.p.h : Int), .int .u8 (s.p.c : Int), .int .u8 (s.p.f : Int), .int .i32 s.q.x, .int .i32 s.q.y, .int .i32 0, .int .i32 0, .int .u8 100, .int .u8 (s.q.c : Int), .int .u8 (s.q.f : Int), .slice ao s.ss.length cap, .int .u16 (s.s0 : Int), .int .u16 (s.s1 : Int)]), (w.heap.size + 1, 30, zsc), (g2, 105, #[.int .u64 (u1 : Int)]), (g3, 25, #[.int .i32 s.p.x, .int .i32 s.p.y, .int .i32 s.p.vx, .int .i32 s.p.vy, .int .u8 (s.p.h : Int), .int .u8 (s.p.c : Int), .int .u8 (s.p.f : Int), .int .i32 (n1 : Int), .int .i32 s.q.y, .int .i32 0, .int .i32 0, .int .u8 100, .int .u8 (s.q.c : Int), .int .u8 (s.q.f : Int)])]) rfl (Nat.le_of_ble_eq_true rfl) rfl rfl
  go_wp2_with fail
  refine (D2.out g2 _ (Ha23.get 2 rfl)).mono ?_
  rintro E w6 ⟨rfl, hc6, hb6⟩
  clear sa22
  have Ha24 := Ha23.turn (k := 2) #[.int .u64 (u : Int)] rfl (L' := [(w.heap.size, 30, #[.int .u64 (s.fr : Int), .int .u64 (s.sd : Int), .int .i32 s.p.x, .int .i32 s.p.y, .int .i32 s.p.vx, .int .i32 s.p.vy, .int .u8 (s.p.h : Int), .int .u8 (s.p.c : Int), .int .u8 (s.p.f : Int), .int .i32 s.q.x, .int .i32 s.q.y, .int .i32 0, .int .i32 0, .int .u8 100, .int .u8 (s.q.c : Int), .int .u8 (s.q.f : Int), .slice ao s.ss.length cap, .int .u16 (s.s0 : Int), .int .u16 (s.s1 : Int)]), (w.heap.size + 1, 30, zsc), (g2, 105, #[.int .u64 (u : Int)]), (g3, 25, #[.int .i32 s.p.x, .int .i32 s.p.y, .int .i32 s.p.vx, .int .i32 s.p.vy, .int .u8 (s.p.h : Int), .int .u8 (s.p.c : Int), .int .u8 (s.p.f : Int), .int .i32 (n1 : Int), .int .i32 s.q.y, .int .i32 0, .int .i32 0, .int .u8 100, .int .u8 (s.q.c : Int), .int .u8 (s.q.f : Int)])]) rfl hb6 hc6
  obtain ⟨wa25, sa26, Ha27, _⟩ := Ha24.stO ty_i32 3 rfl 8 (.int .i32 (n2 : Int)) (cs' := #[.int .i32 s.p.x, .int .i32 s.p.y, .int .i32 s.p.vx, .int .i32 s.p.vy, .int .u8 (s.p.h : Int), .int .u8 (s.p.c : Int), .int .u8 (s.p.f : Int), .int .i32 (n1 : Int), .int .i32 (n2 : Int), .int .i32 0, .int .i32 0, .int .u8 100, .int .u8 (s.q.c : Int), .int .u8 (s.q.f : Int)]) rfl (L' := [(w.heap.size, 30, #[.int .u64 (s.fr : Int), .int .u64 (s.sd : Int), .int .i32 s.p.x, .int .i32 s.p.y, .int .i32 s.p.vx, .int .i32 s.p.vy, .int .u8 (s.p.h : Int), .int .u8 (s.p.c : Int), .int .u8 (s.p.f : Int), .int .i32 s.q.x, .int .i32 s.q.y, .int .i32 0, .int .i32 0, .int .u8 100, .int .u8 (s.q.c : Int), .int .u8 (s.q.f : Int), .slice ao s.ss.length cap, .int .u16 (s.s0 : Int), .int .u16 (s.s1 : Int)]), (w.heap.size + 1, 30, zsc), (g2, 105, #[.int .u64 (u : Int)]), (g3, 25, #[.int .i32 s.p.x, .int .i32 s.p.y, .int .i32 s.p.vx, .int .i32 s.p.vy, .int .u8 (s.p.h : Int), .int .u8 (s.p.c : Int), .int .u8 (s.p.f : Int), .int .i32 (n1 : Int), .int .i32 (n2 : Int), .int .i32 0, .int .i32 0, .int .u8 100, .int .u8 (s.q.c : Int), .int .u8 (s.q.f : Int)])]) rfl (Nat.le_of_ble_eq_true rfl) rfl rfl
  have la28 := Ha27.ldA ty_players 3 rfl 0 (vs := (pps s.p (⟨(n1 : Int), (n2 : Int), 0, 0, 100, s.q.c, s.q.f⟩ : Pl))) rfl (Nat.le_of_ble_eq_true rfl)
  go_wp2_with fail
  refine (C2.out _).mono ?_
  rintro E w7 ⟨rfl, hb7⟩
  clear la28 sa26
  have Ha29 := Ha27.to hb7
  cases b
  · rw [if_neg (of_decide_eq_false HB.out.symm)] at HQ
    have la30 := Ha29.ldA ty_players 3 rfl 0 (vs := (pps s.p (⟨(n1 : Int), (n2 : Int), 0, 0, 100, s.q.c, s.q.f⟩ : Pl))) rfl (Nat.le_of_ble_eq_true rfl)
    obtain ⟨wa31, sa32, Ha33, _⟩ := Ha29.stA ty_players 0 rfl 2 (pps s.p (⟨(n1 : Int), (n2 : Int), 0, 0, 100, s.q.c, s.q.f⟩ : Pl)) (cs' := stc { s with q := (⟨(n1 : Int), (n2 : Int), 0, 0, 100, s.q.c, s.q.f⟩ : Pl) } ao cap) rfl (L' := [(w.heap.size, 30, stc { s with q := (⟨(n1 : Int), (n2 : Int), 0, 0, 100, s.q.c, s.q.f⟩ : Pl) } ao cap), (w.heap.size + 1, 30, zsc), (g2, 105, #[.int .u64 (u : Int)]), (g3, 25, #[.int .i32 s.p.x, .int .i32 s.p.y, .int .i32 s.p.vx, .int .i32 s.p.vy, .int .u8 (s.p.h : Int), .int .u8 (s.p.c : Int), .int .u8 (s.p.f : Int), .int .i32 (n1 : Int), .int .i32 (n2 : Int), .int .i32 0, .int .i32 0, .int .u8 100, .int .u8 (s.q.c : Int), .int .u8 (s.q.f : Int)])]) rfl (Nat.le_of_ble_eq_true rfl) rfl rfl
    have la34 := Ha33.ldO ty_u64 2 rfl 0 (v := .int .u64 (u : Int)) rfl
    obtain ⟨wa35, sa36, Ha37, _⟩ := Ha33.stO ty_u64 0 rfl 1 (.int .u64 (u : Int)) (cs' := stc { s with q := (⟨(n1 : Int), (n2 : Int), 0, 0, 100, s.q.c, s.q.f⟩ : Pl), sd := u } ao cap) rfl (L' := [(w.heap.size, 30, stc { s with q := (⟨(n1 : Int), (n2 : Int), 0, 0, 100, s.q.c, s.q.f⟩ : Pl), sd := u } ao cap), (w.heap.size + 1, 30, zsc), (g2, 105, #[.int .u64 (u : Int)]), (g3, 25, #[.int .i32 s.p.x, .int .i32 s.p.y, .int .i32 s.p.vx, .int .i32 s.p.vy, .int .u8 (s.p.h : Int), .int .u8 (s.p.c : Int), .int .u8 (s.p.f : Int), .int .i32 (n1 : Int), .int .i32 (n2 : Int), .int .i32 0, .int .i32 0, .int .u8 100, .int .u8 (s.q.c : Int), .int .u8 (s.q.f : Int)])]) rfl (Nat.le_of_ble_eq_true rfl) rfl rfl
    have la38 := Ha37.ldA ty_state 0 rfl 0 (vs := (stc { s with q := (⟨(n1 : Int), (n2 : Int), 0, 0, 100, s.q.c, s.q.f⟩ : Pl), sd := u } ao cap)) rfl (Nat.le_of_ble_eq_true rfl)
    obtain ⟨wa39, sa40, Ha41, _⟩ := Ha37.stA ty_state 1 rfl 0 (stc { s with q := (⟨(n1 : Int), (n2 : Int), 0, 0, 100, s.q.c, s.q.f⟩ : Pl), sd := u } ao cap) (cs' := stc { s with q := (⟨(n1 : Int), (n2 : Int), 0, 0, 100, s.q.c, s.q.f⟩ : Pl), sd := u } ao cap) rfl (L' := [(w.heap.size, 30, #[.int .u64 (s.fr : Int), .int .u64 (u : Int), .int .i32 s.p.x, .int .i32 s.p.y, .int .i32 s.p.vx, .int .i32 s.p.vy, .int .u8 (s.p.h : Int), .int .u8 (s.p.c : Int), .int .u8 (s.p.f : Int), .int .i32 (n1 : Int), .int .i32 (n2 : Int), .int .i32 0, .int .i32 0, .int .u8 100, .int .u8 (s.q.c : Int), .int .u8 (s.q.f : Int), .slice ao s.ss.length cap, .int .u16 (s.s0 : Int), .int .u16 (s.s1 : Int)]), (w.heap.size + 1, 30, stc { s with q := (⟨(n1 : Int), (n2 : Int), 0, 0, 100, s.q.c, s.q.f⟩ : Pl), sd := u } ao cap), (g2, 105, #[.int .u64 (u : Int)]), (g3, 25, #[.int .i32 s.p.x, .int .i32 s.p.y, .int .i32 s.p.vx, .int .i32 s.p.vy, .int .u8 (s.p.h : Int), .int .u8 (s.p.c : Int), .int .u8 (s.p.f : Int), .int .i32 (n1 : Int), .int .i32 (n2 : Int), .int .i32 0, .int .i32 0, .int .u8 100, .int .u8 (s.q.c : Int), .int .u8 (s.q.f : Int)])]) rfl (Nat.le_of_ble_eq_true rfl) rfl rfl
    go_wp2
    refine bodyPost_ret (v := .agg (stc { s with q := (⟨(n1 : Int), (n2 : Int), 0, 0, 100, s.q.c, s.q.f⟩ : Pl), sd := u } ao cap)) (ret_struct Tryd.underlying30 ty_state _ 4 _ Tryd.results46 (Ha41.get 1 rfl) rfl rfl) rfl ?_
    exact HQ.out _ Ha41.be
  · rw [if_pos (of_decide_eq_true HB.out.symm)] at HQ
    have la30 := Ha29.ldO ty_u64 2 rfl 0 (v := .int .u64 (u : Int)) rfl
    obtain ⟨wa31, sa32, Ha33, _⟩ := Ha29.stO ty_u64 0 rfl 1 (.int .u64 (u : Int)) (cs' := stc { s with q := (⟨s.q.x, s.q.y, 0, 0, 100, s.q.c, s.q.f⟩ : Pl), sd := u } ao cap) rfl (L' := [(w.heap.size, 30, stc { s with q := (⟨s.q.x, s.q.y, 0, 0, 100, s.q.c, s.q.f⟩ : Pl), sd := u } ao cap), (w.heap.size + 1, 30, zsc), (g2, 105, #[.int .u64 (u : Int)]), (g3, 25, #[.int .i32 s.p.x, .int .i32 s.p.y, .int .i32 s.p.vx, .int .i32 s.p.vy, .int .u8 (s.p.h : Int), .int .u8 (s.p.c : Int), .int .u8 (s.p.f : Int), .int .i32 (n1 : Int), .int .i32 (n2 : Int), .int .i32 0, .int .i32 0, .int .u8 100, .int .u8 (s.q.c : Int), .int .u8 (s.q.f : Int)])]) rfl (Nat.le_of_ble_eq_true rfl) rfl rfl
    have la34 := Ha33.ldA ty_state 0 rfl 0 (vs := (stc { s with q := (⟨s.q.x, s.q.y, 0, 0, 100, s.q.c, s.q.f⟩ : Pl), sd := u } ao cap)) rfl (Nat.le_of_ble_eq_true rfl)
    obtain ⟨wa35, sa36, Ha37, _⟩ := Ha33.stA ty_state 1 rfl 0 (stc { s with q := (⟨s.q.x, s.q.y, 0, 0, 100, s.q.c, s.q.f⟩ : Pl), sd := u } ao cap) (cs' := stc { s with q := (⟨s.q.x, s.q.y, 0, 0, 100, s.q.c, s.q.f⟩ : Pl), sd := u } ao cap) rfl (L' := [(w.heap.size, 30, #[.int .u64 (s.fr : Int), .int .u64 (u : Int), .int .i32 s.p.x, .int .i32 s.p.y, .int .i32 s.p.vx, .int .i32 s.p.vy, .int .u8 (s.p.h : Int), .int .u8 (s.p.c : Int), .int .u8 (s.p.f : Int), .int .i32 s.q.x, .int .i32 s.q.y, .int .i32 0, .int .i32 0, .int .u8 100, .int .u8 (s.q.c : Int), .int .u8 (s.q.f : Int), .slice ao s.ss.length cap, .int .u16 (s.s0 : Int), .int .u16 (s.s1 : Int)]), (w.heap.size + 1, 30, stc { s with q := (⟨s.q.x, s.q.y, 0, 0, 100, s.q.c, s.q.f⟩ : Pl), sd := u } ao cap), (g2, 105, #[.int .u64 (u : Int)]), (g3, 25, #[.int .i32 s.p.x, .int .i32 s.p.y, .int .i32 s.p.vx, .int .i32 s.p.vy, .int .u8 (s.p.h : Int), .int .u8 (s.p.c : Int), .int .u8 (s.p.f : Int), .int .i32 (n1 : Int), .int .i32 (n2 : Int), .int .i32 0, .int .i32 0, .int .u8 100, .int .u8 (s.q.c : Int), .int .u8 (s.q.f : Int)])]) rfl (Nat.le_of_ble_eq_true rfl) rfl rfl
    go_wp2
    refine bodyPost_ret (v := .agg (stc { s with q := (⟨s.q.x, s.q.y, 0, 0, 100, s.q.c, s.q.f⟩ : Pl), sd := u } ao cap)) (ret_struct Tryd.underlying30 ty_state _ 4 _ Tryd.results46 (Ha37.get 1 rfl) rfl rfl) rfl ?_
    exact HQ.out _ Ha37.be
theorem rev1_c (s : St) (ao : Option Addr) (cap : Nat) (w : World) (hsd : s.sd < 18446744073709551616) (hox : G.in32 s.p.x) (hoy : G.in32 s.p.y) :
    Calls Tryd.prog 46 #[sv s ao cap, .int .i64 1] w fun E w' => E = .returned (sv (back src s 1) ao cap) ∧ Below w.heap.size w w' := by
  by_cases hh : 0 < s.q.h
  · have e : back src s 1 = s := by rw [back, if_pos (by show 0 < s.q.h; exact hh)]
    rw [e]; exact rev1_alive s ao cap w hh
  · exact rev1_dead s ao cap w (by omega) hsd hox hoy
end Go.Proofs.YtgmbdadkahcpcaaDoor
