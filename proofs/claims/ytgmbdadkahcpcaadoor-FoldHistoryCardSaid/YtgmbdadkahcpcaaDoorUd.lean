/- The program's frame: one who is hit: contract. -/
import Derived.Test.YtgmbdadkahcpcaaDoorUc
import Derived.StillTactics
namespace Go.Proofs.YtgmbdadkahcpcaaDoor
open Go.RowKit
set_option linter.unusedVariables false
set_option linter.unusedSimpArgs false
set_option maxRecDepth 20000

abbrev zsc : Array Value := #[.int .u64 0, .int .u64 0, .int .i32 0, .int .i32 0, .int .i32 0, .int .i32 0, .int .u8 0, .int .u8 0, .int .u8 0, .int .i32 0, .int .i32 0, .int .i32 0, .int .i32 0, .int .u8 0, .int .u8 0, .int .u8 0, .slice none 0 0, .int .u16 0, .int .u16 0]
attribute [local go_sem ↓] ld_u8 ld_u16 ld_state st_u8 st_u16 st_state
set_option maxHeartbeats 2000000 in
theorem hit0_c (s : St) (ao : Option Addr) (cap : Nat) (w : World) (hh : s.q.h < 256) (hs : s.s0 < 65536) :
    Calls Tryd.prog 67 #[sv s ao cap, .int .u8 0] w fun E w' => E = .returned (sv ((s.setPl 1 { s.pl 1 with h := (s.pl 1).h - 10 }).score 0) ao cap) ∧ Below w.heap.size w w' := by
  have H0 := Lib.hid (Loc.two w 30 30 (stc s ao cap) zsc)
  obtain ⟨n, hn⟩ : ∃ n : Nat, n = s.q.h - 10 := ⟨_, rfl⟩
  obtain ⟨Q, hQ⟩ : ∃ Q : Ending → World → Prop, Q = fun E w' => E = .returned (sv ((s.setPl 1 { s.pl 1 with h := (s.pl 1).h - 10 }).score 0) ao cap) ∧ Below w.heap.size w w' := ⟨_, rfl⟩
  rw [← hQ]
  have HQ : Hid (∀ w', Below w.heap.size w w' → Q (.returned (sv { s with q := { s.q with h := n }, s0 := if s.s0 < 65535 then s.s0 + 1 else s.s0 } ao cap)) w') := fun w' h => by rw [hQ, hn]; exact ⟨rfl, h⟩
  clear hQ
  have HN := Lib.hid hn
  clear hn
  go_enter Tryd.func67, Tryd.ntmps67
  go_upto_region 2 with fail
  generalize (w.alloc (.cells (stc s ao cap) 30)).alloc (.cells zsc 30) = wa at *
  obtain ⟨wd, hwd⟩ : ∃ wd, ({ wa with drawn := wa.drawn + 1 } : World) = wd := ⟨_, rfl⟩
  have H1 : Loc w.heap.size w wd [(w.heap.size, 30, stc s ao cap), (w.heap.size + 1, 30, zsc)] := by rw [← hwd]; exact H0.out.drew
  clear H0
  have la1 := H1.ldO ty_u8 0 rfl 13 (v := .int .u8 (s.q.h : Int)) rfl
  have hm : IntKind.u8.wrap ((s.q.h : Int) - min (s.q.h : Int) 10) = (n : Int) := by rw [HN.out]; have := hh; rcases Int.le_total (s.q.h : Int) 10 with h1 | h1 <;> (simp [IntKind.wrap, IntKind.bits, IntKind.signed, Int.min_eq_left, Int.min_eq_right, h1]; omega)
  obtain ⟨wa2, sa3, Ha4, _⟩ := H1.stO ty_u8 0 rfl 13 (.int .u8 (n : Int)) (cs' := stc { s with q := { s.q with h := n } } ao cap) rfl (L' := [(w.heap.size, 30, stc { s with q := { s.q with h := n } } ao cap), (w.heap.size + 1, 30, zsc)]) rfl (Nat.le_of_ble_eq_true rfl) rfl rfl
  refine wp_region_still_tail 15 (by kernel_rfl) (by kernel_rfl) ?_
  simp only [List.take_succ_cons, List.take_zero, List.drop_succ_cons, List.drop_zero]
  rw [hwd]
  clear hwd
  repeat still_step
  clear hm HN hh
  refine wpStill_nil ?_
  go_upto_region 3 with fail
  clear sa3 la1
  have la5 := Ha4.ldO ty_u16 0 rfl 17 (v := .int .u16 (s.s0 : Int)) rfl
  by_cases hc : s.s0 < 65535
  · have hci : (s.s0 : Int) < 65535 := by omega
    have hw : IntKind.u16.wrap ((s.s0 : Int) + 1) = ((s.s0 + 1 : Nat) : Int) := by simp [IntKind.wrap, IntKind.bits, IntKind.signed]; omega
    obtain ⟨wa6, sa7, Ha8, _⟩ := Ha4.stO ty_u16 0 rfl 17 (.int .u16 ((s.s0 : Int) + 1)) (cs' := stc { s with q := { s.q with h := n }, s0 := s.s0 + 1 } ao cap) rfl (L' := [(w.heap.size, 30, stc { s with q := { s.q with h := n }, s0 := s.s0 + 1 } ao cap), (w.heap.size + 1, 30, zsc)]) rfl (Nat.le_of_ble_eq_true rfl) rfl rfl
    rw [if_pos hc] at HQ
    have la9 := Ha8.ldA ty_state 0 rfl 0 (vs := (stc { s with q := { s.q with h := n }, s0 := s.s0 + 1 } ao cap)) rfl (Nat.le_of_ble_eq_true rfl)
    obtain ⟨wa10, sa11, Ha12, _⟩ := Ha8.stA ty_state 1 rfl 0 (stc { s with q := { s.q with h := n }, s0 := s.s0 + 1 } ao cap) (cs' := stc { s with q := { s.q with h := n }, s0 := s.s0 + 1 } ao cap) rfl (L' := [(w.heap.size, 30, (stc { s with q := { s.q with h := n }, s0 := s.s0 + 1 } ao cap)), (w.heap.size + 1, 30, stc { s with q := { s.q with h := n }, s0 := s.s0 + 1 } ao cap)]) rfl (Nat.le_of_ble_eq_true rfl) rfl rfl
    go_wp2
    refine bodyPost_ret (v := .agg (stc { s with q := { s.q with h := n }, s0 := s.s0 + 1 } ao cap)) (ret_struct Tryd.underlying30 ty_state _ 4 _ Tryd.results67 (Ha12.get 1 rfl) rfl rfl) rfl ?_
    exact HQ.out _ Ha12.be
  · have hci : ¬ (s.s0 : Int) < 65535 := by omega
    rw [if_neg hc] at HQ
    have la6 := Ha4.ldA ty_state 0 rfl 0 (vs := (stc { s with q := { s.q with h := n } } ao cap)) rfl (Nat.le_of_ble_eq_true rfl)
    obtain ⟨wa7, sa8, Ha9, _⟩ := Ha4.stA ty_state 1 rfl 0 (stc { s with q := { s.q with h := n } } ao cap) (cs' := stc { s with q := { s.q with h := n } } ao cap) rfl (L' := [(w.heap.size, 30, #[.int .u64 (s.fr : Int), .int .u64 (s.sd : Int), .int .i32 s.p.x, .int .i32 s.p.y, .int .i32 s.p.vx, .int .i32 s.p.vy, .int .u8 (s.p.h : Int), .int .u8 (s.p.c : Int), .int .u8 (s.p.f : Int), .int .i32 s.q.x, .int .i32 s.q.y, .int .i32 s.q.vx, .int .i32 s.q.vy, .int .u8 (n : Int), .int .u8 (s.q.c : Int), .int .u8 (s.q.f : Int), .slice ao s.ss.length cap, .int .u16 (s.s0 : Int), .int .u16 (s.s1 : Int)]), (w.heap.size + 1, 30, stc { s with q := { s.q with h := n } } ao cap)]) rfl (Nat.le_of_ble_eq_true rfl) rfl rfl
    go_wp2
    refine bodyPost_ret (v := .agg (stc { s with q := { s.q with h := n } } ao cap)) (ret_struct Tryd.underlying30 ty_state _ 4 _ Tryd.results67 (Ha9.get 1 rfl) rfl rfl) rfl ?_
    exact HQ.out _ Ha9.be
set_option maxHeartbeats 2000000 in
theorem hit1_c (s : St) (ao : Option Addr) (cap : Nat) (w : World) (hh : s.p.h < 256) (hs : s.s1 < 65536) :
    Calls Tryd.prog 67 #[sv s ao cap, .int .u8 1] w fun E w' => E = .returned (sv ((s.setPl 0 { s.pl 0 with h := (s.pl 0).h - 10 }).score 1) ao cap) ∧ Below w.heap.size w w' := by
  have H0 := Lib.hid (Loc.two w 30 30 (stc s ao cap) zsc)
  obtain ⟨n, hn⟩ : ∃ n : Nat, n = s.p.h - 10 := ⟨_, rfl⟩
  obtain ⟨Q, hQ⟩ : ∃ Q : Ending → World → Prop, Q = fun E w' => E = .returned (sv ((s.setPl 0 { s.pl 0 with h := (s.pl 0).h - 10 }).score 1) ao cap) ∧ Below w.heap.size w w' := ⟨_, rfl⟩
  rw [← hQ]
  have HQ : Hid (∀ w', Below w.heap.size w w' → Q (.returned (sv { s with p := { s.p with h := n }, s1 := if s.s1 < 65535 then s.s1 + 1 else s.s1 } ao cap)) w') := fun w' h => by rw [hQ, hn]; exact ⟨rfl, h⟩
  clear hQ
  have HN := Lib.hid hn
  clear hn
  go_enter Tryd.func67, Tryd.ntmps67
  go_upto_region 2 with fail
  generalize (w.alloc (.cells (stc s ao cap) 30)).alloc (.cells zsc 30) = wa at *
  obtain ⟨wd, hwd⟩ : ∃ wd, ({ wa with drawn := wa.drawn + 1 } : World) = wd := ⟨_, rfl⟩
  have H1 : Loc w.heap.size w wd [(w.heap.size, 30, stc s ao cap), (w.heap.size + 1, 30, zsc)] := by rw [← hwd]; exact H0.out.drew
  clear H0
  have la1 := H1.ldO ty_u8 0 rfl 6 (v := .int .u8 (s.p.h : Int)) rfl
  have hm : IntKind.u8.wrap ((s.p.h : Int) - min (s.p.h : Int) 10) = (n : Int) := by rw [HN.out]; have := hh; rcases Int.le_total (s.p.h : Int) 10 with h1 | h1 <;> (simp [IntKind.wrap, IntKind.bits, IntKind.signed, Int.min_eq_left, Int.min_eq_right, h1]; omega)
  obtain ⟨wa2, sa3, Ha4, _⟩ := H1.stO ty_u8 0 rfl 6 (.int .u8 (n : Int)) (cs' := stc { s with p := { s.p with h := n } } ao cap) rfl (L' := [(w.heap.size, 30, stc { s with p := { s.p with h := n } } ao cap), (w.heap.size + 1, 30, zsc)]) rfl (Nat.le_of_ble_eq_true rfl) rfl rfl
  refine wp_region_still_tail 15 (by kernel_rfl) (by kernel_rfl) ?_
  simp only [List.take_succ_cons, List.take_zero, List.drop_succ_cons, List.drop_zero]
  rw [hwd]
  clear hwd
  repeat still_step
  clear hm HN hh
  refine wpStill_nil ?_
  go_upto_region 3 with fail
  clear sa3 la1
  have la5 := Ha4.ldO ty_u16 0 rfl 18 (v := .int .u16 (s.s1 : Int)) rfl
  by_cases hc : s.s1 < 65535
  · have hci : (s.s1 : Int) < 65535 := by omega
    have hw : IntKind.u16.wrap ((s.s1 : Int) + 1) = ((s.s1 + 1 : Nat) : Int) := by simp [IntKind.wrap, IntKind.bits, IntKind.signed]; omega
    obtain ⟨wa6, sa7, Ha8, _⟩ := Ha4.stO ty_u16 0 rfl 18 (.int .u16 ((s.s1 : Int) + 1)) (cs' := stc { s with p := { s.p with h := n }, s1 := s.s1 + 1 } ao cap) rfl (L' := [(w.heap.size, 30, stc { s with p := { s.p with h := n }, s1 := s.s1 + 1 } ao cap), (w.heap.size + 1, 30, zsc)]) rfl (Nat.le_of_ble_eq_true rfl) rfl rfl
    rw [if_pos hc] at HQ
    have la9 := Ha8.ldA ty_state 0 rfl 0 (vs := (stc { s with p := { s.p with h := n }, s1 := s.s1 + 1 } ao cap)) rfl (Nat.le_of_ble_eq_true rfl)
    obtain ⟨wa10, sa11, Ha12, _⟩ := Ha8.stA ty_state 1 rfl 0 (stc { s with p := { s.p with h := n }, s1 := s.s1 + 1 } ao cap) (cs' := stc { s with p := { s.p with h := n }, s1 := s.s1 + 1 } ao cap) rfl (L' := [(w.heap.size, 30, (stc { s with p := { s.p with h := n }, s1 := s.s1 + 1 } ao cap)), (w.heap.size + 1, 30, stc { s with p := { s.p with h := n }, s1 := s.s1 + 1 } ao cap)]) rfl (Nat.le_of_ble_eq_true rfl) rfl rfl
    go_wp2
    refine bodyPost_ret (v := .agg (stc { s with p := { s.p with h := n }, s1 := s.s1 + 1 } ao cap)) (ret_struct Tryd.underlying30 ty_state _ 4 _ Tryd.results67 (Ha12.get 1 rfl) rfl rfl) rfl ?_
    exact HQ.out _ Ha12.be
  · have hci : ¬ (s.s1 : Int) < 65535 := by omega
    rw [if_neg hc] at HQ
    have la6 := Ha4.ldA ty_state 0 rfl 0 (vs := (stc { s with p := { s.p with h := n } } ao cap)) rfl (Nat.le_of_ble_eq_true rfl)
    obtain ⟨wa7, sa8, Ha9, _⟩ := Ha4.stA ty_state 1 rfl 0 (stc { s with p := { s.p with h := n } } ao cap) (cs' := stc { s with p := { s.p with h := n } } ao cap) rfl (L' := [(w.heap.size, 30, #[.int .u64 (s.fr : Int), .int .u64 (s.sd : Int), .int .i32 s.p.x, .int .i32 s.p.y, .int .i32 s.p.vx, .int .i32 s.p.vy, .int .u8 (n : Int), .int .u8 (s.p.c : Int), .int .u8 (s.p.f : Int), .int .i32 s.q.x, .int .i32 s.q.y, .int .i32 s.q.vx, .int .i32 s.q.vy, .int .u8 (s.q.h : Int), .int .u8 (s.q.c : Int), .int .u8 (s.q.f : Int), .slice ao s.ss.length cap, .int .u16 (s.s0 : Int), .int .u16 (s.s1 : Int)]), (w.heap.size + 1, 30, stc { s with p := { s.p with h := n } } ao cap)]) rfl (Nat.le_of_ble_eq_true rfl) rfl rfl
    go_wp2
    refine bodyPost_ret (v := .agg (stc { s with p := { s.p with h := n } } ao cap)) (ret_struct Tryd.underlying30 ty_state _ 4 _ Tryd.results67 (Ha9.get 1 rfl) rfl rfl) rfl ?_
    exact HQ.out _ Ha9.be
end Go.Proofs.YtgmbdadkahcpcaaDoor
