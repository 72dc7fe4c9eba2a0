/- What a record's encoding consists of: gone through by a writer. One contract a kind. -/
import Derived.Test.YthnelnfefllhpaaDoorQb
namespace Go.Proofs.YthnelnfefllhpaaDoor
open Go.RowKit
set_option linter.unusedVariables false
set_option linter.unusedSimpArgs false
set_option maxRecDepth 20000

theorem na_wkind (n : Nat) (a : Addr) (w : World) : (nilAhead (n + 1) 89 (.pointer (some a)) "hindcast/record.kind").run Tryd.prog w = .ok (some false) w := by kernel_rfl
theorem me_wkind (n : Nat) (a : Addr) (w : World) : (method (n + 1) 89 (.pointer (some a)) "hindcast/record.kind").run Tryd.prog w = .ok (87, .pointer (some a)) w := by kernel_rfl
theorem na_rkind (n : Nat) (a : Addr) (w : World) : (nilAhead (n + 1) 103 (.agg #[.pointer (some a)]) "hindcast/record.kind").run Tryd.prog w = .ok (some false) w := by kernel_rfl
theorem me_rkind (n : Nat) (a : Addr) (w : World) : (method (n + 1) 103 (.agg #[.pointer (some a)]) "hindcast/record.kind").run Tryd.prog w = .ok (97, .agg #[.pointer (some a)]) w := by kernel_rfl
theorem na_wnumber (n : Nat) (a : Addr) (w : World) : (nilAhead (n + 1) 89 (.pointer (some a)) "hindcast/record.number").run Tryd.prog w = .ok (some false) w := by kernel_rfl
theorem me_wnumber (n : Nat) (a : Addr) (w : World) : (method (n + 1) 89 (.pointer (some a)) "hindcast/record.number").run Tryd.prog w = .ok (88, .pointer (some a)) w := by kernel_rfl
theorem na_rnumber (n : Nat) (a : Addr) (w : World) : (nilAhead (n + 1) 103 (.agg #[.pointer (some a)]) "hindcast/record.number").run Tryd.prog w = .ok (some false) w := by kernel_rfl
theorem me_rnumber (n : Nat) (a : Addr) (w : World) : (method (n + 1) 103 (.agg #[.pointer (some a)]) "hindcast/record.number").run Tryd.prog w = .ok (98, .agg #[.pointer (some a)]) w := by kernel_rfl
theorem na_winput (n : Nat) (a : Addr) (w : World) : (nilAhead (n + 1) 89 (.pointer (some a)) "hindcast/record.input").run Tryd.prog w = .ok (some false) w := by kernel_rfl
theorem me_winput (n : Nat) (a : Addr) (w : World) : (method (n + 1) 89 (.pointer (some a)) "hindcast/record.input").run Tryd.prog w = .ok (86, .pointer (some a)) w := by kernel_rfl
theorem na_rinput (n : Nat) (a : Addr) (w : World) : (nilAhead (n + 1) 103 (.agg #[.pointer (some a)]) "hindcast/record.input").run Tryd.prog w = .ok (some false) w := by kernel_rfl
theorem me_rinput (n : Nat) (a : Addr) (w : World) : (method (n + 1) 103 (.agg #[.pointer (some a)]) "hindcast/record.input").run Tryd.prog w = .ok (96, .agg #[.pointer (some a)]) w := by kernel_rfl
theorem na_wplayer (n : Nat) (a : Addr) (w : World) : (nilAhead (n + 1) 89 (.pointer (some a)) "hindcast/record.player").run Tryd.prog w = .ok (some false) w := by kernel_rfl
theorem me_wplayer (n : Nat) (a : Addr) (w : World) : (method (n + 1) 89 (.pointer (some a)) "hindcast/record.player").run Tryd.prog w = .ok (89, .pointer (some a)) w := by kernel_rfl
theorem na_rplayer (n : Nat) (a : Addr) (w : World) : (nilAhead (n + 1) 103 (.agg #[.pointer (some a)]) "hindcast/record.player").run Tryd.prog w = .ok (some false) w := by kernel_rfl
theorem me_rplayer (n : Nat) (a : Addr) (w : World) : (method (n + 1) 103 (.agg #[.pointer (some a)]) "hindcast/record.player").run Tryd.prog w = .ok (99, .agg #[.pointer (some a)]) w := by kernel_rfl
attribute [local go_sem] na_wkind na_wnumber na_winput na_wplayer na_rkind na_rnumber na_rinput na_rplayer me_wkind me_wnumber me_winput me_wplayer me_rkind me_rnumber me_rinput me_rplayer
theorem ws_cells {w w' : World} {g : Nat} {S : Nat → Prop} {bs : List UInt8} {gr : Nat} {t : TypeId} {cs : Array Value} (h : WsTo w g S bs w') (hr : Cells w gr t cs) (hS : S gr) : Cells w' gr t cs := (h.2.block gr hS).trans hr
theorem wsTo_dr {w w1 : World} {g : Nat} {S : Nat → Prop} {bs : List UInt8} (h : WsTo w g S bs w1) : WsTo w g S bs w1.drew := ⟨h.1, h.2.os, h.2.tape, h.2.output, h.2.size, h.2.block⟩
set_option maxHeartbeats 1000000 in
theorem encW0 (g gr : Nat) (S : Nat → Prop) (k : Int) (f o p q s i e y : Nat) (w : World) (h1 : k ≠ 1) (h2 : k ≠ 2) (h3 : k ≠ 3) (hf : Rc.fit ⟨k, f, o, p, q, s, i, e, y⟩) (h : Ws w g S []) (hr : Cells w gr 28 (rcs ⟨k, f, o, p, q, s, i, e, y⟩)) (hS : S gr) :
    Calls Tryd.prog 32 #[.iface 89 (.pointer (some ⟨g, 0, none⟩)), .pointer (some ⟨gr, 0, none⟩)] w fun E w' => E = .returned (.bool false) ∧ WsTo w g S (le 1 (k % 256).toNat) w' := by
  have b1 : (k == 1) = false := by simp [h1]
  have b2 : (k == 2) = false := by simp [h2]
  have b3 : (k == 3) = false := by simp [h3]
  clear h1 h2 h3
  have HF := Lib.hid hf
  clear hf
  have DR : ∀ {w1 : World} {bs : List UInt8}, WsTo w g S bs w1 → WsTo w g S bs w1.drew := fun h => wsTo_dr h
  have HRR := Lib.hid hr
  have HW0 := Lib.hid (ws_to h)
  go_enter Tryd.func32, Tryd.ntmps32
  go_upto_region 1 with fail
  obtain ⟨d1, hwd⟩ : ∃ wd, ({ w with drawn := w.drawn + 1 } : World) = wd := ⟨_, rfl⟩
  have W1 : Hid (WsTo w g S [] d1) := by show WsTo w g S [] d1; rw [← hwd]; exact DR (HW0).out
  refine wp_region_still_tail 7 (by kernel_rfl) (by kernel_rfl) ?_
  simp only [List.take_succ_cons, List.take_zero, List.drop_succ_cons, List.drop_zero]
  rw [hwd]
  clear hwd
  repeat still_step
  refine wpStill_nil ?_
  go_wp2_with fail
  refine (wKind g gr 0 ((k % 256).toNat) (k) S [] _ _ _ W1.out.1 (by simp) (by first | omega | decide) (by first | decide | exact kb_wrap ⟨k, f, o, p, q, s, i, e, y⟩) (ws_cells W1.out hr hS) rfl).mono ?_
  rintro E w1 ⟨rfl, hw1⟩
  have HW1 := Lib.hid (wsTo_trans W1.out hw1)
  clear hw1 W1
  have r1 := ws_cells HW1.out hr hS
  have c1 : w1.cell? ⟨gr, 0, none⟩ = some (.int .i64 k) := by rw [r1.cell]; rfl
  go_wp2
  go_ret
  exact ⟨rfl, by simpa only [List.nil_append] using HW1.out⟩
set_option maxHeartbeats 1000000 in
theorem encW1 (g gr : Nat) (S : Nat → Prop) (f o p q s i e y : Nat) (w : World) (hf : Rc.fit ⟨1, f, o, p, q, s, i, e, y⟩) (h : Ws w g S []) (hr : Cells w gr 28 (rcs ⟨1, f, o, p, q, s, i, e, y⟩)) (hS : S gr) :
    Calls Tryd.prog 32 #[.iface 89 (.pointer (some ⟨g, 0, none⟩)), .pointer (some ⟨gr, 0, none⟩)] w fun E w' => E = .returned (.bool true) ∧ WsTo w g S (le 1 1 ++ le 8 f ++ le 1 o) w' := by
  have HF := Lib.hid hf
  clear hf
  have DR : ∀ {w1 : World} {bs : List UInt8}, WsTo w g S bs w1 → WsTo w g S bs w1.drew := fun h => wsTo_dr h
  have HRR := Lib.hid hr
  have HW0 := Lib.hid (ws_to h)
  go_enter Tryd.func32, Tryd.ntmps32
  go_upto_region 1 with fail
  obtain ⟨d1, hwd⟩ : ∃ wd, ({ w with drawn := w.drawn + 1 } : World) = wd := ⟨_, rfl⟩
  have W1 : Hid (WsTo w g S [] d1) := by show WsTo w g S [] d1; rw [← hwd]; exact DR (HW0).out
  refine wp_region_still_tail 7 (by kernel_rfl) (by kernel_rfl) ?_
  simp only [List.take_succ_cons, List.take_zero, List.drop_succ_cons, List.drop_zero]
  rw [hwd]
  clear hwd
  repeat still_step
  refine wpStill_nil ?_
  go_wp2_with fail
  refine (wKind g gr 0 (1) (1) S [] _ _ _ W1.out.1 (by simp) (by first | omega | decide) (by first | decide | exact kb_wrap ⟨1, f, o, p, q, s, i, e, y⟩) (ws_cells W1.out hr hS) rfl).mono ?_
  rintro E w1 ⟨rfl, hw1⟩
  have HW1 := Lib.hid (wsTo_trans W1.out hw1)
  clear hw1 W1
  have r1 := ws_cells HW1.out hr hS
  have c1 : w1.cell? ⟨gr, 0, none⟩ = some (.int .i64 1) := by rw [r1.cell]; rfl
  go_upto_region 5 with fail
  obtain ⟨d2, hwd⟩ : ∃ wd, ({ w1 with drawn := w1.drawn + 1 } : World) = wd := ⟨_, rfl⟩
  have W2 : Hid (WsTo w g S ([] ++ le 1 1) d2) := by show WsTo w g S ([] ++ le 1 1) d2; rw [← hwd]; exact DR (HW1).out
  refine wp_region_still_tail 7 (by kernel_rfl) (by kernel_rfl) ?_
  simp only [List.take_succ_cons, List.take_zero, List.drop_succ_cons, List.drop_zero]
  rw [hwd]
  clear hwd
  repeat still_step
  refine wpStill_nil ?_
  go_wp2_with fail
  clear c1
  refine (wNumber g gr 1 f S _ _ _ _ W2.out.1 (by simp [le_length]) HF.out.f (ws_cells W2.out hr hS) rfl).mono ?_
  rintro E w2 ⟨rfl, hw2⟩
  have HW2 := Lib.hid (wsTo_trans W2.out hw2)
  clear hw2 W2
  go_upto_region 6 with fail
  obtain ⟨d3, hwd⟩ : ∃ wd, ({ w2 with drawn := w2.drawn + 1 } : World) = wd := ⟨_, rfl⟩
  have W3 : Hid (WsTo w g S ([] ++ le 1 1 ++ le 8 f) d3) := by show WsTo w g S ([] ++ le 1 1 ++ le 8 f) d3; rw [← hwd]; exact DR (HW2).out
  refine wp_region_still_tail 7 (by kernel_rfl) (by kernel_rfl) ?_
  simp only [List.take_succ_cons, List.take_zero, List.drop_succ_cons, List.drop_zero]
  rw [hwd]
  clear hwd
  repeat still_step
  refine wpStill_nil ?_
  go_wp2_with fail
  refine (wInput g gr 2 o S _ _ _ _ W3.out.1 (by simp [le_length]) HF.out.o (ws_cells W3.out hr hS) rfl).mono ?_
  rintro E w3 ⟨rfl, hw3⟩
  have HW3 := Lib.hid (wsTo_trans W3.out hw3)
  clear hw3 W3
  go_wp2
  go_ret
  exact ⟨rfl, by simpa only [List.nil_append] using HW3.out⟩
set_option maxHeartbeats 1000000 in
theorem encW2 (g gr : Nat) (S : Nat → Prop) (f o p q s i e y : Nat) (w : World) (hf : Rc.fit ⟨2, f, o, p, q, s, i, e, y⟩) (h : Ws w g S []) (hr : Cells w gr 28 (rcs ⟨2, f, o, p, q, s, i, e, y⟩)) (hS : S gr) :
    Calls Tryd.prog 32 #[.iface 89 (.pointer (some ⟨g, 0, none⟩)), .pointer (some ⟨gr, 0, none⟩)] w fun E w' => E = .returned (.bool true) ∧ WsTo w g S (le 1 2 ++ le 8 f ++ le 1 p ++ le 1 q) w' := by
  have HF := Lib.hid hf
  clear hf
  have DR : ∀ {w1 : World} {bs : List UInt8}, WsTo w g S bs w1 → WsTo w g S bs w1.drew := fun h => wsTo_dr h
  have HRR := Lib.hid hr
  have HW0 := Lib.hid (ws_to h)
  go_enter Tryd.func32, Tryd.ntmps32
  go_upto_region 1 with fail
  obtain ⟨d1, hwd⟩ : ∃ wd, ({ w with drawn := w.drawn + 1 } : World) = wd := ⟨_, rfl⟩
  have W1 : Hid (WsTo w g S [] d1) := by show WsTo w g S [] d1; rw [← hwd]; exact DR (HW0).out
  refine wp_region_still_tail 7 (by kernel_rfl) (by kernel_rfl) ?_
  simp only [List.take_succ_cons, List.take_zero, List.drop_succ_cons, List.drop_zero]
  rw [hwd]
  clear hwd
  repeat still_step
  refine wpStill_nil ?_
  go_wp2_with fail
  refine (wKind g gr 0 (2) (2) S [] _ _ _ W1.out.1 (by simp) (by first | omega | decide) (by first | decide | exact kb_wrap ⟨2, f, o, p, q, s, i, e, y⟩) (ws_cells W1.out hr hS) rfl).mono ?_
  rintro E w1 ⟨rfl, hw1⟩
  have HW1 := Lib.hid (wsTo_trans W1.out hw1)
  clear hw1 W1
  have r1 := ws_cells HW1.out hr hS
  have c1 : w1.cell? ⟨gr, 0, none⟩ = some (.int .i64 2) := by rw [r1.cell]; rfl
  go_upto_region 8 with fail
  obtain ⟨d2, hwd⟩ : ∃ wd, ({ w1 with drawn := w1.drawn + 1 } : World) = wd := ⟨_, rfl⟩
  have W2 : Hid (WsTo w g S ([] ++ le 1 2) d2) := by show WsTo w g S ([] ++ le 1 2) d2; rw [← hwd]; exact DR (HW1).out
  refine wp_region_still_tail 7 (by kernel_rfl) (by kernel_rfl) ?_
  simp only [List.take_succ_cons, List.take_zero, List.drop_succ_cons, List.drop_zero]
  rw [hwd]
  clear hwd
  repeat still_step
  refine wpStill_nil ?_
  go_wp2_with fail
  clear c1
  refine (wNumber g gr 1 f S _ _ _ _ W2.out.1 (by simp [le_length]) HF.out.f (ws_cells W2.out hr hS) rfl).mono ?_
  rintro E w2 ⟨rfl, hw2⟩
  have HW2 := Lib.hid (wsTo_trans W2.out hw2)
  clear hw2 W2
  go_upto_region 9 with fail
  obtain ⟨d3, hwd⟩ : ∃ wd, ({ w2 with drawn := w2.drawn + 1 } : World) = wd := ⟨_, rfl⟩
  have W3 : Hid (WsTo w g S ([] ++ le 1 2 ++ le 8 f) d3) := by show WsTo w g S ([] ++ le 1 2 ++ le 8 f) d3; rw [← hwd]; exact DR (HW2).out
  refine wp_region_still_tail 8 (by kernel_rfl) (by kernel_rfl) ?_
  simp only [List.take_succ_cons, List.take_zero, List.drop_succ_cons, List.drop_zero]
  rw [hwd]
  clear hwd
  repeat still_step
  refine wpStill_nil ?_
  go_wp2_with fail
  refine (wInput g gr 3 p S _ _ _ _ W3.out.1 (by simp [le_length]) HF.out.p (ws_cells W3.out hr hS) rfl).mono ?_
  rintro E w3 ⟨rfl, hw3⟩
  have HW3 := Lib.hid (wsTo_trans W3.out hw3)
  clear hw3 W3
  go_upto_region 10 with fail
  obtain ⟨d4, hwd⟩ : ∃ wd, ({ w3 with drawn := w3.drawn + 1 } : World) = wd := ⟨_, rfl⟩
  have W4 : Hid (WsTo w g S ([] ++ le 1 2 ++ le 8 f ++ le 1 p) d4) := by show WsTo w g S ([] ++ le 1 2 ++ le 8 f ++ le 1 p) d4; rw [← hwd]; exact DR (HW3).out
  refine wp_region_still_tail 8 (by kernel_rfl) (by kernel_rfl) ?_
  simp only [List.take_succ_cons, List.take_zero, List.drop_succ_cons, List.drop_zero]
  rw [hwd]
  clear hwd
  repeat still_step
  refine wpStill_nil ?_
  go_wp2_with fail
  refine (wInput g gr 4 q S _ _ _ _ W4.out.1 (by simp [le_length]) HF.out.q (ws_cells W4.out hr hS) rfl).mono ?_
  rintro E w4 ⟨rfl, hw4⟩
  have HW4 := Lib.hid (wsTo_trans W4.out hw4)
  clear hw4 W4
  go_wp2
  go_ret
  exact ⟨rfl, by simpa only [List.nil_append] using HW4.out⟩
set_option maxHeartbeats 1000000 in
theorem encW3 (g gr : Nat) (S : Nat → Prop) (f o p q s i e y : Nat) (w : World) (hf : Rc.fit ⟨3, f, o, p, q, s, i, e, y⟩) (h : Ws w g S []) (hr : Cells w gr 28 (rcs ⟨3, f, o, p, q, s, i, e, y⟩)) (hS : S gr) :
    Calls Tryd.prog 32 #[.iface 89 (.pointer (some ⟨g, 0, none⟩)), .pointer (some ⟨gr, 0, none⟩)] w fun E w' => E = .returned (.bool true) ∧ WsTo w g S (le 1 3 ++ le 8 s ++ le 8 i ++ le 8 e ++ le 1 y) w' := by
  have HF := Lib.hid hf
  clear hf
  have DR : ∀ {w1 : World} {bs : List UInt8}, WsTo w g S bs w1 → WsTo w g S bs w1.drew := fun h => wsTo_dr h
  have HRR := Lib.hid hr
  have HW0 := Lib.hid (ws_to h)
  go_enter Tryd.func32, Tryd.ntmps32
  go_upto_region 1 with fail
  obtain ⟨d1, hwd⟩ : ∃ wd, ({ w with drawn := w.drawn + 1 } : World) = wd := ⟨_, rfl⟩
  have W1 : Hid (WsTo w g S [] d1) := by show WsTo w g S [] d1; rw [← hwd]; exact DR (HW0).out
  refine wp_region_still_tail 7 (by kernel_rfl) (by kernel_rfl) ?_
  simp only [List.take_succ_cons, List.take_zero, List.drop_succ_cons, List.drop_zero]
  rw [hwd]
  clear hwd
  repeat still_step
  refine wpStill_nil ?_
  go_wp2_with fail
  refine (wKind g gr 0 (3) (3) S [] _ _ _ W1.out.1 (by simp) (by first | omega | decide) (by first | decide | exact kb_wrap ⟨3, f, o, p, q, s, i, e, y⟩) (ws_cells W1.out hr hS) rfl).mono ?_
  rintro E w1 ⟨rfl, hw1⟩
  have HW1 := Lib.hid (wsTo_trans W1.out hw1)
  clear hw1 W1
  have r1 := ws_cells HW1.out hr hS
  have c1 : w1.cell? ⟨gr, 0, none⟩ = some (.int .i64 3) := by rw [r1.cell]; rfl
  go_upto_region 12 with fail
  obtain ⟨d2, hwd⟩ : ∃ wd, ({ w1 with drawn := w1.drawn + 1 } : World) = wd := ⟨_, rfl⟩
  have W2 : Hid (WsTo w g S ([] ++ le 1 3) d2) := by show WsTo w g S ([] ++ le 1 3) d2; rw [← hwd]; exact DR (HW1).out
  refine wp_region_still_tail 7 (by kernel_rfl) (by kernel_rfl) ?_
  simp only [List.take_succ_cons, List.take_zero, List.drop_succ_cons, List.drop_zero]
  rw [hwd]
  clear hwd
  repeat still_step
  refine wpStill_nil ?_
  go_wp2_with fail
  clear c1
  refine (wNumber g gr 5 s S _ _ _ _ W2.out.1 (by simp [le_length]) HF.out.s (ws_cells W2.out hr hS) rfl).mono ?_
  rintro E w2 ⟨rfl, hw2⟩
  have HW2 := Lib.hid (wsTo_trans W2.out hw2)
  clear hw2 W2
  go_upto_region 13 with fail
  obtain ⟨d3, hwd⟩ : ∃ wd, ({ w2 with drawn := w2.drawn + 1 } : World) = wd := ⟨_, rfl⟩
  have W3 : Hid (WsTo w g S ([] ++ le 1 3 ++ le 8 s) d3) := by show WsTo w g S ([] ++ le 1 3 ++ le 8 s) d3; rw [← hwd]; exact DR (HW2).out
  refine wp_region_still_tail 7 (by kernel_rfl) (by kernel_rfl) ?_
  simp only [List.take_succ_cons, List.take_zero, List.drop_succ_cons, List.drop_zero]
  rw [hwd]
  clear hwd
  repeat still_step
  refine wpStill_nil ?_
  go_wp2_with fail
  refine (wNumber g gr 6 i S _ _ _ _ W3.out.1 (by simp [le_length]) HF.out.i (ws_cells W3.out hr hS) rfl).mono ?_
  rintro E w3 ⟨rfl, hw3⟩
  have HW3 := Lib.hid (wsTo_trans W3.out hw3)
  clear hw3 W3
  go_upto_region 14 with fail
  obtain ⟨d4, hwd⟩ : ∃ wd, ({ w3 with drawn := w3.drawn + 1 } : World) = wd := ⟨_, rfl⟩
  have W4 : Hid (WsTo w g S ([] ++ le 1 3 ++ le 8 s ++ le 8 i) d4) := by show WsTo w g S ([] ++ le 1 3 ++ le 8 s ++ le 8 i) d4; rw [← hwd]; exact DR (HW3).out
  refine wp_region_still_tail 7 (by kernel_rfl) (by kernel_rfl) ?_
  simp only [List.take_succ_cons, List.take_zero, List.drop_succ_cons, List.drop_zero]
  rw [hwd]
  clear hwd
  repeat still_step
  refine wpStill_nil ?_
  go_wp2_with fail
  refine (wNumber g gr 7 e S _ _ _ _ W4.out.1 (by simp [le_length]) HF.out.e (ws_cells W4.out hr hS) rfl).mono ?_
  rintro E w4 ⟨rfl, hw4⟩
  have HW4 := Lib.hid (wsTo_trans W4.out hw4)
  clear hw4 W4
  go_upto_region 15 with fail
  obtain ⟨d5, hwd⟩ : ∃ wd, ({ w4 with drawn := w4.drawn + 1 } : World) = wd := ⟨_, rfl⟩
  have W5 : Hid (WsTo w g S ([] ++ le 1 3 ++ le 8 s ++ le 8 i ++ le 8 e) d5) := by show WsTo w g S ([] ++ le 1 3 ++ le 8 s ++ le 8 i ++ le 8 e) d5; rw [← hwd]; exact DR (HW4).out
  refine wp_region_still_tail 7 (by kernel_rfl) (by kernel_rfl) ?_
  simp only [List.take_succ_cons, List.take_zero, List.drop_succ_cons, List.drop_zero]
  rw [hwd]
  clear hwd
  repeat still_step
  refine wpStill_nil ?_
  go_wp2_with fail
  refine (wPlayer g gr 8 y S _ _ _ _ W5.out.1 (by simp [le_length]) HF.out.y (ws_cells W5.out hr hS) rfl).mono ?_
  rintro E w5 ⟨rfl, hw5⟩
  have HW5 := Lib.hid (wsTo_trans W5.out hw5)
  clear hw5 W5
  go_wp2
  go_ret
  exact ⟨rfl, by simpa only [List.nil_append] using HW5.out⟩
def knB (r : Rc) : Bool := decide (r.k = 1 ∨ r.k = 2 ∨ r.k = 3)
theorem encW (g gr : Nat) (S : Nat → Prop) (r : Rc) (w : World) (hf : r.fit) (h : Ws w g S []) (hr : Cells w gr 28 (rcs r)) (hS : S gr) :
    Calls Tryd.prog 32 #[.iface 89 (.pointer (some ⟨g, 0, none⟩)), .pointer (some ⟨gr, 0, none⟩)] w fun E w' => E = .returned (.bool (knB r)) ∧ WsTo w g S (encR r) w' := by
  obtain ⟨k, f, o, p, q, s, i, e, y⟩ := r
  by_cases h1 : k = 1
  · subst h1
    exact (encW1 g gr S f o p q s i e y w hf h hr hS).mono fun _ _ ⟨a, b⟩ => ⟨a, by simpa [encR, encK, kb] using b⟩
  · by_cases h2 : k = 2
    · subst h2
      exact (encW2 g gr S f o p q s i e y w hf h hr hS).mono fun _ _ ⟨a, b⟩ => ⟨a, by simpa [encR, encK, kb] using b⟩
    · by_cases h3 : k = 3
      · subst h3
        exact (encW3 g gr S f o p q s i e y w hf h hr hS).mono fun _ _ ⟨a, b⟩ => ⟨a, by simpa [encR, encK, kb] using b⟩
      · exact (encW0 g gr S k f o p q s i e y w h1 h2 h3 hf h hr hS).mono fun _ _ ⟨a, b⟩ => ⟨by simp [a, knB, h1, h2, h3], by simpa [encR, encK, kb, h1, h2, h3] using b⟩
end Go.Proofs.YthnelnfefllhpaaDoor
