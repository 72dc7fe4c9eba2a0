/- The document's Same: its contract. -/
import Derived.Test.YtbmkmmkebophpaaDoorSo
namespace Go.Proofs.YtbmkmmkebophpaaDoor
open Go.RowKit
set_option linter.unusedVariables false

attribute [local go_sem ↓] loadAt_state storeAt_state
attribute [local go_sem] run_loadState rowOf_new rowOf_old rowOf_drew rowOf_drewN run_storeOk okRow_new okRow_old Value.oneCell' rowOf_own
theorem sh_neq2 (a b : Sh) (w : World) : (binOp .neq 46 (.agg #[.int .i32 a.x, .int .i32 a.y, .int .i32 a.vx, .int .i32 a.vy, .int .u8 (a.o : Int), .int .u8 (a.l : Int)]) (.agg #[.int .i32 b.x, .int .i32 b.y, .int .i32 b.vx, .int .i32 b.vy, .int .u8 (b.o : Int), .int .u8 (b.l : Int)])).run Tryd.prog w = .ok (.bool (!decide (a = b))) w := sh_neq a b w
theorem pl_neq (a b : Pl) (w : World) : (binOp .neq 24 (.agg #[.int .i32 a.x, .int .i32 a.y, .int .i32 a.vx, .int .i32 a.vy, .int .u8 (a.h : Int), .int .u8 (a.c : Int), .int .u8 (a.f : Int)]) (.agg #[.int .i32 b.x, .int .i32 b.y, .int .i32 b.vx, .int .i32 b.vy, .int .u8 (b.h : Int), .int .u8 (b.c : Int), .int .u8 (b.f : Int)])).run Tryd.prog w = .ok (.bool (!decide (a = b))) w := by
  rw [run_neq_struct, pl_in 9998 a b w]
  rfl
theorem sc_neq (a b c d : Int) (w : World) : (binOp .neq 28 (.agg #[.int .u16 a, .int .u16 b]) (.agg #[.int .u16 c, .int .u16 d])).run Tryd.prog w = .ok (.bool (!((a == c) && (b == d)))) w := by
  have h := sc_eql a b c d w
  rw [run_eql_struct] at h
  rw [run_neq_struct]
  cases hq : ((Op.equalIn 10000 28 (.agg #[.int .u16 a, .int .u16 b]) (.agg #[.int .u16 c, .int .u16 d])).run Tryd.prog w) <;> simp_all
section
attribute [local go_sem ↓] loadAt_pair sh_neq2 pl_neq sc_neq
set_option maxHeartbeats 2000000 in
set_option maxRecDepth 20000 in
theorem refSame_c (a b : St) (ao bo : Option Addr) (c1 c2 : Nat) (w : World) (h1 : Shs w ao a.ss) (h2 : Shs w bo b.ss) (hl : a.ss.length ≤ maxLen) (hm : b.ss.length ≤ maxLen) :
    Calls Tryd.prog 15 #[sv a ao c1, sv b bo c2] w fun E w' => E = .returned (.bool (same a b)) ∧ w.grownBy w' none := by
  have hg : w.grownBy ((w.alloc (.cells (stc a ao c1) 30)).alloc (.cells (stc b bo c2) 30)) none := (grown_alloc _ _).trans (grown_alloc _ _)
  have HS1 := Lib.hid (Shs_grown h1 hg (by simp))
  have HS2 := Lib.hid (Shs_grown h2 hg (by simp))
  have HBa : Hid (Bk ((w.alloc (.cells (stc a ao c1) 30)).alloc (.cells (stc b bo c2) 30)) w.heap.size a ao c1) := heap_alloc2_old w _ _
  have HBb : Hid (Bk ((w.alloc (.cells (stc a ao c1) 30)).alloc (.cells (stc b bo c2) 30)) (w.heap.size + 1) b bo c2) := heap_alloc2_new w _ _
  have HG := Lib.hid hg
  have hand : same a b = (((a.fr : Int) == (b.fr : Int)) && (((a.sd : Int) == (b.sd : Int)) && (decide (a.p = b.p) && (decide (a.q = b.q) && ((((a.s0 : Int) == (b.s0 : Int)) && ((a.s1 : Int) == (b.s1 : Int))) && decide (a.ss = b.ss)))))) := by
    rw [same_and]
    cases decide (a.ss = b.ss) <;> simp [Bool.and_assoc]
  rw [hand]
  simp only [maxLen] at hl hm
  have HLE : Hid (((a.ss.length : Int) == (b.ss.length : Int)) = false → decide (a.ss = b.ss) = false) := fun e => decide_eq_false (fun x => by rw [x] at e; simp at e)
  have HN : Hid (∀ k (h : k < a.ss.length) (h' : k < b.ss.length), ¬ (a.ss[k]'h) = (b.ss[k]'h') → decide (a.ss = b.ss) = false) := fun k h h' e => decide_eq_false (fun x => e (by revert h h'; rw [x]; intros; rfl))
  have HY : Hid (∀ k, k = a.ss.length → a.ss.length = b.ss.length → a.ss.take k = b.ss.take k → decide (a.ss = b.ss) = true) := fun k e e2 x => decide_eq_true (by subst e; rwa [List.take_length, e2, List.take_length] at x)
  clear hg h1 h2 hand
  generalize decide (a.ss = b.ss) = ans at *
  cases h0 : ((a.fr : Int) == (b.fr : Int))
  · have g0 : ((a.fr : Int) != (b.fr : Int)) = true := by rw [bne, h0]; rfl
    go_enter Tryd.func15, Tryd.ntmps15
    go_wp2
    all_goals (go_ret; exact ⟨rfl, HG.out⟩)
  have g0 : ((a.fr : Int) != (b.fr : Int)) = false := by rw [bne, h0]; rfl
  cases h1 : ((a.sd : Int) == (b.sd : Int))
  · have g1 : ((a.sd : Int) != (b.sd : Int)) = true := by rw [bne, h1]; rfl
    go_enter Tryd.func15, Tryd.ntmps15
    go_wp2
    all_goals (go_ret; exact ⟨rfl, HG.out⟩)
  have g1 : ((a.sd : Int) != (b.sd : Int)) = false := by rw [bne, h1]; rfl
  cases h2 : decide (a.p = b.p)
  · go_enter Tryd.func15, Tryd.ntmps15
    go_wp2
    all_goals (go_ret; exact ⟨rfl, HG.out⟩)
  cases h3 : decide (a.q = b.q)
  · go_enter Tryd.func15, Tryd.ntmps15
    go_wp2
    all_goals (go_ret; exact ⟨rfl, HG.out⟩)
  cases h4 : (((a.s0 : Int) == (b.s0 : Int)) && ((a.s1 : Int) == (b.s1 : Int)))
  · go_enter Tryd.func15, Tryd.ntmps15
    go_wp2
    all_goals (go_ret; exact ⟨rfl, HG.out⟩)
  cases h5 : ((a.ss.length : Int) == (b.ss.length : Int))
  · obtain rfl := HLE.out h5
    have g5 : ((a.ss.length : Int) != (b.ss.length : Int)) = true := by rw [bne, h5]; rfl
    go_enter Tryd.func15, Tryd.ntmps15
    go_wp2
    all_goals (go_ret; exact ⟨rfl, HG.out⟩)
  have g5 : ((a.ss.length : Int) != (b.ss.length : Int)) = false := by rw [bne, h5]; rfl
  have hlen : a.ss.length = b.ss.length := by have := eq_of_beq h5; omega
  have HLEN := Lib.hid hlen
  clear hlen
  go_enter Tryd.func15, Tryd.ntmps15
  go_wp2
  generalize (w.alloc (.cells (stc a ao c1) 30)).alloc (.cells (stc b bo c2) 30) = w0 at *
  clear h0 h1 h2 h3 h4 h5 g0 g1 g5
  go_loopw [5] (fun v wr => ∃ k : Nat, k ≤ a.ss.length ∧ v = .int .i64 k ∧ Hid (a.ss.take k = b.ss.take k) ∧ Hid (w0.grownBy wr none)) (fun v _ => a.ss.length - (intOf v).toNat)
  case atStart => exact ⟨0, by omega, rfl, rfl, grown_refl _ _⟩
  case round =>
    obtain ⟨k, hk, rfl, HE, HW⟩ := hrel
    have c16 := (bk_grown HBa.out HW.out (by simp)).of 16 _ rfl
    have d16 := (bk_grown HBb.out HW.out (by simp)).of 16 _ rfl
    have h1 := Lib.hid (Shs_grown HS1.out HW.out (by simp))
    have h2 := Lib.hid (Shs_grown HS2.out HW.out (by simp))
    by_cases hlt : k < a.ss.length
    · have hlt2 : k < b.ss.length := by rw [← HLEN.out]; exact hlt
      obtain ⟨_, pb, po, rfl, hp⟩ := h1.out k hlt
      obtain ⟨_, qb, qo, rfl, hq⟩ := h2.out k hlt2
      have p0 : wr.cell? ⟨pb, po + k * 6, none⟩ = some (.int .i32 (a.ss[k]'hlt).x) := (hp 0 _ rfl)
      have p1 : wr.cell? ⟨pb, po + k * 6 + 1, none⟩ = some (.int .i32 (a.ss[k]'hlt).y) := (hp 1 _ rfl)
      have p2 : wr.cell? ⟨pb, po + k * 6 + 2, none⟩ = some (.int .i32 (a.ss[k]'hlt).vx) := (hp 2 _ rfl)
      have p3 : wr.cell? ⟨pb, po + k * 6 + 3, none⟩ = some (.int .i32 (a.ss[k]'hlt).vy) := (hp 3 _ rfl)
      have p4 : wr.cell? ⟨pb, po + k * 6 + 4, none⟩ = some (.int .u8 ((a.ss[k]'hlt).o : Int)) := (hp 4 _ rfl)
      have p5 : wr.cell? ⟨pb, po + k * 6 + 5, none⟩ = some (.int .u8 ((a.ss[k]'hlt).l : Int)) := (hp 5 _ rfl)
      have q0 : wr.cell? ⟨qb, qo + k * 6, none⟩ = some (.int .i32 (b.ss[k]'hlt2).x) := (hq 0 _ rfl)
      have q1 : wr.cell? ⟨qb, qo + k * 6 + 1, none⟩ = some (.int .i32 (b.ss[k]'hlt2).y) := (hq 1 _ rfl)
      have q2 : wr.cell? ⟨qb, qo + k * 6 + 2, none⟩ = some (.int .i32 (b.ss[k]'hlt2).vx) := (hq 2 _ rfl)
      have q3 : wr.cell? ⟨qb, qo + k * 6 + 3, none⟩ = some (.int .i32 (b.ss[k]'hlt2).vy) := (hq 3 _ rfl)
      have q4 : wr.cell? ⟨qb, qo + k * 6 + 4, none⟩ = some (.int .u8 ((b.ss[k]'hlt2).o : Int)) := (hq 4 _ rfl)
      have q5 : wr.cell? ⟨qb, qo + k * 6 + 5, none⟩ = some (.int .u8 ((b.ss[k]'hlt2).l : Int)) := (hq 5 _ rfl)
      have HN2 := Lib.hid (HN.out k hlt hlt2)
      have HS : Hid ((a.ss[k]'hlt) = (b.ss[k]'hlt2) → a.ss.take (k + 1) = b.ss.take (k + 1)) := fun e => by
        rw [List.take_succ_eq_append_getElem hlt, List.take_succ_eq_append_getElem hlt2, HE.out, e]
      clear hp hq HE
      generalize (a.ss[k]'hlt) = x at *
      generalize (b.ss[k]'hlt2) = y at *
      have hki : (k : Int) < (a.ss.length : Int) := by omega
      have hki2 : (k : Int) < (b.ss.length : Int) := by omega
      by_cases hxy : x = y
      · have HX := Lib.hid (HS.out hxy)
        have hd : decide (x = y) = true := decide_eq_true hxy
        clear HS HN2 h1 h2
        go_wp2_with fail
        go_quiet (fail)
        go_wp2
        go_roundw
        case rel => exact ⟨k + 1, by omega, by go_num, HX, HW.out.trans (grown_drewN _ _ _)⟩
        case measure => simp [intOf]; omega
      · obtain rfl := HN2.out hxy
        have hd : decide (x = y) = false := decide_eq_false hxy
        clear HS HN2 h1 h2
        go_wp2_with fail
        go_quiet (fail)
        go_wp2
        go_ret
        exact ⟨rfl, (HG.out.trans HW.out).trans (grown_drewN _ _ _)⟩
    · obtain rfl := HY.out k (by omega) HLEN.out HE.out
      go_wp2
      go_ret
      exact ⟨rfl, HG.out.trans HW.out⟩
end
end Go.Proofs.YtbmkmmkebophpaaDoor
