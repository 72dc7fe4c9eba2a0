/- Same: whether two states are the same: its contract. -/
import Derived.Test.YtbmkmmkebophpaaDoorSl
namespace Go.Proofs.YtbmkmmkebophpaaDoor
open Go.RowKit
set_option linter.unusedVariables false

/-- The players of a state read whole. -/
def loadPair (v : Value) : Sem Value := Instr.loadAt 25 v
theorem loadAt_pair (v : Value) : Instr.loadAt 25 v = loadPair v := rfl
theorem info_PairSz : (Tryd.prog.info? 25).map (·.size) = some 14 := by kernel_rfl
theorem run_loadPair (w : World) (g : Nat) (h : (rowOf w g).size = 19) : (loadPair (.pointer (some ⟨g, 2, none⟩))).run Tryd.prog w = .ok (.agg ((rowOf w g).extract 2 16)) w := by
  obtain ⟨cs, t, fr, hg⟩ := rowOf_shape h (by omega)
  have e : rowOf w g = cs := by unfold rowOf; rw [hg]
  rw [e] at h ⊢
  have hl := run_loadCells_list (P := Tryd.prog) w ⟨g, 2, none⟩ ((cs.toList.drop 2).take 14) (fun j v hv => by
    have hadd : (⟨g, 2, none⟩ : Addr).add j = ⟨g, 2 + j, none⟩ := by unfold Addr.add; split <;> simp_all
    rw [hadd, cell_of_row w g (2 + j) cs t fr hg, ← Array.getElem?_toList]
    rw [List.getElem?_take] at hv
    split at hv
    · rwa [List.getElem?_drop] at hv
    · cases hv)
  have hlen : ((cs.toList.drop 2).take 14).length = 14 := by simp [h]
  rw [hlen] at hl
  have he : ((cs.toList.drop 2).take 14).toArray = cs.extract 2 16 := by
    apply Array.ext'
    simp
  rw [he] at hl
  obtain ⟨i, hi, hs⟩ := Option.map_eq_some_iff.1 info_PairSz
  have hagg : (isAgg 25).run Tryd.prog w = .ok true w := by
    unfold isAgg
    rw [Sem.run_bind, run_underlying Tryd.underlying25 w]
    simp
  simp [loadPair, Instr.loadAt, Instr.sureAddr, loadVar, hagg, sizeOf, typeInfo, hi, hs, hl]
theorem ext14 (a0 a1 a2 a3 a4 a5 a6 a7 a8 a9 a10 a11 a12 a13 a14 a15 a16 a17 a18 : Value) : (#[a0, a1, a2, a3, a4, a5, a6, a7, a8, a9, a10, a11, a12, a13, a14, a15, a16, a17, a18] : Array Value).extract 2 16 = #[a2, a3, a4, a5, a6, a7, a8, a9, a10, a11, a12, a13, a14, a15] := rfl
theorem sc_eql (a b c d : Int) (w : World) : (binOp .eql 28 (.agg #[.int .u16 a, .int .u16 b]) (.agg #[.int .u16 c, .int .u16 d])).run Tryd.prog w = .ok (.bool ((a == c) && (b == d))) w := by
  rw [run_eql_struct]
  have h1 : (Tryd.prog.info? 27).map (·.size) = some 1 := by kernel_rfl
  obtain ⟨i, hi, hs⟩ := Option.map_eq_some_iff.1 h1
  rw [run_equalIn_array w 9999 _ _ Tryd.underlying28 hi, show Tryd.prog.cellsOf 27 = 1 by kernel_rfl]
  simp only [show List.range 2 = [0, 1] from rfl, Op.eqItems]
  cases h0 : (a == c) <;> cases h1 : (b == d) <;> simp [go_sem, h0, h1]
theorem sh_neq (a b : Sh) (w : World) : (binOp .neq 46 (.agg #[.int .i32 a.x, .int .i32 a.y, .int .i32 a.vx, .int .i32 a.vy, .int .u8 (a.o : Int), .int .u8 (a.l : Int)]) (.agg #[.int .i32 b.x, .int .i32 b.y, .int .i32 b.vx, .int .i32 b.vy, .int .u8 (b.o : Int), .int .u8 (b.l : Int)])).run Tryd.prog w = .ok (.bool (!decide (a = b))) w := by
  rw [run_neq_struct, sh_in 9998 a b w]
  rfl
section
attribute [local go_sem ↓] sh_neq
set_option maxHeartbeats 1000000 in
set_option maxRecDepth 20000 in
theorem equal_c (ao bo : Option Addr) (c1 c2 : Nat) (l m : List Sh) (w : World) (h1 : Shs w ao l) (h2 : Shs w bo m) (hl : l.length ≤ maxLen) (hm : m.length ≤ maxLen) :
    Calls Tryd.prog 54 #[.slice ao l.length c1, .slice bo m.length c2] w fun E w' => E = .returned (.bool (decide (l = m))) ∧ w.grownBy w' none := by
  simp only [maxLen] at hl hm
  by_cases hlen : l.length = m.length
  · rw [← hlen]
    have HN : Hid (∀ k (h : k < l.length) (h' : k < m.length), ¬ (l[k]'h) = (m[k]'h') → decide (l = m) = false) := fun k h h' e => decide_eq_false (fun x => e (by subst x; rfl))
    have HY : Hid (∀ k, k = l.length → l.take k = m.take k → decide (l = m) = true) := fun k e x => decide_eq_true (by subst e; rwa [List.take_length, hlen, List.take_length] at x)
    have HLEN := Lib.hid hlen
    have HL := Lib.hid hl
    generalize decide (l = m) = ans at *
    have hb0 : ((l.length : Int) == (l.length : Int)) = true := by simp
    clear hlen hm
    go_enter Tryd.func54, Tryd.ntmps54
    go_wp2
    go_loopw [13] (fun v wr => ∃ k : Nat, k ≤ l.length ∧ v = .int .i64 k ∧ Hid (l.take k = m.take k) ∧ Hid (w.grownBy wr none)) (fun v _ => l.length - (intOf v).toNat)
    case atStart => exact ⟨0, by omega, rfl, rfl, grown_refl _ _⟩
    case round =>
      obtain ⟨k, hk, rfl, HE, HW⟩ := hrel
      by_cases hlt : k < l.length
      · have hlt2 : k < m.length := by rw [← HLEN.out]; exact hlt
        obtain ⟨_, pb, po, rfl, hp⟩ := h1 k hlt
        obtain ⟨_, qb, qo, rfl, hq⟩ := h2 k hlt2
        have hw : ∀ {b i : Nat} {v : Value}, w.cell? ⟨b, i, none⟩ = some v → wr.cell? ⟨b, i, none⟩ = some v := fun hv => go_at HW.out hv
        have p0 : wr.cell? ⟨pb, po + k * 6, none⟩ = some (.int .i32 (l[k]'hlt).x) := hw (hp 0 _ rfl)
        have p1 : wr.cell? ⟨pb, po + k * 6 + 1, none⟩ = some (.int .i32 (l[k]'hlt).y) := hw (hp 1 _ rfl)
        have p2 : wr.cell? ⟨pb, po + k * 6 + 2, none⟩ = some (.int .i32 (l[k]'hlt).vx) := hw (hp 2 _ rfl)
        have p3 : wr.cell? ⟨pb, po + k * 6 + 3, none⟩ = some (.int .i32 (l[k]'hlt).vy) := hw (hp 3 _ rfl)
        have p4 : wr.cell? ⟨pb, po + k * 6 + 4, none⟩ = some (.int .u8 ((l[k]'hlt).o : Int)) := hw (hp 4 _ rfl)
        have p5 : wr.cell? ⟨pb, po + k * 6 + 5, none⟩ = some (.int .u8 ((l[k]'hlt).l : Int)) := hw (hp 5 _ rfl)
        have q0 : wr.cell? ⟨qb, qo + k * 6, none⟩ = some (.int .i32 (m[k]'hlt2).x) := hw (hq 0 _ rfl)
        have q1 : wr.cell? ⟨qb, qo + k * 6 + 1, none⟩ = some (.int .i32 (m[k]'hlt2).y) := hw (hq 1 _ rfl)
        have q2 : wr.cell? ⟨qb, qo + k * 6 + 2, none⟩ = some (.int .i32 (m[k]'hlt2).vx) := hw (hq 2 _ rfl)
        have q3 : wr.cell? ⟨qb, qo + k * 6 + 3, none⟩ = some (.int .i32 (m[k]'hlt2).vy) := hw (hq 3 _ rfl)
        have q4 : wr.cell? ⟨qb, qo + k * 6 + 4, none⟩ = some (.int .u8 ((m[k]'hlt2).o : Int)) := hw (hq 4 _ rfl)
        have q5 : wr.cell? ⟨qb, qo + k * 6 + 5, none⟩ = some (.int .u8 ((m[k]'hlt2).l : Int)) := hw (hq 5 _ rfl)
        have HN2 := Lib.hid (HN.out k hlt hlt2)
        have HS : Hid ((l[k]'hlt) = (m[k]'hlt2) → l.take (k + 1) = m.take (k + 1)) := fun e => by
          rw [List.take_succ_eq_append_getElem hlt, List.take_succ_eq_append_getElem hlt2, HE.out, e]
        clear hp hq hw h1 h2 HE
        generalize (l[k]'hlt) = x at *
        generalize (m[k]'hlt2) = y at *
        have hki : (k : Int) < (l.length : Int) := by omega
        by_cases hxy : x = y
        · have HX := Lib.hid (HS.out hxy)
          have hd : decide (x = y) = true := decide_eq_true hxy
          clear HS HN2
          go_wp2_with fail
          go_quiet (fail)
          go_wp2
          go_roundw
          case rel => exact ⟨k + 1, by omega, by go_num, HX, HW.out.trans (grown_drewN _ _ _)⟩
          case measure => simp [intOf]; omega
        · obtain rfl := HN2.out hxy
          have hd : decide (x = y) = false := decide_eq_false hxy
          clear HS HN2
          go_wp2_with fail
          go_quiet (fail)
          go_wp2
          go_ret
          exact ⟨rfl, HW.out.trans (grown_drewN _ _ _)⟩
      · obtain rfl := HY.out k (by omega) HE.out
        go_wp2
        go_ret
        exact ⟨rfl, HW.out⟩
  · rw [show decide (l = m) = false from decide_eq_false (fun e => hlen (by rw [e]))]
    have hb0 : ((l.length : Int) == (m.length : Int)) = false := beq_eq_false_iff_ne.2 (by omega)
    go_enter Tryd.func54, Tryd.ntmps54
    go_wp2
    go_ret
    exact ⟨rfl, grown_refl _ _⟩
end
section
attribute [local go_sem ↓] loadAt_pair arr_eql sc_eql
attribute [local go_sem] run_loadPair rowOf_new rowOf_old rowOf_drew rowOf_drewN ext14
theorem same_and (a b : St) : same a b = (((a.fr : Int) == (b.fr : Int)) && (((a.sd : Int) == (b.sd : Int)) && ((decide (a.p = b.p) && decide (a.q = b.q)) && (decide (a.ss = b.ss) && (((a.s0 : Int) == (b.s0 : Int)) && ((a.s1 : Int) == (b.s1 : Int))))))) := by
  unfold same
  rw [Bool.eq_iff_iff]
  simp [st_eq]
  intros
  constructor
  · rintro ⟨a1, a2, a3, a4, a5, a6, a7⟩; exact ⟨by omega, by omega, ⟨a3, a4⟩, a5, by omega, by omega⟩
  · rintro ⟨a1, a2, ⟨a3, a4⟩, a5, a6, a7⟩; exact ⟨by omega, by omega, a3, a4, a5, by omega, by omega⟩
set_option maxHeartbeats 1000000 in
set_option maxRecDepth 20000 in
theorem same_c (a b : St) (ao bo : Option Addr) (c1 c2 : Nat) (w : World) (h1 : Shs w ao a.ss) (h2 : Shs w bo b.ss) (hl : a.ss.length ≤ maxLen) (hm : b.ss.length ≤ maxLen) :
    Calls Tryd.prog 21 #[sv a ao c1, sv b bo c2] w fun E w' => E = .returned (.bool (same a b)) ∧ w.grownBy w' none := by
  have hg : w.grownBy ((w.alloc (.cells (stc a ao c1) 30)).alloc (.cells (stc b bo c2) 30)) none := (grown_alloc _ _).trans (grown_alloc _ _)
  have HC := Lib.hid (equal_c ao bo c1 c2 a.ss b.ss _ (Shs_grown h1 hg (by simp)) (Shs_grown h2 hg (by simp)) hl hm)
  have hBa : Bk ((w.alloc (.cells (stc a ao c1) 30)).alloc (.cells (stc b bo c2) 30)) w.heap.size a ao c1 := heap_alloc2_old w _ _
  have hBb : Bk ((w.alloc (.cells (stc a ao c1) 30)).alloc (.cells (stc b bo c2) 30)) (w.heap.size + 1) b bo c2 := heap_alloc2_new w _ _
  have HBa := Lib.hid hBa
  have HBb := Lib.hid hBb
  have HG := Lib.hid hg
  rw [same_and]
  clear hg hBa hBb h1 h2
  generalize decide (a.ss = b.ss) = e3 at *
  cases h0 : ((a.fr : Int) == (b.fr : Int))
  · go_enter Tryd.func21, Tryd.ntmps21
    go_wp2
    go_ret
    exact ⟨rfl, HG.out⟩
  · cases h1 : ((a.sd : Int) == (b.sd : Int))
    · go_enter Tryd.func21, Tryd.ntmps21
      go_wp2
      go_ret
      exact ⟨rfl, HG.out⟩
    · cases h2 : (decide (a.p = b.p) && decide (a.q = b.q))
      · go_enter Tryd.func21, Tryd.ntmps21
        go_wp2
        go_ret
        exact ⟨rfl, HG.out⟩
      · go_enter Tryd.func21, Tryd.ntmps21
        go_wp2_with fail
        refine HC.out.mono ?_
        rintro E w1 ⟨rfl, hb1⟩
        have a17 := (bk_grown HBa.out hb1 (by simp)).of 17 _ rfl
        have a18 := (bk_grown HBa.out hb1 (by simp)).of 18 _ rfl
        have b17 := (bk_grown HBb.out hb1 (by simp)).of 17 _ rfl
        have b18 := (bk_grown HBb.out hb1 (by simp)).of 18 _ rfl
        have HG1 := Lib.hid (HG.out.trans hb1)
        clear hb1
        cases e3
        · go_wp2
          go_ret
          exact ⟨rfl, HG1.out⟩
        · go_wp2
          go_ret
          exact ⟨by simp, HG1.out⟩
end
end Go.Proofs.YtbmkmmkebophpaaDoor
