/- Put: the bytes of a state: its contract. -/
import Derived.Test.YtbmkmmkebophpaaDoorSf
import Derived.Test.YtbmkmmkebophpaaDoorSr
namespace Go.Proofs.YtbmkmmkebophpaaDoor
open Go.RowKit
set_option linter.unusedVariables false

theorem kept_to_grown {w1 W0 W' : World} (h : w1.grownBy W0 none) (k : Kept (fun i => i < w1.heap.size) W0 W') : w1.grownBy W' none :=
  ⟨k.os.trans h.os, k.tape.trans h.tape, k.output.trans h.output, Nat.le_trans h.size k.size, fun i hi hn => (k.block i hi).trans (h.block i hi hn)⟩
attribute [local go_sem ↓] loadAt_state
attribute [local go_sem] run_loadState rowOf_new rowOf_old rowOf_drew rowOf_drewN
/-- What Put answers. -/
def sput (s : St) : List UInt8 := if s.good then ste s else []
theorem sput_yes {s : St} (h : s.good = true) : sput s = ste s := if_pos h
theorem sput_no {s : St} (h : s.good = false) : sput s = [] := if_neg (by rw [h]; decide)
theorem chk_yes {s : St} (h : s.good = true) : chk s = 0 := if_pos h
theorem chk_no {s : St} (h : s.good = false) : chk s = 4 := if_neg (by rw [h]; decide)
theorem idx0 (a b : Value) (w : World) : (Instr.index 28 (.agg #[a, b]) (.int .i64 0)).run Tryd.prog w = .ok a w := by
  have h1 : (Tryd.prog.info? 27).map (·.size) = some 1 := by kernel_rfl
  cases hq : Tryd.prog.info? 27 with
  | none => rw [hq] at h1; simp at h1
  | some i =>
    have hs : i.size = 1 := by rw [hq] at h1; simpa using h1
    simp [Instr.index, run_underlying Tryd.underlying28, go_sem, sizeOf, typeInfo, hq, hs]
theorem idx1 (a b : Value) (w : World) : (Instr.index 28 (.agg #[a, b]) (.int .i64 1)).run Tryd.prog w = .ok b w := by
  have h1 : (Tryd.prog.info? 27).map (·.size) = some 1 := by kernel_rfl
  cases hq : Tryd.prog.info? 27 with
  | none => rw [hq] at h1; simp at h1
  | some i =>
    have hs : i.size = 1 := by rw [hq] at h1; simpa using h1
    simp [Instr.index, run_underlying Tryd.underlying28, go_sem, sizeOf, typeInfo, hq, hs]
attribute [local go_sem] idx0 idx1
def two (s : St) (k : Nat) : List UInt8 := if k = 0 then [] else if k = 1 then le 2 s.s0 else le 2 s.s0 ++ le 2 s.s1
set_option maxHeartbeats 1000000 in
set_option maxRecDepth 20000 in
theorem put_c (s : St) (ao : Option Addr) (cap : Nat) (w : World) (h : Shs w ao s.ss) (hf : s.fit) (ht : Tab w) :
    Calls Tryd.prog 13 #[sv s ao cap] w fun E w' => E = .returned (.string (str (sput s))) ∧ w.grownBy w' none := by
  have hB := bk_made w s ao cap
  have hC := check_c s ao cap (w.alloc (.cells (stc s ao cap) 30)) (Shs_grown h (grown_alloc _ _) (by simp)) hf (tab_grown ht (grown_alloc _ _) (by simp))
  cases hg : s.good
  · have HX := Lib.hid (sput_no hg)
    rw [chk_no hg] at hC
    clear hg hB h ht
    go_enter Tryd.func13, Tryd.ntmps13
    go_wp2_with fail
    refine hC.mono ?_
    rintro E w1 ⟨rfl, hb1⟩
    go_wp2
    go_ret
    exact ⟨by rw [HX.out]; rfl, (grown_alloc _ _).trans hb1⟩
  · have HX := Lib.hid (sput_yes hg)
    have h8 := good_few hg
    rw [chk_yes hg] at hC
    have HF := Lib.hid hf
    have HS := Lib.hid h
    have HB := Lib.hid hB
    have HL2 := Lib.hid (hes_len s.ss)
    have HV := Lib.hid (vr_len s.ss.length)
    have hl64 : IntKind.u64.wrap (s.ss.length : Int) = (s.ss.length : Int) := u64_id _ (by omega) (by omega)
    clear hg hB h ht hf
    go_enter Tryd.func13, Tryd.ntmps13
    go_wp2_with fail
    refine hC.mono ?_
    rintro E w1 ⟨rfl, hb1⟩
    have hgr : w.grownBy w1 none := (grown_alloc _ _).trans hb1
    have hB1 := bk_grown HB.out hb1 (by simp)
    have hgl : w.heap.size < w1.heap.size := Cells.lt hB1
    have hw0 := ws_new w1 (fun k => k < w1.heap.size) (fun _ h => h)
    have hB2 : Bk (w1.alloc (.cells #[.slice none 0 0] 60)) w.heap.size s ao cap := bk_grown hB1 (grown_alloc _ _) (by simp)
    obtain ⟨c0, c1, ⟨c2, c3, c4, c5, c6, c7, c8⟩, ⟨c9, c10, c11, c12, c13, c14, c15⟩, c16, c17, c18⟩ := bk_cells hB1
    have HG := Lib.hid hgr
    have HB2 := Lib.hid hB2
    have HW0 := Lib.hid hw0
    have HB1 := Lib.hid hB1
    clear hb1 hgr hB1 hB2 hw0
    go_wp2_with fail
    refine (wsU64 w1.heap.size s.fr _ [] _ HW0.out (by simp) HF.out.1).mono ?_
    rintro E w2 ⟨rfl, hw2⟩
    have HW2 := Lib.hid hw2
    have d1 := kept_cell (b := w.heap.size) (o := 1) hw2.2 hgl (HB2.out.of 1 _ rfl)
    clear hw2
    go_wp2_with fail
    refine (wsU64 w1.heap.size s.sd _ _ _ HW2.out.1 (by simp [le_length]) HF.out.2.1).mono ?_
    rintro E w3 ⟨rfl, hw3⟩
    have HW3 := Lib.hid (wsTo_trans HW2.out hw3)
    clear hw3 d1
    go_wp2_with fail
    refine (putPl w1.heap.size _ _ (some ⟨w.heap.size, 2, none⟩) 2 [s.p, s.q] _ (pls_of (kept_cells HW3.out.2 hgl HB2.out) HF.out.2.2.1 HF.out.2.2.2.1) (fun _ a e => by cases e; exact hgl) HW3.out.1 (by simp) (by simp [le_length])).mono ?_
    rintro E w4 ⟨rfl, hw4⟩
    have HW4 := Lib.hid (wsTo_trans HW3.out hw4)
    have d16 := kept_cell (b := w.heap.size) (o := 16) HW4.out.2 hgl (HB2.out.of 16 _ rfl)
    clear hw4
    go_wp2_with fail
    refine (wsVar w1.heap.size s.ss.length _ _ _ HW4.out.1 (by simp [le_length, pes_len]) (by omega)).mono ?_
    rintro E w5 ⟨rfl, hw5⟩
    have HW5 := Lib.hid (wsTo_trans HW4.out hw5)
    have e16 := kept_cell (b := w.heap.size) (o := 16) HW5.out.2 hgl (HB2.out.of 16 _ rfl)
    clear hw5 d16
    have hsw : Shs w5 ao s.ss := fun k hk => by
      obtain ⟨hfit, b, o, e, hc⟩ := HS.out k hk
      refine ⟨hfit, b, o, e, fun i v hv => ?_⟩
      have h1 := hc i v hv
      have hlt := World.block_lt_of_cell? w _ h1
      have h2 := go_at (HG.out.trans (grown_alloc w1 (.cells #[.slice none 0 0] 60))) h1
      exact kept_cell HW5.out.2 (Nat.lt_trans hlt hgl) h2
    go_wp2_with fail
    refine (putSh w1.heap.size _ _ ao cap s.ss _ hsw (fun h0 a e => by
      obtain ⟨_, b, o, e', hc⟩ := HS.out 0 h0
      have hlt := World.block_lt_of_cell? w _ (hc 0 _ rfl)
      rw [e] at e'
      cases e'
      exact Nat.lt_trans hlt hgl) HW5.out.1 (by omega) (by
        have h1 := HV.out.2
        simp [le_length, pes_len]; omega)).mono ?_
    rintro E w6 ⟨rfl, hw6⟩
    have HW6 := Lib.hid (wsTo_trans HW5.out hw6)
    have e17 := kept_cell (b := w.heap.size) (o := 17) HW6.out.2 hgl (HB2.out.of 17 _ rfl)
    have e18 := kept_cell (b := w.heap.size) (o := 18) HW6.out.2 hgl (HB2.out.of 18 _ rfl)
    clear hw6 e16 hsw
    have HSC : Hid (∀ bb : List UInt8, bb ++ two s 1 = bb ++ two s 0 ++ le 2 s.s0 ∧ bb ++ two s 2 = bb ++ two s 1 ++ le 2 s.s1) := fun bb => by simp [two]
    have HLB : Hid (([] ++ le 8 s.fr ++ le 8 s.sd ++ pes [s.p, s.q] ++ vr s.ss.length ++ hes s.ss).length ≤ 1000000) := by
      have h1 := HV.out.2
      have h2 := HL2.out
      show _ ≤ _
      simp [le_length, pes_len]; omega
    have HST : Hid (ste s = [] ++ le 8 s.fr ++ le 8 s.sd ++ pes [s.p, s.q] ++ vr s.ss.length ++ hes s.ss ++ two s 2) := by
      show _ = _
      simp [ste, two, pes]
    generalize [] ++ le 8 s.fr ++ le 8 s.sd ++ pes [s.p, s.q] ++ vr s.ss.length ++ hes s.ss = bb at *
    go_wp2
    go_loopw [28] (fun v wr => ∃ k : Nat, k ≤ 2 ∧ v = .int .i64 k ∧ WsTo (w1.alloc (.cells #[.slice none 0 0] 60)) w1.heap.size (fun k => k < w1.heap.size) (bb ++ two s k) wr) (fun v _ => 2 - (intOf v).toNat)
    case atStart => exact ⟨0, by omega, rfl, by simpa [two] using HW6.out⟩
    case round =>
      obtain ⟨k, hk, rfl, hto⟩ := hrel
      have hk3 : k = 0 ∨ k = 1 ∨ k = 2 := by omega
      have HTO := Lib.hid hto
      have HLT : Hid ((bb ++ two s k).length ≤ 1099511627776) := by
        have h1 := HLB.out
        have h2 : (two s k).length ≤ 4 := by unfold two; (repeat' split) <;> simp [le_length]
        show _ ≤ _
        rw [List.length_append]; omega
      clear hto
      rcases hk3 with rfl | rfl | rfl
      · go_wp2_with fail
        refine (wsU16 w1.heap.size s.s0 _ _ _ HTO.out.1 HLT.out HF.out.2.2.2.2.2.1).mono ?_
        rintro E w7 ⟨rfl, hw7⟩
        have HW7 := Lib.hid (wsTo_trans HTO.out hw7)
        clear hw7
        go_wp2
        go_roundw
        case rel => exact ⟨1, by omega, by go_num, by rw [(HSC.out bb).1]; exact HW7.out⟩
        case measure => simp [intOf]
      · go_wp2_with fail
        refine (wsU16 w1.heap.size s.s1 _ _ _ HTO.out.1 HLT.out HF.out.2.2.2.2.2.2).mono ?_
        rintro E w7 ⟨rfl, hw7⟩
        have HW7 := Lib.hid (wsTo_trans HTO.out hw7)
        clear hw7
        go_wp2
        go_roundw
        case rel => exact ⟨2, by omega, by go_num, by rw [(HSC.out bb).2]; exact HW7.out⟩
        case measure => simp [intOf]
      · go_wp2_with fail
        refine (wsBytes w1.heap.size _ _ _ HTO.out.1).mono ?_
        rintro E w7 ⟨rfl, rfl⟩
        go_wp2
        go_ret
        exact ⟨by rw [HX.out, HST.out]; rfl, HG.out.trans (kept_to_grown (grown_alloc _ _) HTO.out.2)⟩
end Go.Proofs.YtbmkmmkebophpaaDoor
