/- The range function 'frames': what it hands back, and its contract: it goes through the items of the bytes, for every loop's body that keeps what lay ahead of it. -/
import Derived.RangeFuncNested
import Derived.RangeFuncBound
import Derived.RangeFuncCalls
import Derived.RangeFuncLeaves
import Derived.RangeFuncBox
import Derived.Shelf.Abstract
import Derived.Shelf.RegionOpen
import Derived.WalkKit
import Derived.OwnWalkIn
import Derived.TacticsInMore
import Derived.LoopNIn
import Derived.LoopIn
import Derived.Maps.AppendAt
import Derived.Test.YtgbieihobcindaaDoorFd
namespace Go.Proofs.YtgbieihobcindaaDoor
open Go.RowKit Go.Shelf
set_option linter.unusedVariables false
attribute [local go_sem] Oper.semAt_some

abbrev encs (x : Item) : Array Value := #[.string (str x.p), .int .i64 x.e]
theorem frames_c (s : List UInt8) (w : World) :
    Calls Tryd.prog 26 #[.string (str s)] w fun E w' => E = .returned (.func (.func 33) #[] #[.pointer (some ⟨w.heap.size, 0, none⟩)]) ∧ w.alloc (.cells #[.string (str s)] 9) = w' := by
  go_enter Tryd.func26, Tryd.ntmps26
  go_wp2
  go_ret
  exact ⟨rfl, rfl⟩
theorem str_empty (l : List UInt8) (h : l ≠ []) : ((str l).toList == []) = false := by rw [str_toList]; simpa using h
theorem str_empty0 : ((str []).toList == []) = true := by rw [str_toList]; rfl
/-- A round of the range function, at its head. -/
def FrmRel (s : List UInt8) (J : List Item → World → Prop) (v : Value) (wr : World) : Prop :=
  ∃ (pre : List Item) (l : List UInt8), v = .string (str l) ∧ l.length ≤ s.length ∧ items s = pre ++ items l ∧ Tab wr ∧ J pre wr
def strLen : Value → Nat
  | .string b => b.size
  | _ => 0

set_option maxRecDepth 100000 in
set_option maxHeartbeats 2000000 in
theorem frames1_in (n : Nat) (hn : 1 ≤ n) (l0 Bn n₀ : Nat) (s : List UInt8) (hs : s.length ≤ 1099511627776) (h₀ : 0 < n₀) (J Jx : List Item → World → Prop)
    (W : World) (hJ : AbidesFrom W.heap.size J)
    (hY : ∀ pre x W, J pre W → pre.length < (items s).length → YieldAt Fence.wide (n - 1) Tryd.prog l0 (encs x) W fun e W' =>
      (e = .returned (.bool true) ∧ J (pre ++ [x]) W' ∧ Below n₀ W W') ∨ (e = .returned (.bool false) ∧ Jx (pre ++ [x]) W'))
    (hBn : W.cell? ⟨Bn, 0, none⟩ = some (.string (str s))) (ht : Tab W) (h0 : J [] W) :
    CallsIn Fence.wide n Tryd.prog 33 #[.func (.yield l0) #[] #[], .pointer (some ⟨Bn, 0, none⟩)] W fun e W' => (∃ v, e = .returned v) ∧
      ((∃ ys, ys = items s ∧ J ys W') ∨ (∃ pre, pre <+: items s ∧ Jx pre W')) := by
  have HJ := Lib.hid hJ
  have HY := Lib.hid hY
  have H0 := Lib.hid h0
  have HT := Lib.hid ht
  clear hJ hY h0 ht
  refine callsIn_of_wp Tryd.func33 rfl trivial ?_ rfl
  simp only [Tryd.ntmps33, List.size_toArray, List.length_cons, List.length_nil, Nat.reduceAdd, Nat.reduceSub, Array.replicate_succ, Array.replicate_zero, List.push_toArray, List.append_toArray, List.nil_append, List.cons_append]
  gi_wp2
  gi_loopw [3] (fun v wr => FrmRel s J v wr) (fun v _ => strLen v)
  case atStart => exact ⟨[], s, rfl, Nat.le_refl _, rfl, HT.out, H0.out⟩
  case round =>
    obtain ⟨pre, l, rfl, hl, hx, htr, hJs⟩ := hrel
    have HX := Lib.hid hx
    have HTR := Lib.hid htr
    have HJS := Lib.hid hJs
    clear hx htr hJs
    by_cases hl0 : l = []
    · subst hl0
      have hq := str_empty0
      gi_wp2
      go_end0
      exact ⟨⟨_, rfl⟩, .inl ⟨pre, by rw [HX.out, items_nil, List.append_nil], HJS.out⟩⟩
    · have hq := str_empty l hl0
      obtain ⟨r, hr⟩ := items_first hl0
      have HR := Lib.hid hr
      have HN : Hid (pre.length < (items s).length) := by show _ < _; rw [HX.out, hr]; simp
      have HS : Hid (fe l = 0 → 6 + (fp l).length ≤ l.length) := fun h => fp_room h
      have hpl := fp_len l
      have hsz := str_size l
      have hl40 : l.length ≤ 1099511627776 := by omega
      clear hr
      gi_wp2
      refine ⟨trivial, (callsIn_wide.2 (first_c l _ hl40 HTR.out)).mono ?_⟩
      rintro E w1 ⟨rfl, hg1⟩
      have HT1 := Lib.hid (tab_grown HTR.out hg1)
      have HJ1 := Lib.hid (HJ.out pre wr w1 none HJS.out hg1 (fun r e => by cases e))
      clear hg1
      obtain ⟨fn0, tmps, assign, body, hy, hR⟩ := HY.out pre ⟨fp l, fe l, hpl⟩ w1 HJ1.out HN.out
      dsimp only [encs] at hy
      by_cases he : fe l = 0
      · have HE := Lib.hid he
        have hr := HS.out he
        have hd := str_rest l (6 + (fp l).length)
        rw [he] at hy
        gi_wp2
        refine hR.mono ?_
        rintro E w2 (⟨rfl, hJ2, hk2⟩ | ⟨rfl, hJx2⟩)
        · have HT2 := Lib.hid (tab_b HT1.out h₀ hk2)
          have HIT := Lib.hid (items_ok he)
          have hst : ((6 + (fp l).length : Nat) : Int).toNat = 6 + (fp l).length := by omega
          gi_wp2
          refine ⟨trivial, (callsIn_wide.2 (size_c (fp l) _ (by omega))).mono ?_⟩
          rintro E w3 ⟨rfl, rfl⟩
          have i1 : ((6 + (fp l).length : Nat) : Int) ≤ (l.length : Int) := by omega
          have HQ := Lib.hid (show 6 ≤ 6 + (fp l).length from by omega)
          generalize 6 + (fp l).length = q at *
          gi_wp2
          go_roundw
          case rel =>
            refine ⟨pre ++ [⟨fp l, fe l, hpl⟩], l.drop q, rfl, by rw [List.length_drop]; omega, ?_, HT2.out, hJ2⟩
            rw [HX.out, HIT.out]
            simp [he]
          case measure =>
            have := HQ.out
            show (str (l.drop q)).size < (str l).size
            rw [str_size, str_size, List.length_drop]; omega
        · gi_wp2
          refine bodyPost_ret (results_none rfl _ _ _) rfl ?_
          exact ⟨⟨_, rfl⟩, .inr ⟨pre ++ [⟨fp l, fe l, hpl⟩], ⟨r, by rw [HX.out, HR.out]; simp⟩, hJx2⟩⟩
      · have hb : (fe l == 0) = false := beq_eq_false_iff_ne.2 he
        have HIT := Lib.hid (items_bad hl0 he)
        have HE := Lib.hid he
        clear he
        gi_wp2
        refine hR.mono ?_
        rintro E w2 (⟨rfl, hJ2, hk2⟩ | ⟨rfl, hJx2⟩)
        · gi_wp2
          refine bodyPost_ret (results_none rfl _ _ _) rfl ?_
          exact ⟨⟨_, rfl⟩, .inl ⟨pre ++ [⟨fp l, fe l, hpl⟩], by rw [HX.out, HIT.out], hJ2⟩⟩
        · gi_wp2
          refine bodyPost_ret (results_none rfl _ _ _) rfl ?_
          exact ⟨⟨_, rfl⟩, .inr ⟨pre ++ [⟨fp l, fe l, hpl⟩], ⟨r, by rw [HX.out, HR.out]; simp⟩, hJx2⟩⟩
end Go.Proofs.YtgbieihobcindaaDoor
