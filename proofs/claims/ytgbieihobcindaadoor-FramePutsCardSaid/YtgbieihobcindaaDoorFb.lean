/- The document's All, and Same: one contract each. -/
import Derived.Test.YtgbieihobcindaaDoorFa
namespace Go.Proofs.YtgbieihobcindaaDoor
open Go.RowKit
set_option linter.unusedVariables false

/-- A list of strings that the call has made. -/
def SRow (w : World) (B : Nat) (v : Value) (ps : List (List UInt8)) (wr : World) : Prop :=
  ∃ ao cap, v = .slice ao ps.length cap ∧ Strs wr B v ps ∧ Below B w wr ∧ B ≤ wr.heap.size
theorem srow_push {w wr W w1 : World} {B g' cap cap' : Nat} {ao : Option Addr} {ps : List (List UInt8)} {p : List UInt8} (hb : Below B w wr) (hB : B ≤ W.heap.size) (hW : Below B wr W)
    (hown : wr.ownsRow B 9 1 (.slice ao ps.length cap) ps.length (strs ps)) (hgr : W.grownBy w1 (Value.slice ao ps.length cap).ownBlock)
    (hown1 : w1.ownsRow B 9 1 (.slice (some ⟨g', 0, none⟩) (ps.length + 1) cap') (ps.length + 1) (strs ps ++ [.string (str p)])) :
    SRow w B (.slice (some ⟨g', 0, none⟩) (ps.length + 1) cap') (ps ++ [p]) w1 := by
  refine ⟨some ⟨g', 0, none⟩, cap', by simp, ?_, (hb.trans hW).grown hgr hB (fun k e => (hown.lt k e).1), Nat.le_trans hB hgr.size⟩
  unfold Strs
  rw [strs_snoc, List.length_append]; exact hown1
theorem strs_none {w w' : World} {B : Nat} {v : Value} {ps : List (List UInt8)} (h : Strs w B v ps) (hg : w.grownBy w' none) : Strs w' B v ps := World.ownsRow.kept h hg (Classical.em _)
/-- The document's All, at a round's head. -/
def AllRel (w : World) (s : List UInt8) (v j : Value) (wr : World) : Prop :=
  ∃ (ps : List (List UInt8)) (k : Nat), j = .int .i64 k ∧ k ≤ s.length ∧ ps.length ≤ k ∧ all s = ⟨ps ++ (all (s.drop k)).l, k + (all (s.drop k)).used, (all (s.drop k)).err⟩ ∧ SRow w w.heap.size v ps wr
theorem res_end {s : List UInt8} {ps : List (List UInt8)} {k : Nat} {e : Int} {v : Value} (h : all s = ⟨ps, k, e⟩) :
    Ending.returned (.tuple #[v, .int .i64 k, .int .i64 e]) = Ending.returned (.tuple #[v, .int .i64 (all s).used, .int .i64 (all s).err]) := by rw [h]
set_option maxHeartbeats 2000000 in
theorem refAll (s : List UInt8) (w : World) (hs : s.length ≤ 1048576) :
    Calls Tryd.prog 15 #[.string (str s)] w fun E w' => ∃ v, E = .returned (.tuple #[v, .int .i64 (all s).used, .int .i64 (all s).err]) ∧ Strs w' w.heap.size v (all s).l ∧ Below w.heap.size w w' := by
  have hsz := str_size s
  go_enter Tryd.func15, Tryd.ntmps15
  go_wp2
  go_loopw [5, 6] (fun v j wr => AllRel w s v j wr) (fun _ j _ => s.length - (intOf j).toNat)
  case atStart => exact ⟨[], 0, rfl, Nat.zero_le _, Nat.le_refl _, by simp, none, 0, rfl, World.ownsRow_nil _ _ _ _, Below.refl _ _, Nat.le_refl _⟩
  case round =>
    obtain ⟨ps, k, rfl, hk, hpk, ha, ao, cap, rfl, hown, hb, hB⟩ := hrel
    have HA := Lib.hid ha
    have HO := Lib.hid hown
    have HBW := Lib.hid hb
    clear ha hown hb
    by_cases hlt : k < s.length
    · have hd := str_rest s k
      have hdl : (s.drop k).length = s.length - k := List.length_drop
      have hne : s.drop k ≠ [] := by intro h; rw [h] at hdl; simp at hdl; omega
      have HDL := Lib.hid hdl
      clear hdl
      generalize hr : s.drop k = r at *
      have HR := Lib.hid hr
      clear hr
      go_wp2_with fail
      refine (refNext r _ (by have := HDL.out; omega)).mono ?_
      rintro E w1 ⟨rfl, hg1⟩
      have HG1 := Lib.hid hg1
      clear hg1
      by_cases he : fe r = 0
      · have hr6 := fp_room he
        have hfu : fu r = 6 + (fp r).length := by rw [fu, if_pos he]
        have hown := World.ownsRow.kept (row := none) HO.out HG1.out (Classical.em _)
        have HB1 := Lib.hid (below_on HBW.out HG1.out hB)
        have HS1 := Lib.hid (Nat.le_trans hB HG1.out.size)
        have hdl := HDL.out
        have HQ : Hid (k + fu r ≤ s.length ∧ 6 ≤ fu r) := ⟨by omega, by omega⟩
        have HE : Hid (all s = ⟨ps ++ [fp r] ++ (all (s.drop (k + fu r))).l, k + fu r + (all (s.drop (k + fu r))).used, (all (s.drop (k + fu r))).err⟩) := by
          show _ = _
          rw [HA.out, all_ok he, ← hfu, ← HR.out, List.drop_drop]
          simp [Nat.add_assoc]
        have hsum : IntKind.i64.wrap ((k : Int) + (fu r : Int)) = ((k + fu r : Nat) : Int) := by
          rw [← Int.natCast_add]; exact IntWalk.i64_in _ (by omega)
        clear hr6 hfu hdl hne hd
        have hpl := fp_len r
        generalize fu r = q at *
        generalize fp r = p at *
        obtain ⟨i0, hi0, hz0, hz1, hz2⟩ := info_parts info_str
        have HI0 := Lib.hid hi0
        have HZ0 := Lib.hid hz0
        have HZ1 := Lib.hid hz1
        have HZ2 := Lib.hid hz2
        clear hi0 hz0 hz1 hz2
        have hb1 : ps.length + 1 ≤ maxLen := by simp only [maxLen]; omega
        have hb2 : (ps.length + 1) * 16 ≤ 140737488355328 := by omega
        have hs1 := HS1.out
        go_wp2_with (at_builtin; refine wpList_append_lies _ rfl (.tmp 27) (.tmp 29) 33 rfl w.heap.size 9 i0 (.string ⟨#[]⟩) 1 16 Tryd.underlying33 HI0.out HZ0.out HZ1.out HZ2.out rfl (by decide) _ _ _ (by simp [Act.eval]) (World.ownsRow.alloc hown _) ⟨w1.heap.size, 0, none⟩ 1 1 [_] (by simp [Act.eval]) rfl (cell_one_new _ _ _) (by simp [Value.oneCell']) (by decide) hb1 hb2 (by simp; omega) _ rfl ?_; intro g' cap' w2 hown1 hgr hat2 hlt1)
        have HG := Lib.hid hgr
        clear hgr hat2
        go_wp2
        go_roundw
        case rel =>
          refine ⟨ps ++ [p], k + q, by go_num, HQ.out.1, by rw [List.length_append]; have := HQ.out.2; simp; omega, HE.out, ?_⟩
          exact srow_push HB1.out (by simp; omega) ((Below.refl _ w1).alloc hs1 _) hown HG.out hown1
        case measure => have := HQ.out; simp [intOf]; omega
      · have hb0 : (fe r == 0) = false := beq_eq_false_iff_ne.2 he
        have HE := Lib.hid (all_bad hne he)
        clear he
        rw [HE.out, List.append_nil, Nat.add_zero] at HA
        go_wp2
        go_ret3
        exact ⟨_, res_end HA.out, by rw [HA.out]; exact World.ownsRow.kept HO.out HG1.out (Classical.em _), below_on HBW.out HG1.out hB⟩
    · have hx : k = s.length := by omega
      subst hx
      rw [List.drop_length, all_nil] at HA
      go_wp2
      go_ret3
      exact ⟨_, res_end HA.out, by rw [HA.out, List.append_nil]; exact HO.out, HBW.out⟩
/-- A list of strings that can be read. -/
def StrAt (w : World) (v : Value) (ps : List (List UInt8)) : Prop :=
  ∃ ao cap, v = .slice ao ps.length cap ∧ ∀ k (h : k < ps.length), ∃ b o, ao = some ⟨b, o, none⟩ ∧ w.cell? ⟨b, o + k, none⟩ = some (.string (str (ps[k]'h)))
theorem strAt_of {w : World} {B : Nat} {v : Value} {ps : List (List UInt8)} (h : Strs w B v ps) : StrAt w v ps := by
  obtain ⟨ao, cap, rfl⟩ := row_shape h
  refine ⟨ao, cap, rfl, fun k hk => ?_⟩
  rcases h.2 with ⟨_, h0⟩ | ⟨g, cap', cur, he, _⟩
  · omega
  · injection he with e1 e2 e3
    subst e1
    refine ⟨g, 0, rfl, ?_⟩
    have := World.ownsRow.cells h (g := g) rfl k (.string (str (ps[k]'hk))) (by simp [strs, hk])
    have e : (⟨g, 0, none⟩ : Addr).add k = ⟨g, 0 + k, none⟩ := by unfold Addr.add; split <;> simp_all
    rwa [e] at this
theorem strAt_below {w w' : World} {B : Nat} {v : Value} {ps : List (List UInt8)} (h : StrAt w v ps) (hb : Below B w w') (hB : w.heap.size ≤ B) : StrAt w' v ps := by
  obtain ⟨ao, cap, rfl, hc⟩ := h
  refine ⟨ao, cap, rfl, fun k hk => ?_⟩
  obtain ⟨b, o, e, hcell⟩ := hc k hk
  have hlt := World.block_lt_of_cell? w _ hcell
  exact ⟨b, o, e, (hb.cell (p := ⟨b, o + k, none⟩) (Nat.lt_of_lt_of_le hlt hB)).trans hcell⟩
theorem str_eqv (l : List UInt8) : ((str l).toList == (str l).toList) = true := beq_self_eq_true _
set_option maxHeartbeats 2000000 in
theorem refSame (u v : Value) (ps : List (List UInt8)) (w : World) (hl : ps.length ≤ 1048576) (hu : StrAt w u ps) (hv : StrAt w v ps) :
    Calls Tryd.prog 16 #[u, v] w fun E w' => E = .returned (.bool true) ∧ w.grownBy w' none := by
  obtain ⟨ao, cap, rfl, hc⟩ := hu
  obtain ⟨ao', cap', rfl, hc'⟩ := hv
  have HC := Lib.hid hc
  have HC' := Lib.hid hc'
  clear hc hc'
  go_enter Tryd.func16, Tryd.ntmps16
  go_wp2
  go_loopw [5] (fun i wr => ∃ k : Nat, k ≤ ps.length ∧ i = .int .i64 k ∧ w.grownBy wr none) (fun i _ => ps.length - (intOf i).toNat)
  case atStart => exact ⟨0, Nat.zero_le _, rfl, grown_refl _ _⟩
  case round =>
    obtain ⟨k, hk, rfl, hg⟩ := hrel
    have HG := Lib.hid hg
    by_cases hlt : k < ps.length
    · obtain ⟨b, o, rfl, hcell⟩ := HC.out k hlt
      obtain ⟨b', o', rfl, hcell'⟩ := HC'.out k hlt
      have hlt1 := World.block_lt_of_cell? w _ hcell
      have hlt2 := World.block_lt_of_cell? w _ hcell'
      have hc1 := ((below_of_grown hg).cell (p := ⟨b, o + k, none⟩) hlt1).trans hcell
      have hc2 := ((below_of_grown hg).cell (p := ⟨b', o' + k, none⟩) hlt2).trans hcell'
      have hq := str_eqv (ps[k]'hlt)
      clear hcell hcell' hlt1 hlt2 hg
      generalize ps[k]'hlt = p at *
      go_wp2
      go_quiet (fail)
      go_wp2
      go_roundw
      case rel => exact ⟨k + 1, by omega, by go_num, HG.out.trans (grown_drewN _ _)⟩
      case measure => simp [intOf]; omega
    · have hx : k = ps.length := by omega
      subst hx
      clear hg
      go_wp2
      go_ret
      exact ⟨rfl, HG.out⟩
end Go.Proofs.YtgbieihobcindaaDoor
