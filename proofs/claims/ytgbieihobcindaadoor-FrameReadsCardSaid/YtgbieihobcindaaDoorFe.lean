/- The statement FrameBack (the stage's theorem): the Go function returns true. Conditions: the table of four steps lies in its variable. -/
import Derived.Test.YtgbieihobcindaaDoorFc
namespace Go.Proofs.YtgbieihobcindaaDoor
open Go.RowKit
set_option linter.unusedVariables false

theorem info_int : (Tryd.prog.info? 3).map (fun i => (i.zero, i.size, i.bytes)) = some (some (.int .i64 0), 1, 8) := by kernel_rfl
def ints (zs : List Nat) : List Value := zs.map (fun n : Nat => Value.int .i64 n)
def Ints (w : World) (B : Nat) (v : Value) (zs : List Nat) : Prop := w.ownsRow B 3 1 v zs.length (ints zs)
/-- A list of numbers that the call has made. -/
def IRow (w : World) (B : Nat) (v : Value) (zs : List Nat) (wr : World) : Prop :=
  ∃ ao cap, v = .slice ao zs.length cap ∧ Ints wr B v zs ∧ Below B w wr ∧ B ≤ wr.heap.size
theorem irow_push {w wr W w1 : World} {B g' cap cap' : Nat} {ao : Option Addr} {zs : List Nat} {z : Nat} (hb : Below B w wr) (hB : B ≤ W.heap.size) (hW : Below B wr W)
    (hown : wr.ownsRow B 3 1 (.slice ao zs.length cap) zs.length (ints zs)) (hgr : W.grownBy w1 (Value.slice ao zs.length cap).ownBlock)
    (hown1 : w1.ownsRow B 3 1 (.slice (some ⟨g', 0, none⟩) (zs.length + 1) cap') (zs.length + 1) (ints zs ++ [.int .i64 z])) :
    IRow w B (.slice (some ⟨g', 0, none⟩) (zs.length + 1) cap') (zs ++ [z]) w1 := by
  refine ⟨some ⟨g', 0, none⟩, cap', by simp, ?_, (hb.trans hW).grown hgr hB (fun k e => (hown.lt k e).1), Nat.le_trans hB hgr.size⟩
  have e : ints (zs ++ [z]) = ints zs ++ [.int .i64 z] := by simp [ints]
  unfold Ints
  rw [e, List.length_append]; exact hown1
def ends (ps : List (List UInt8)) (k : Nat) : List Nat := (List.range k).map (fun i => (cat (ps.take (i + 1))).length)
theorem ends_len (ps : List (List UInt8)) (k : Nat) : (ends ps k).length = k := by simp [ends]
theorem ends_snoc (ps : List (List UInt8)) (k : Nat) : ends ps (k + 1) = ends ps k ++ [(cat (ps.take (k + 1))).length] := by simp [ends, List.range_succ]
theorem ends_get (ps : List (List UInt8)) (k i : Nat) (h : i < k) : (ends ps k)[i]? = some (cat (ps.take (i + 1))).length := by simp [ends, h]
theorem ints_at {w : World} {B : Nat} {v : Value} {zs : List Nat} (h : Ints w B v zs) (i z : Nat) (hz : zs[i]? = some z) :
    ∃ g cap, v = .slice (some ⟨g, 0, none⟩) zs.length cap ∧ w.cell? ⟨g, i, none⟩ = some (.int .i64 z) := by
  have hi : i < zs.length := (List.getElem?_eq_some_iff.1 hz).1
  rcases h.2 with ⟨_, h0⟩ | ⟨g, cap, _, rfl, _⟩
  · omega
  · refine ⟨g, cap, rfl, ?_⟩
    have e : (⟨g, 0, none⟩ : Addr).add i = ⟨g, i, none⟩ := by unfold Addr.add; split <;> simp_all
    have := World.ownsRow.cells h (g := g) rfl i (.int .i64 z) (by simp [ints, hz])
    rwa [e] at this
/-- The rounds of FrameBack's loops, at their heads. -/
def BackRel (w : World) (ps : List (List UInt8)) (s v i : Value) (wr : World) : Prop :=
  ∃ k : Nat, k ≤ ps.length ∧ i = .int .i64 k ∧ s = .string (str (cat (ps.take k))) ∧ IRow w w.heap.size v (ends ps k) wr
def CutRel (ps : List (List UInt8)) (k : Nat) (n to : Value) : Prop :=
  ∃ i : Nat, i ≤ ps.length ∧ n = .int .i64 i ∧ to = .int .i64 (cat (ps.take i)).length ∧ (cat (ps.take i)).length ≤ k
theorem take_len_le (ps : List (List UInt8)) (h : Few ps) (i : Nat) : (cat (ps.take i)).length ≤ 12120 := by
  have h1 := cat_len (ps.take i) (fun p hp => h.2 p (List.mem_of_mem_take hp))
  have h2 : (ps.take i).length ≤ 20 := by rw [List.length_take]; have := h.1; omega
  omega
set_option maxHeartbeats 4000000 in
theorem lawBack (ps : List (List UInt8)) (c : Nat) (w : World) (a : Option Addr) (len cap : Nat) (h : SArg w w.heap.size a len ps) (hc : c < 65536) (ht : Tab w) :
    Calls Tryd.prog 6 #[.slice a len cap, .int .u16 c] w (Yes w) := by
  have HT := Lib.hid ht
  have H := Lib.hid h
  obtain ⟨hlen, hmax, _⟩ := h
  subst hlen
  unfold maxLen at hmax
  clear ht
  go_enter Tryd.func6, Tryd.ntmps6
  go_wp2_with fail
  refine (fewL ps _ _ a _ cap H.out).mono ?_
  rintro E w1 ⟨⟨b, rfl, hb⟩, rfl⟩
  cases b
  · go_wp2_with fail
    refine (worksL _ HT.out).mono ?_
    rintro E w1 ⟨rfl, hg1⟩
    go_wp2
    go_ret
    exact yes_of hg1
  · have HF := Lib.hid (hb rfl)
    have h20 := HF.out.1
    clear hb
    go_wp2
    go_loopw [5, 6, 7] (fun s v i wr => BackRel w ps s v i wr) (fun _ _ i _ => ps.length - (intOf i).toNat)
    case atStart => exact ⟨0, by omega, rfl, rfl, none, 0, rfl, World.ownsRow_nil _ _ _ _, Below.refl _ _, Nat.le_refl _⟩
    case round =>
      obtain ⟨k, hk, rfl, rfl, ao, cp, rfl, hown, hbel, hB⟩ := hrel
      have HO := Lib.hid hown
      have HB := Lib.hid hbel
      have HA := Lib.hid (sarg_below H.out hbel)
      have HTR := Lib.hid (tab_below HT.out hbel)
      clear hown hbel
      have htl := take_len_le ps HF.out k
      have hsz := str_size (cat (ps.take k))
      by_cases hlt : k < ps.length
      · obtain ⟨b, o, rfl, hbB, hl, hcell⟩ := HA.out.2.2 k hlt
        have hp6 := HF.out.2 (ps[k]'hlt) (List.getElem_mem _)
        have HSN := Lib.hid (cat_snoc ps k hlt)
        have hap := str_append (cat (ps.take k)) (frm (ps[k]'hlt))
        have hfl := frm_len (ps[k]'hlt)
        have hps : putS (ps[k]'hlt) = frm (ps[k]'hlt) := by rw [putS, if_pos (by omega)]
        have hsf := str_size (frm (ps[k]'hlt))
        rw [hfl] at hsf
        have htl2 := take_len_le ps HF.out (k + 1)
        have hsn := str_size (cat (ps.take k) ++ frm (ps[k]'hlt))
        rw [← HSN.out] at hsn hap
        have HPS := Lib.hid hps
        have HML := Lib.hid hl
        clear hps hfl hl
        generalize hpk : ps[k]'hlt = p at *
        clear hpk
        go_wp2_with fail
        refine (putL p _ HML.out HTR.out).mono ?_
        rintro E w1 ⟨rfl, hg1⟩
        rw [HPS.out]
        have hown := World.ownsRow.kept (row := none) HO.out hg1 (Classical.em _)
        have HB1 := Lib.hid (below_on HB.out hg1 hB)
        have hs1 := Nat.le_trans hB hg1.size
        have hel := ends_len ps k
        have HES := Lib.hid (ends_snoc ps k)
        have HEL := Lib.hid hel
        clear hel
        generalize ends ps k = zs at *
        obtain ⟨i0, hi0, hz0, hz1, hz2⟩ := info_parts info_int
        have HI0 := Lib.hid hi0
        have HZ0 := Lib.hid hz0
        have HZ1 := Lib.hid hz1
        have HZ2 := Lib.hid hz2
        clear hi0 hz0 hz1 hz2
        have hb1 : zs.length + 1 ≤ maxLen := by have := HEL.out; simp only [maxLen]; omega
        have hb2 : (zs.length + 1) * 8 ≤ 140737488355328 := by have := HEL.out; omega
        go_wp2_with (at_builtin; refine wpList_append_lies _ rfl (.tmp 35) (.tmp 38) 43 rfl w.heap.size 3 i0 (.int .i64 0) 1 8 Tryd.underlying43 HI0.out HZ0.out HZ1.out HZ2.out rfl (by decide) _ _ _ (by simp [Act.eval]) (World.ownsRow.alloc hown _) ⟨w1.heap.size, 0, none⟩ 1 1 [_] (by simp [Act.eval]) rfl (cell_one_new _ _ _) (by simp [Value.oneCell']) (by decide) hb1 hb2 (by simp; omega) _ rfl ?_; intro g' cap' w2 hown1 hgr hat2 hlt1)
        have HG := Lib.hid hgr
        clear hgr hat2
        go_wp2
        go_roundw
        case rel =>
          refine ⟨k + 1, by omega, by go_num, rfl, ?_⟩
          rw [HES.out]
          exact irow_push HB1.out (by simp; omega) ((Below.refl _ w1).alloc hs1 _) hown HG.out hown1
        case measure => simp [intOf]; omega
      · have hx : k = ps.length := by omega
        subst hx
        rw [List.take_length] at hsz htl
        rw [List.take_length]
        have hS := cat_len ps HF.out.2
        have HAC := Lib.hid (all_cut ps HF.out.2)
        have HAW := Lib.hid (all_whole ps HF.out.2)
        have HK := Lib.hid (show c % ((cat ps).length + 1) ≤ (cat ps).length from by have := Nat.mod_lt c (show 0 < (cat ps).length + 1 by omega); omega)
        have hmod : (c : Int) % ((cat ps).length + 1 : Int) = ((c % ((cat ps).length + 1) : Nat) : Int) := by rw [Int.natCast_emod]; rfl
        have hcut := str_cut (cat ps) (c % ((cat ps).length + 1))
        have hkl := HK.out
        generalize c % ((cat ps).length + 1) = q at *
        have HTL : Hid (((cat ps).take q).length ≤ 1048576) := by show _ ≤ _; rw [List.length_take]; omega
        have HWL : Hid ((cat ps).length ≤ 1048576) := by show _ ≤ _; omega
        go_wp2_with fail
        refine (all_c ((cat ps).take q) _ HTL.out HTR.out).mono ?_
        rintro E w1 ⟨gv, rfl, hgv, hg1⟩
        generalize hr : all ((cat ps).take q) = r at *
        have HR := Lib.hid hr
        clear hr
        obtain ⟨ao2, cap2, rfl⟩ := row_shape hgv
        have HGV := Lib.hid (strAt_of hgv)
        clear hgv
        have HT1 := Lib.hid (tab_below HTR.out hg1)
        have HB1 := Lib.hid (HB.out.trans (hg1.mono hB))
        have HA1 := Lib.hid (sarg_below HA.out (hg1.mono hB))
        have HO1 : Hid (Ints w1 w.heap.size (.slice ao (ends ps ps.length).length cp) (ends ps ps.length)) := World.ownsRow.kept (row := none) HO.out (grown_of_below hg1) (Classical.em _)
        have HSZ := Lib.hid (Nat.le_trans hB hg1.size)
        have HEL := Lib.hid (ends_len ps ps.length)
        rw [HEL.out]
        rw [HEL.out] at HO1
        clear hg1
        have HTLE := Lib.hid (take_len_le ps HF.out)
        go_wp2
        go_loop [12, 13] (fun n t => CutRel ps q n t) (fun n _ => ps.length - (intOf n).toNat)
        case atStart => exact ⟨0, by omega, rfl, rfl, by simp [cat]⟩
        case round =>
          obtain ⟨i, hi, rfl, rfl, htq⟩ := hrel
          have hx : (i < ps.length ∧ (cat (ps.take (i + 1))).length ≤ q) ∨ ((i = ps.length ∨ (i < ps.length ∧ q < (cat (ps.take (i + 1))).length)) ∧
              r = ⟨ps.take i, (cat (ps.take i)).length, if (cat (ps.take i)).length = q then 0 else 10⟩) := by
            rcases Nat.lt_or_ge i ps.length with h1 | h1
            · rcases Nat.lt_or_ge q (cat (ps.take (i + 1))).length with h2 | h2
              · exact .inr ⟨.inr ⟨h1, h2⟩, HR.out.symm.trans (HAC.out i q hi HK.out htq (.inr h2))⟩
              · exact .inl ⟨h1, h2⟩
            · have : i = ps.length := by omega
              exact .inr ⟨.inl this, HR.out.symm.trans (HAC.out i q hi HK.out htq (.inl this))⟩
          have ht1 := HTLE.out i
          have ht2 := HTLE.out (i + 1)
          rcases hx with ⟨h1, h2⟩ | ⟨hx, rfl⟩
          · obtain ⟨g, cap3, he, hcell⟩ := ints_at HO1.out i _ (ends_get ps _ i h1)
            injection he with e1 e2 e3
            subst e1
            clear e2 e3
            go_wp2
            go_round
            case rel => exact ⟨i + 1, by omega, by go_num, rfl, h2⟩
            case measure => simp [intOf]; omega
          · have hti : (ps.take i).length = i := by rw [List.length_take]; omega
            have HTI := Lib.hid hti
            have htt : ((cat (ps.take i)).length = q) ∨ (((cat (ps.take i)).length : Int) == (q : Int)) = false ∧ (cat (ps.take i)).length ≠ q := by
              by_cases h : (cat (ps.take i)).length = q
              · exact .inl h
              · exact .inr ⟨beq_eq_false_iff_ne.2 (by omega), h⟩
            have hx3 : i = ps.length ∨ ∃ g e, ao = some ⟨g, 0, none⟩ ∧ i < ps.length ∧ w1.cell? ⟨g, i, none⟩ = some (.int .i64 ((e : Nat) : Int)) ∧ q < e := by
              rcases hx with h1 | ⟨h1, h2⟩
              · exact .inl h1
              · obtain ⟨g, cap3, he, hcell⟩ := ints_at HO1.out i _ (ends_get ps _ i h1)
                injection he with e1 e2 e3
                exact .inr ⟨g, _, e1, h1, hcell, h2⟩
            have HCL : Hid (∀ m (h : m < i) (h2 : m < ps.length), ∃ b o, ao2 = some ⟨b, o, none⟩ ∧ w1.cell? ⟨b, o + m, none⟩ = some (.string (str (ps[m]'h2)))) := fun m h h2 => by
              obtain ⟨_, _, he, hcells⟩ := HGV.out
              injection he with e1 e2 e3
              subst e1
              obtain ⟨b, o, e4, e5⟩ := hcells m (by show m < (ps.take i).length; rw [hti]; exact h)
              refine ⟨b, o, e4, ?_⟩
              rw [e5]
              show some (Value.string (str ((ps.take i)[m]))) = _
              rw [List.getElem_take]
            generalize (cat (ps.take i)).length = tl at *
            clear hx hti ht1 ht2
            rcases htt with rfl | ⟨hb, hne⟩
            all_goals
              rcases hx3 with h1 | ⟨g, e, rfl, h1, hcell, h2⟩
              all_goals
                have HI1 : Hid (i ≤ ps.length) := by show _ ≤ _; omega
                have hti := HTI.out
                go_wp2
                go_loopw [14] (fun j wr => ∃ m : Nat, m ≤ i ∧ j = .int .i64 m ∧ w1.grownBy wr none) (fun j _ => i - (intOf j).toNat)
                case atStart => exact ⟨0, Nat.zero_le _, rfl, grown_refl _ _⟩
                case round =>
                  obtain ⟨m, hm, rfl, hg⟩ := hrel
                  have HG := Lib.hid hg
                  clear hg
                  by_cases hlt : m < i
                  · have hmp : m < ps.length := by have := HI1.out; omega
                    obtain ⟨b, o, rfl, hc1⟩ := HCL.out m hlt hmp
                    obtain ⟨b', o', rfl, _, _, hc2⟩ := HA1.out.2.2 m hmp
                    have hd1 := ((below_of_grown HG.out).cell (p := ⟨b, o + m, none⟩) (World.block_lt_of_cell? w1 _ hc1)).trans hc1
                    have hd2 := ((below_of_grown HG.out).cell (p := ⟨b', o' + m, none⟩) (World.block_lt_of_cell? w1 _ hc2)).trans hc2
                    have hq := str_eqv (ps[m]'hmp)
                    clear hc1 hc2
                    generalize ps[m]'hmp = p at *
                    go_wp2
                    go_quiet (fail)
                    go_wp2
                    go_roundw
                    case rel => exact ⟨m + 1, by omega, by go_num, HG.out.trans (grown_drewN _ _)⟩
                    case measure => simp [intOf]; omega
                  · have hx : m = i := by omega
                    subst hx
                    have HT2 := Lib.hid (tab_grown HT1.out HG.out)
                    have HB2 := Lib.hid (below_on HB1.out HG.out HSZ.out)
                    have HS2 := Lib.hid (Nat.le_trans HSZ.out HG.out.size)
                    go_wp2_with fail
                    refine (all_c (cat ps) _ HWL.out HT2.out).mono ?_
                    rintro E w2 ⟨gv2, rfl, hgv2, hg2⟩
                    rw [HAW.out] at hgv2 ⊢
                    obtain ⟨ao3, cap3, rfl⟩ := row_shape hgv2
                    have HT3 := Lib.hid (tab_below HT2.out hg2)
                    have HB3 := Lib.hid (HB2.out.trans (hg2.mono HS2.out))
                    have HS3 := Lib.hid (Nat.le_trans HS2.out hg2.size)
                    clear hgv2 hg2
                    go_wp2_with fail
                    refine (worksL _ HT3.out).mono ?_
                    rintro E w3 ⟨rfl, hg3⟩
                    have HB4 := Lib.hid (below_on HB3.out hg3 HS3.out)
                    clear hg3
                    go_wp2
                    go_ret
                    exact ⟨rfl, HB4.out⟩
end Go.Proofs.YtgbieihobcindaaDoor
