/- The document's disk: Rename. -/
import Derived.Test.YthjhjbiihhpnfaaGreatEf
namespace Go.Proofs.YthjhjbiihhpnfaaGreat
open Go.RowKit Go.Shelf Go.Deep
set_option linter.unusedVariables false
set_option linter.unusedSimpArgs false
set_option maxRecDepth 100000

section
variable {S : Nat → Prop} {w : World} {g q cap : Nat} {ao : Option Addr} {E : List Ent}
theorem del_twice (n : List UInt8) (E : List Ent) : delK Ent.nm n (delK Ent.nm n E) = delK Ent.nm n E := by unfold delK; rw [List.filter_filter]; simp
theorem ins_back (hs : Srt Ent.nm E) {j : Nat} (hj : j < E.length) {n : List UInt8} (hn : (E[j]'hj).nm = n) : insK Ent.nm ⟨n, (E[j]'hj).bs, (E[j]'hj).su⟩ (delK Ent.nm n (delK Ent.nm n E)) = E := by
  have hp := List.pairwise_iff_getElem.1 hs
  rw [del_twice, del_cut hs hj hn, insK_at _ _ _ (fun y hy => ?_) (fun y hy => ?_)]
  · have e : (⟨n, (E[j]'hj).bs, (E[j]'hj).su⟩ : Ent) = E[j]'hj := by rw [← hn]
    rw [e, List.getElem_cons_drop, List.take_append_drop]
  · obtain ⟨i, hi, rfl⟩ := List.getElem_of_mem hy
    rw [List.length_take] at hi
    have := hp i j (by omega) hj (by omega)
    rw [hn] at this
    rw [List.getElem_take]
    exact this
  · obtain ⟨i, hi, rfl⟩ := List.getElem_of_mem hy
    rw [List.length_drop] at hi
    have := hp j (j + 1 + i) hj (by omega) (by omega)
    rw [hn] at this
    rw [List.getElem_drop]
    exact this
theorem eRename_rd (E : List Ent) (a b : List UInt8) : eRename E a b = if isNm a && isNm b then (match fnd a E with | some _ => 0 | none => 5) else 2 := rfl
theorem aRename_rd (E : List Ent) (a b : List UInt8) : aRename E a b = if isNm a && isNm b then (match fnd a E with | some f => insK Ent.nm ⟨b, f.bs, f.su⟩ (delK Ent.nm b (delK Ent.nm a E)) | none => E) else E := rfl
set_option maxHeartbeats 2000000 in
theorem rrename_c (h : RkC S w g q ao cap E) (hS : ∀ x, w.heap.size ≤ x → S x) (a b : List UInt8) (ha : a.length ≤ maxLen) (hb : b.length ≤ maxLen) :
    Calls Tryz.prog 50 #[.pointer (some ⟨g, 0, none⟩), .string (str a), .string (str b)] w fun R w' => R = .returned (.int .i64 (eRename E a b)) ∧ RkS S w' (.pointer (some ⟨g, 0, none⟩)) q (aRename E a b) ∧ Tu S w w' := by
  have hra := rname_c a w ha
  have hrb := rname_c b w hb
  have HAt := Lib.hid (at_c h a)
  have HK := Lib.hid h
  have HG := Lib.hid (good_rename h.good a b)
  have HSS := Lib.hid hS
  have HE := Lib.hid (eRename_rd E a b)
  have HA := Lib.hid (aRename_rd E a b)
  clear h hS
  by_cases hqa : isNm a = true
  rotate_left
  · have hqa : isNm a = false := by simpa using hqa
    have H2 := Lib.hid (show eRename E a b = 2 ∧ aRename E a b = E from ⟨by rw [HE.out, hqa]; rfl, by rw [HA.out, hqa]; rfl⟩)
    rw [hqa] at hra
    clear hqa
    go_enter Tryz.func50, Tryz.ntmps50
    go_wp2_with fail
    refine hra.mono ?_
    rintro R w1 ⟨rfl, rfl⟩
    go_wp2
    go_ret
    exact ⟨by rw [H2.out.1]; rfl, ⟨_, _, _, rfl, by rw [H2.out.2]; exact HK.out⟩, Tu.refl _ _⟩
  by_cases hqb : isNm b = true
  rotate_left
  · have hqb : isNm b = false := by simpa using hqb
    have H2 := Lib.hid (show eRename E a b = 2 ∧ aRename E a b = E from ⟨by rw [HE.out, hqa, hqb]; rfl, by rw [HA.out, hqa, hqb]; rfl⟩)
    rw [hqa] at hra
    rw [hqb] at hrb
    clear hqa hqb
    go_enter Tryz.func50, Tryz.ntmps50
    go_wp2_with fail
    refine hra.mono ?_
    rintro R w1 ⟨rfl, rfl⟩
    go_wp2_with fail
    refine hrb.mono ?_
    rintro R w1 ⟨rfl, rfl⟩
    go_wp2
    go_ret
    exact ⟨by rw [H2.out.1]; rfl, ⟨_, _, _, rfl, by rw [H2.out.2]; exact HK.out⟩, Tu.refl _ _⟩
  rw [hqa] at hra
  rw [hqb] at hrb
  have HQ := Lib.hid (show (isNm a && isNm b) = true by rw [hqa, hqb]; rfl)
  clear hqa hqb
  go_enter Tryz.func50, Tryz.ntmps50
  go_wp2_with fail
  refine hra.mono ?_
  rintro R w1 ⟨rfl, rfl⟩
  go_wp2_with fail
  refine hrb.mono ?_
  rintro R w1 ⟨rfl, rfl⟩
  go_wp2_with fail
  refine HAt.out.mono ?_
  rintro R w1 ⟨rfl, ⟨hf, rfl⟩ | ⟨j, hj, hjn, _, hf, rfl⟩⟩
  · have H2 := Lib.hid (show eRename E a b = 5 ∧ aRename E a b = E from ⟨by rw [HE.out, HQ.out, hf]; rfl, by rw [HA.out, HQ.out, hf]; rfl⟩)
    clear hf
    go_wp2
    go_ret
    exact ⟨by rw [H2.out.1]; rfl, ⟨_, _, _, rfl, by rw [H2.out.2]; exact HK.out⟩, Tu.refl _ _⟩
  have H1 := Lib.hid (show eRename E a b = 0 ∧ aRename E a b = insK Ent.nm ⟨b, (E[j]'hj).bs, (E[j]'hj).su⟩ (delK Ent.nm b (delK Ent.nm a E)) from ⟨by rw [HE.out, HQ.out, hf]; rfl, by rw [HA.out, HQ.out, hf]; rfl⟩)
  have i1 : ¬ (j : Int) < 0 := by omega
  by_cases hab : a = b
  · subst hab
    have q1 := str_yes2 a
    have H2 := Lib.hid (show aRename E a a = E by rw [H1.out.2]; exact ins_back HK.out.good.srt hj hjn)
    clear hf hjn
    go_wp2
    go_ret
    exact ⟨by rw [H1.out.1]; rfl, ⟨_, _, _, rfl, by rw [H2.out]; exact HK.out⟩, Tu.refl _ _⟩
  have q1 := str_no2 hab
  obtain ⟨gr, rfl, d0, d1, d2⟩ := HK.out.row.at hj
  have c1 := HK.out.c1
  have i2 : (j : Int) < (E.length : Int) := by omega
  have hdl := del_cut HK.out.good.srt hj hjn
  have HDL := Lib.hid hdl
  generalize (E[j]'hj).bs = fb at *
  generalize (E[j]'hj).su = fs at *
  rw [hjn] at d0
  have hal := below_alloc w (.cells #[.string (str a), .string (str fb), .int .i64 (fs : Int)] 96)
  have HAL := Lib.hid hal
  have HCB := Lib.hid (Cells.made w 96 #[.string (str a), .string (str fb), .int .i64 (fs : Int)])
  have HKB : Hid (RkC (fun x => S x ∧ x ≠ w.heap.size) (w.alloc (.cells #[.string (str a), .string (str fb), .int .i64 (fs : Int)] 96)) g q (some ⟨gr, 0, none⟩) cap E) :=
    ⟨(HK.out.new hal).blk, (HK.out.new hal).row, ⟨HK.out.sg, by have := HK.out.blk.lt; omega⟩, fun x hx => ⟨HK.out.sr x hx, by have := (HK.out.row.lt x hx).2; omega⟩, HK.out.good⟩
  have HSB : Hid (∀ x, (w.alloc (.cells #[.string (str a), .string (str fb), .int .i64 (fs : Int)] 96)).heap.size ≤ x → S x ∧ x ≠ w.heap.size) := fun x hx => by
    rw [World.size_alloc] at hx
    exact ⟨HSS.out x (by omega), by omega⟩
  clear hf hjn hal
  go_upto_region 11 with fail
  generalize w.alloc (.cells #[.string (str a), .string (str fb), .int .i64 (fs : Int)] 96) = wb at *
  have hP := drop_c HKB.out HSB.out hj (by rw [← hdl]; exact good_del HK.out.good a)
  rw [← hdl] at hP
  have HP := Lib.hid hP
  clear hP hdl d0 d1 d2 c1
  go_wp2_with fail
  refine HP.out.mono ?_
  rintro R w2 ⟨rfl, h2, ht2⟩
  obtain ⟨ao2, cap2, hr2⟩ := h2.of
  have HR2 := Lib.hid hr2
  have HT2 := Lib.hid ht2
  clear h2 ht2 hr2 HP
  go_wp2_with fail
  refine (at_c HR2.out b).mono ?_
  rintro R w3 ⟨rfl, ⟨hf2, rfl⟩ | ⟨k, hk, hkn, _, hf2, rfl⟩⟩
  · have HR3 := HR2
    have HT3 := HT2
    rw [← delK_none hf2] at HR3
    clear HR2 HT2 hf2
    generalize hw3 : w2 = w3 at *
    have HBC := HCB.out.tu HT3.out (fun h => h.2 rfl)
    have hfz := HBC.frozen 0
    have b0 : w3.cell? ⟨w.heap.size, 0, none⟩ = some (.string (str a)) := by rw [HBC.cell]; rfl
    have hc4 := HBC.set 0 (.string (str b))
    have hk4 := HR3.out.tu (Tu.grown (grown_set w3 w.heap.size 0 (.string (str b)))) (fun x _ hx e => hx.2 (by simpa using e))
    have hs4 : wb.heap.size ≤ (w3.setCell ⟨w.heap.size, 0, none⟩ (.string (str b))).heap.size := by have := HT3.out.size; simp [World.setCell]; omega
    have HP4 := Lib.hid (put2_c ⟨b, fb, fs⟩ hk4 (fun x hx => HSB.out x (Nat.le_trans hs4 hx)) (fun y hy => (delK_mem.1 hy).2) (by have := HG.out; rw [H1.out.2] at this; exact this))
    have b1 : (w3.setCell ⟨w.heap.size, 0, none⟩ (.string (str b))).cell? ⟨w.heap.size, 0, none⟩ = some (.string (str b)) := by rw [hc4.cell]; rfl
    have b2 : (w3.setCell ⟨w.heap.size, 0, none⟩ (.string (str b))).cell? ⟨w.heap.size, 1, none⟩ = some (.string (str fb)) := by rw [hc4.cell]; rfl
    have b3 : (w3.setCell ⟨w.heap.size, 0, none⟩ (.string (str b))).cell? ⟨w.heap.size, 2, none⟩ = some (.int .i64 (fs : Int)) := by rw [hc4.cell]; rfl
    have HT4 : Hid (Tu S w (w3.setCell ⟨w.heap.size, 0, none⟩ (.string (str b)))) := ((Tu.new (S := S) HAL.out).trans HT3.out (fun _ _ h => h.1)).trans (Tu.grown (grown_set w3 w.heap.size 0 (.string (str b)))) (fun x hx e => absurd (show x = w.heap.size by simpa using e) (by omega))
    clear hk4 hs4 hc4 HBC
    go_upto_region 16 with fail
    clear b0 hfz
    generalize w3.setCell ⟨w.heap.size, 0, none⟩ (.string (str b)) = w4 at *
    go_wp2_with fail
    refine HP4.out.mono ?_
    rintro R w5 ⟨rfl, h5, ht5⟩
    have HR5 := Lib.hid h5
    have HT5 := Lib.hid ht5
    clear h5 ht5
    go_wp2
    go_ret
    exact ⟨by rw [H1.out.1]; rfl, by rw [H1.out.2]; exact HR5.out.mono (fun _ _ h => h.1), HT4.out.trans HT5.out (fun _ _ h => h.1)⟩
  · have i3 : (0 : Int) ≤ (k : Int) := by omega
    have hd2 := del_cut HR2.out.good.srt hk hkn
    have hP := drop_c HR2.out (fun x hx => HSB.out x (Nat.le_trans HT2.out.size hx)) hk (by rw [← hd2]; exact good_del HR2.out.good b)
    rw [← hd2] at hP
    have HP := Lib.hid hP
    clear hP hd2 hkn hf2
    go_wp2_with fail
    refine HP.out.mono ?_
    rintro R w3 ⟨rfl, h3, ht3⟩
    obtain ⟨ao3, cap3, hr3⟩ := h3.of
    have HR3 := Lib.hid hr3
    have HT3 := Lib.hid (HT2.out.trans ht3 (fun _ _ h => h))
    clear h3 ht3 hr3 HP HR2 HT2
    have HBC := HCB.out.tu HT3.out (fun h => h.2 rfl)
    have hfz := HBC.frozen 0
    have b0 : w3.cell? ⟨w.heap.size, 0, none⟩ = some (.string (str a)) := by rw [HBC.cell]; rfl
    have hc4 := HBC.set 0 (.string (str b))
    have hk4 := HR3.out.tu (Tu.grown (grown_set w3 w.heap.size 0 (.string (str b)))) (fun x _ hx e => hx.2 (by simpa using e))
    have hs4 : wb.heap.size ≤ (w3.setCell ⟨w.heap.size, 0, none⟩ (.string (str b))).heap.size := by have := HT3.out.size; simp [World.setCell]; omega
    have HP4 := Lib.hid (put2_c ⟨b, fb, fs⟩ hk4 (fun x hx => HSB.out x (Nat.le_trans hs4 hx)) (fun y hy => (delK_mem.1 hy).2) (by have := HG.out; rw [H1.out.2] at this; exact this))
    have b1 : (w3.setCell ⟨w.heap.size, 0, none⟩ (.string (str b))).cell? ⟨w.heap.size, 0, none⟩ = some (.string (str b)) := by rw [hc4.cell]; rfl
    have b2 : (w3.setCell ⟨w.heap.size, 0, none⟩ (.string (str b))).cell? ⟨w.heap.size, 1, none⟩ = some (.string (str fb)) := by rw [hc4.cell]; rfl
    have b3 : (w3.setCell ⟨w.heap.size, 0, none⟩ (.string (str b))).cell? ⟨w.heap.size, 2, none⟩ = some (.int .i64 (fs : Int)) := by rw [hc4.cell]; rfl
    have HT4 : Hid (Tu S w (w3.setCell ⟨w.heap.size, 0, none⟩ (.string (str b)))) := ((Tu.new (S := S) HAL.out).trans HT3.out (fun _ _ h => h.1)).trans (Tu.grown (grown_set w3 w.heap.size 0 (.string (str b)))) (fun x hx e => absurd (show x = w.heap.size by simpa using e) (by omega))
    clear hk4 hs4 hc4 HBC
    go_upto_region 16 with fail
    clear b0 hfz
    generalize w3.setCell ⟨w.heap.size, 0, none⟩ (.string (str b)) = w4 at *
    go_wp2_with fail
    refine HP4.out.mono ?_
    rintro R w5 ⟨rfl, h5, ht5⟩
    have HR5 := Lib.hid h5
    have HT5 := Lib.hid ht5
    clear h5 ht5
    go_wp2
    go_ret
    exact ⟨by rw [H1.out.1]; rfl, by rw [H1.out.2]; exact HR5.out.mono (fun _ _ h => h.1), HT4.out.trans HT5.out (fun _ _ h => h.1)⟩
end
end Go.Proofs.YthjhjbiihhpnfaaGreat
