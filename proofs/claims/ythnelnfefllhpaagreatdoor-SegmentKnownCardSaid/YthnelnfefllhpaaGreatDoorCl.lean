/- The statement SegmentKnown (closed): the Go function returns true. Conditions: the table of four steps lies in its variable. -/
import Derived.Test.YthnelnfefllhpaaGreatDoorCm
import Derived.Deep.DeepCutAuto
namespace Go.Proofs.YthnelnfefllhpaaGreatDoor
open Go.RowKit
set_option linter.unusedVariables false
set_option linter.unusedSimpArgs false
set_option maxRecDepth 20000

theorem mn : Mays [] := fun r h => by cases h
theorem mc {r : Rc} {l : List Rc} (h : r.fit ∧ mayB r = true) (hl : Mays l) : Mays (r :: l) := fun x hx => by
  rcases List.mem_cons.1 hx with rfl | hx
  · exact h
  · exact hl x hx
theorem hlen (l : List Rc) (h : l.length ≤ 30) : (bys l).length ≤ 1048576 := by have := bys_len l; omega
theorem hlen2 (l : List Rc) (s : List UInt8) (h : l.length ≤ 30) (hs : s.length ≤ 3000) : (bys l ++ s).length ≤ 1048576 := by have := bys_len l; rw [List.length_append]; omega
theorem hlen3 (l : List Rc) (h : l.length ≤ 30) : (bys l).length ≤ 3000 := by have := bys_len l; omega
attribute [local go_sem ↓] ld_rec st_rec bs_m bs_m2 bs_m3
attribute [local go_sem] bs_rec bs_two bs_three
set_option maxHeartbeats 16000000 in
theorem law_known (w : World) (ht : Tab w) : Calls Tryz.prog 4 #[] w fun E w' => E = .returned (.bool true) ∧ Below w.heap.size w w' := by
  have HT := Lib.hid ht
  clear ht
  have e0 : (((rcs (rH 1 5)).toList.drop 0).take 9).toArray = rcs (rH 1 5) := by simp [rcs]
  have E0 := Lib.hid e0
  clear e0
  go_enter Tryz.func4, Tryz.ntmps4
  go_wp2_with fail
  refine (head_c 1 5 _).mono ?_
  rintro E w1 ⟨rfl, hb1⟩
  obtain ⟨g, w2, z2, s2, h2, q2⟩ := (Loc.nil (B := w.heap.size) (w := w) (Nat.le_refl _)).to hb1 |>.newA ty_rec #[.int .i64 0, .int .u64 0, .int .u8 0, .int .u8 0, .int .u8 0, .int .u64 0, .int .u64 0, .int .u64 0, .int .u8 0] (rcs (rH 1 5)) rfl rfl (List.all_eq_true.2 (rcs_one _))
  have HL2 : Hid (Loc w.heap.size w w2 [(g, 43, rcs (rH 1 5))]) := h2
  clear hb1 h2 q2
  go_upto_region 2 with fail
  clear s2 z2
  go_cut [82] (fun v wx => v = .bool false ∧ Hid (Below w.heap.size w wx ∧ Cells wx g 43 (rcs (rH 1 5))))
  case first => as_aux_lemma =>
    have a1 := fun W (hW : Cells W g 43 (rcs (rH 1 5))) => run_ldA (n := 9) ty_rec hW 0 (Nat.le_of_ble_eq_true rfl)
    simp only [E0.out] at a1
    have hx9 : str (bys [rH 1 5]) ++ ⟨#[120]⟩ = str (bys [rH 1 5] ++ [120]) := str_append (bys [rH 1 5]) [120]
    have hsz9 : (str (bys [rH 1 5])).size = 32 := by rw [str_size, bys_one, byR_H]
    have HBs := Lib.hid HL2.out.be.drew
    have os := (HL2.out.get 0 rfl).drew
    refine wp_region_till (S := fun W => Cells W g 43 (rcs (rH 1 5))) (by kernel_rfl) ?_
    refine wpTill_run (i := 0) (by kernel_rfl) rfl os (fun K hK => ?_)
    go_simp
    go_at_call 5
    refine (works_c _ (tab_b HT.out HT.out.1 HBs.out)).mono ?_
    rintro E wq0 ⟨rfl, hb⟩
    have oq0 := os.below hb os.lt
    have HBq0 := Lib.hid (HBs.out.trans (hb.mono HBs.out.size))
    clear hb
    refine hK _ _ ?_
    clear hK K
    refine wpTill_take (i := 1) (v := ?vq1) rfl (by kernel_rfl) (fun _ _ _ h => h) (Or.inl ⟨by rfl, ?hyq1⟩) oq0 ?restq1
    case hyq1 => (intro W hW; (try dsimp only at hW); go_simp; try with_reducible rfl)
    simp only [Act.put, List.setIfInBounds_toArray, List.set_cons_zero, List.set_cons_succ, List.getElem_toArray, List.getElem_cons_succ, List.getElem_cons_zero]
    refine wpTill_take (i := 2) (v := ?vq2) rfl (by kernel_rfl) (fun _ _ _ h => h) (Or.inl ⟨by rfl, ?hyq2⟩) oq0 ?restq2
    case hyq2 => (intro W hW; (try dsimp only at hW); go_simp; try with_reducible rfl)
    simp only [Act.put, List.setIfInBounds_toArray, List.set_cons_zero, List.set_cons_succ, List.getElem_toArray, List.getElem_cons_succ, List.getElem_cons_zero]
    refine wpTill_run (i := 3) (by kernel_rfl) rfl oq0 (fun K hK => ?_)
    go_simp
    go_at_call 19
    refine (own_c 5 7 _).mono ?_
    rintro E wq3 ⟨rfl, hb⟩
    have oq3 := oq0.below hb oq0.lt
    have HBq3 := Lib.hid (HBq0.out.trans (hb.mono HBq0.out.size))
    clear hb
    refine hK _ _ ?_
    clear hK K
    refine wpTill_run (i := 4) (by kernel_rfl) rfl oq3 (fun K hK => ?_)
    go_simp
    have hb := below_alloc wq3 (.cells (rcs (rO 5 7)) 43)
    have HRq4 := Lib.hid (rcsAt_block (l := [rO 5 7]) (Cells.made wq3 43 (rcs (rO 5 7))) (by simp [Rall]))
    have oq4 := oq3.below hb oq3.lt
    have HBq4 := Lib.hid (HBq3.out.trans (hb.mono HBq3.out.size))
    clear hb
    refine hK _ _ ?_
    clear hK K
    refine wpTill_run (i := 5) (by kernel_rfl) rfl oq4 (fun K hK => ?_)
    go_simp
    go_at_call 18
    refine (lput_c [rO 5 7] _ 1 _ HRq4.out (mc (o_ok (by decide) (by decide)) mn) (by decide) (tab_b HT.out HT.out.1 HBq4.out)).mono ?_
    rintro E wq5 ⟨rfl, hb⟩
    have oq5 := oq4.below hb oq4.lt
    have HBq5 := Lib.hid (HBq4.out.trans (hb.mono HBq4.out.size))
    clear hb
    refine hK _ _ ?_
    clear hK K
    refine wpTill_run (i := 6) (by kernel_rfl) rfl oq5 (fun K hK => ?_)
    go_simp
    go_at_call 17
    refine (is_no (bys [rO 5 7]) 11 _ (hlen _ (by decide)) k1 (tab_b HT.out HT.out.1 HBq5.out)).mono ?_
    rintro E wq6 ⟨rfl, hb⟩
    have oq6 := oq5.below hb oq5.lt
    have HBq6 := Lib.hid (HBq5.out.trans (hb.mono HBq5.out.size))
    clear hb
    refine hK _ _ ?_
    clear hK K
    refine wpTill_take (i := 7) (v := ?vq7) rfl (by kernel_rfl) (fun _ _ _ h => h) (Or.inl ⟨by rfl, ?hyq7⟩) oq6 ?restq7
    case hyq7 => (intro W hW; (try dsimp only at hW); go_simp; try with_reducible rfl)
    simp only [Act.put, List.setIfInBounds_toArray, List.set_cons_zero, List.set_cons_succ, List.getElem_toArray, List.getElem_cons_succ, List.getElem_cons_zero]
    refine wpTill_take (i := 8) (v := ?vq8) rfl (by kernel_rfl) (fun _ _ _ h => h) (Or.inl ⟨by rfl, ?hyq8⟩) oq6 ?restq8
    case hyq8 => (intro W hW; (try dsimp only at hW); go_simp; try with_reducible rfl)
    simp only [Act.put, List.setIfInBounds_toArray, List.set_cons_zero, List.set_cons_succ, List.getElem_toArray, List.getElem_cons_succ, List.getElem_cons_zero]
    refine wpTill_take (i := 9) (v := ?vq9) rfl (by kernel_rfl) (fun _ _ _ h => h) (Or.inl ⟨by rfl, ?hyq9⟩) oq6 ?restq9
    case hyq9 => (intro W hW; (try dsimp only at hW); go_simp; try with_reducible rfl)
    simp only [Act.put, List.setIfInBounds_toArray, List.set_cons_zero, List.set_cons_succ, List.getElem_toArray, List.getElem_cons_succ, List.getElem_cons_zero]
    refine wpTill_run (i := 10) (by kernel_rfl) rfl oq6 (fun K hK => ?_)
    go_simp
    go_at_call 16
    refine (head_c 2 5 _).mono ?_
    rintro E wq10 ⟨rfl, hb⟩
    have oq10 := oq6.below hb oq6.lt
    have HBq10 := Lib.hid (HBq6.out.trans (hb.mono HBq6.out.size))
    clear hb
    refine hK _ _ ?_
    clear hK K
    refine wpTill_run (i := 11) (by kernel_rfl) rfl oq10 (fun K hK => ?_)
    go_simp
    have hb := below_alloc wq10 (.cells (rcs (rH 2 5)) 43)
    have HRq11 := Lib.hid (rcsAt_block (l := [rH 2 5]) (Cells.made wq10 43 (rcs (rH 2 5))) (by simp [Rall]))
    have oq11 := oq10.below hb oq10.lt
    have HBq11 := Lib.hid (HBq10.out.trans (hb.mono HBq10.out.size))
    clear hb
    refine hK _ _ ?_
    clear hK K
    refine wpTill_run (i := 12) (by kernel_rfl) rfl oq11 (fun K hK => ?_)
    go_simp
    go_at_call 18
    refine (lput_c [rH 2 5] _ 1 _ HRq11.out (mc (rH_ok (by decide) (by decide)) mn) (by decide) (tab_b HT.out HT.out.1 HBq11.out)).mono ?_
    rintro E wq12 ⟨rfl, hb⟩
    have oq12 := oq11.below hb oq11.lt
    have HBq12 := Lib.hid (HBq11.out.trans (hb.mono HBq11.out.size))
    clear hb
    refine hK _ _ ?_
    clear hK K
    refine wpTill_run (i := 13) (by kernel_rfl) rfl oq12 (fun K hK => ?_)
    go_simp
    go_at_call 17
    refine (is_no (bys [rH 2 5]) 11 _ (hlen _ (by decide)) k2 (tab_b HT.out HT.out.1 HBq12.out)).mono ?_
    rintro E wq13 ⟨rfl, hb⟩
    have oq13 := oq12.below hb oq12.lt
    have HBq13 := Lib.hid (HBq12.out.trans (hb.mono HBq12.out.size))
    clear hb
    refine hK _ _ ?_
    clear hK K
    refine wpTill_take (i := 14) (v := ?vq14) rfl (by kernel_rfl) (fun _ _ _ h => h) (Or.inl ⟨by rfl, ?hyq14⟩) oq13 ?restq14
    case hyq14 => (intro W hW; (try dsimp only at hW); go_simp; try with_reducible rfl)
    simp only [Act.put, List.setIfInBounds_toArray, List.set_cons_zero, List.set_cons_succ, List.getElem_toArray, List.getElem_cons_succ, List.getElem_cons_zero]
    refine wpTill_take (i := 15) (v := ?vq15) rfl (by kernel_rfl) (fun _ _ _ h => h) (Or.inl ⟨by rfl, ?hyq15⟩) oq13 ?restq15
    case hyq15 => (intro W hW; (try dsimp only at hW); go_simp; try with_reducible rfl)
    simp only [Act.put, List.setIfInBounds_toArray, List.set_cons_zero, List.set_cons_succ, List.getElem_toArray, List.getElem_cons_succ, List.getElem_cons_zero]
    refine wpTill_take (i := 16) (v := ?vq16) rfl (by kernel_rfl) (fun _ _ _ h => h) (Or.inl ⟨by rfl, ?hyq16⟩) oq13 ?restq16
    case hyq16 => (intro W hW; (try dsimp only at hW); go_simp; try with_reducible rfl)
    simp only [Act.put, List.setIfInBounds_toArray, List.set_cons_zero, List.set_cons_succ, List.getElem_toArray, List.getElem_cons_succ, List.getElem_cons_zero]
    refine wpTill_take (i := 17) (v := ?vq17) rfl (by kernel_rfl) (fun _ _ _ h => h) (Or.inl ⟨by rfl, ?hyq17⟩) oq13 ?restq17
    case hyq17 => (intro W hW; (try dsimp only at hW); go_simp; try with_reducible rfl)
    simp only [Act.put, List.setIfInBounds_toArray, List.set_cons_zero, List.set_cons_succ, List.getElem_toArray, List.getElem_cons_succ, List.getElem_cons_zero]
    refine wpTill_take (i := 18) (v := ?vq18) rfl (by kernel_rfl) (fun _ _ _ h => h) (Or.inl ⟨by rfl, ?hyq18⟩) oq13 ?restq18
    case hyq18 => (intro W hW; (try dsimp only at hW); go_simp; try with_reducible rfl)
    simp only [Act.put, List.setIfInBounds_toArray, List.set_cons_zero, List.set_cons_succ, List.getElem_toArray, List.getElem_cons_succ, List.getElem_cons_zero]
    refine wpTill_run (i := 19) (by kernel_rfl) rfl oq13 (fun K hK => ?_)
    go_simp
    have hb := below_alloc wq13 (.cells (Rall [rH 1 5, rH 1 5]).toArray 43)
    have HRq19 := Lib.hid (rcsAt_block (l := [rH 1 5, rH 1 5]) (Cells.made wq13 43 (Rall [rH 1 5, rH 1 5]).toArray) rfl)
    have oq19 := oq13.below hb oq13.lt
    have HBq19 := Lib.hid (HBq13.out.trans (hb.mono HBq13.out.size))
    clear hb
    refine hK _ _ ?_
    clear hK K
    refine wpTill_run (i := 20) (by kernel_rfl) rfl oq19 (fun K hK => ?_)
    go_simp
    go_at_call 18
    refine (lput_c [rH 1 5, rH 1 5] _ 2 _ HRq19.out (mc h15_ok (mc h15_ok mn)) (by decide) (tab_b HT.out HT.out.1 HBq19.out)).mono ?_
    rintro E wq20 ⟨rfl, hb⟩
    have oq20 := oq19.below hb oq19.lt
    have HBq20 := Lib.hid (HBq19.out.trans (hb.mono HBq19.out.size))
    clear hb
    refine hK _ _ ?_
    clear hK K
    refine wpTill_run (i := 21) (by kernel_rfl) rfl oq20 (fun K hK => ?_)
    go_simp
    go_at_call 17
    refine (is_yes (bys [rH 1 5, rH 1 5]) 0 11 _ (hlen _ (by decide)) (by decide) k3 (tab_b HT.out HT.out.1 HBq20.out)).mono ?_
    rintro E wq21 ⟨rfl, hb⟩
    have oq21 := oq20.below hb oq20.lt
    have HBq21 := Lib.hid (HBq20.out.trans (hb.mono HBq20.out.size))
    clear hb
    refine hK _ _ ?_
    clear hK K
    refine wpTill_take (i := 22) (v := ?vq22) rfl (by kernel_rfl) (fun _ _ _ h => h) (Or.inl ⟨by rfl, ?hyq22⟩) oq21 ?restq22
    case hyq22 => (intro W hW; (try dsimp only at hW); go_simp; try with_reducible rfl)
    simp only [Act.put, List.setIfInBounds_toArray, List.set_cons_zero, List.set_cons_succ, List.getElem_toArray, List.getElem_cons_succ, List.getElem_cons_zero]
    refine wpTill_take (i := 23) (v := ?vq23) rfl (by kernel_rfl) (fun _ _ _ h => h) (Or.inl ⟨by rfl, ?hyq23⟩) oq21 ?restq23
    case hyq23 => (intro W hW; (try dsimp only at hW); go_simp; try with_reducible rfl)
    simp only [Act.put, List.setIfInBounds_toArray, List.set_cons_zero, List.set_cons_succ, List.getElem_toArray, List.getElem_cons_succ, List.getElem_cons_zero]
    refine wpTill_take (i := 24) (v := ?vq24) rfl (by kernel_rfl) (fun _ _ _ h => h) (Or.inl ⟨by rfl, ?hyq24⟩) oq21 ?restq24
    case hyq24 => (intro W hW; (try dsimp only at hW); go_simp; try with_reducible rfl)
    simp only [Act.put, List.setIfInBounds_toArray, List.set_cons_zero, List.set_cons_succ, List.getElem_toArray, List.getElem_cons_succ, List.getElem_cons_zero]
    refine wpTill_take (i := 25) (v := ?vq25) rfl (by kernel_rfl) (fun _ _ _ h => h) (Or.inl ⟨by rfl, ?hyq25⟩) oq21 ?restq25
    case hyq25 => (intro W hW; (try dsimp only at hW); go_simp; try with_reducible rfl)
    simp only [Act.put, List.setIfInBounds_toArray, List.set_cons_zero, List.set_cons_succ, List.getElem_toArray, List.getElem_cons_succ, List.getElem_cons_zero]
    refine wpTill_run (i := 26) (by kernel_rfl) rfl oq21 (fun K hK => ?_)
    go_simp
    go_at_call 20
    refine (sure_c 5 7 9 _).mono ?_
    rintro E wq26 ⟨rfl, hb⟩
    have oq26 := oq21.below hb oq21.lt
    have HBq26 := Lib.hid (HBq21.out.trans (hb.mono HBq21.out.size))
    clear hb
    refine hK _ _ ?_
    clear hK K
    refine wpTill_run (i := 27) (by kernel_rfl) rfl oq26 (fun K hK => ?_)
    go_simp
    have hb := below_alloc wq26 (.cells (Rall [rH 1 5, rS 5 7 9]).toArray 43)
    have HRq27 := Lib.hid (rcsAt_block (l := [rH 1 5, rS 5 7 9]) (Cells.made wq26 43 (Rall [rH 1 5, rS 5 7 9]).toArray) rfl)
    have oq27 := oq26.below hb oq26.lt
    have HBq27 := Lib.hid (HBq26.out.trans (hb.mono HBq26.out.size))
    clear hb
    refine hK _ _ ?_
    clear hK K
    refine wpTill_run (i := 28) (by kernel_rfl) rfl oq27 (fun K hK => ?_)
    go_simp
    go_at_call 18
    refine (lput_c [rH 1 5, rS 5 7 9] _ 2 _ HRq27.out (mc h15_ok (mc (s_ok (by decide) (by decide) (by decide)) mn)) (by decide) (tab_b HT.out HT.out.1 HBq27.out)).mono ?_
    rintro E wq28 ⟨rfl, hb⟩
    have oq28 := oq27.below hb oq27.lt
    have HBq28 := Lib.hid (HBq27.out.trans (hb.mono HBq27.out.size))
    clear hb
    refine hK _ _ ?_
    clear hK K
    refine wpTill_run (i := 29) (by kernel_rfl) rfl oq28 (fun K hK => ?_)
    go_simp
    go_at_call 17
    refine (is_yes (bys [rH 1 5, rS 5 7 9]) 0 11 _ (hlen _ (by decide)) (by decide) k4 (tab_b HT.out HT.out.1 HBq28.out)).mono ?_
    rintro E wq29 ⟨rfl, hb⟩
    have oq29 := oq28.below hb oq28.lt
    have HBq29 := Lib.hid (HBq28.out.trans (hb.mono HBq28.out.size))
    clear hb
    refine hK _ _ ?_
    clear hK K
    refine wpTill_take (i := 30) (v := ?vq30) rfl (by kernel_rfl) (fun _ _ _ h => h) (Or.inl ⟨by rfl, ?hyq30⟩) oq29 ?restq30
    case hyq30 => (intro W hW; (try dsimp only at hW); go_simp; try with_reducible rfl)
    simp only [Act.put, List.setIfInBounds_toArray, List.set_cons_zero, List.set_cons_succ, List.getElem_toArray, List.getElem_cons_succ, List.getElem_cons_zero]
    refine wpTill_take (i := 31) (v := ?vq31) rfl (by kernel_rfl) (fun _ _ _ h => h) (Or.inl ⟨by rfl, ?hyq31⟩) oq29 ?restq31
    case hyq31 => (intro W hW; (try dsimp only at hW); go_simp; try with_reducible rfl)
    simp only [Act.put, List.setIfInBounds_toArray, List.set_cons_zero, List.set_cons_succ, List.getElem_toArray, List.getElem_cons_succ, List.getElem_cons_zero]
    refine wpTill_take (i := 32) (v := ?vq32) rfl (by kernel_rfl) (fun _ _ _ h => h) (Or.inl ⟨by rfl, ?hyq32⟩) oq29 ?restq32
    case hyq32 => (intro W hW; (try dsimp only at hW); go_simp; try with_reducible rfl)
    simp only [Act.put, List.setIfInBounds_toArray, List.set_cons_zero, List.set_cons_succ, List.getElem_toArray, List.getElem_cons_succ, List.getElem_cons_zero]
    refine wpTill_take (i := 33) (v := ?vq33) rfl (by kernel_rfl) (fun _ _ _ h => h) (Or.inl ⟨by rfl, ?hyq33⟩) oq29 ?restq33
    case hyq33 => (intro W hW; (try dsimp only at hW); go_simp; try with_reducible rfl)
    simp only [Act.put, List.setIfInBounds_toArray, List.set_cons_zero, List.set_cons_succ, List.getElem_toArray, List.getElem_cons_succ, List.getElem_cons_zero]
    refine wpTill_run (i := 34) (by kernel_rfl) rfl oq29 (fun K hK => ?_)
    go_simp
    go_at_call 19
    refine (own_c 6 7 _).mono ?_
    rintro E wq34 ⟨rfl, hb⟩
    have oq34 := oq29.below hb oq29.lt
    have HBq34 := Lib.hid (HBq29.out.trans (hb.mono HBq29.out.size))
    clear hb
    refine hK _ _ ?_
    clear hK K
    refine wpTill_run (i := 35) (by kernel_rfl) rfl oq34 (fun K hK => ?_)
    go_simp
    have hb := below_alloc wq34 (.cells (Rall [rH 1 5, rO 6 7]).toArray 43)
    have HRq35 := Lib.hid (rcsAt_block (l := [rH 1 5, rO 6 7]) (Cells.made wq34 43 (Rall [rH 1 5, rO 6 7]).toArray) rfl)
    have oq35 := oq34.below hb oq34.lt
    have HBq35 := Lib.hid (HBq34.out.trans (hb.mono HBq34.out.size))
    clear hb
    refine hK _ _ ?_
    clear hK K
    refine wpTill_run (i := 36) (by kernel_rfl) rfl oq35 (fun K hK => ?_)
    go_simp
    go_at_call 18
    refine (lput_c [rH 1 5, rO 6 7] _ 2 _ HRq35.out (mc h15_ok (mc (o_ok (by decide) (by decide)) mn)) (by decide) (tab_b HT.out HT.out.1 HBq35.out)).mono ?_
    rintro E wq36 ⟨rfl, hb⟩
    have oq36 := oq35.below hb oq35.lt
    have HBq36 := Lib.hid (HBq35.out.trans (hb.mono HBq35.out.size))
    clear hb
    refine hK _ _ ?_
    clear hK K
    refine wpTill_run (i := 37) (by kernel_rfl) rfl oq36 (fun K hK => ?_)
    go_simp
    go_at_call 17
    refine (is_yes (bys [rH 1 5, rO 6 7]) 0 11 _ (hlen _ (by decide)) (by decide) k5 (tab_b HT.out HT.out.1 HBq36.out)).mono ?_
    rintro E wq37 ⟨rfl, hb⟩
    have oq37 := oq36.below hb oq36.lt
    have HBq37 := Lib.hid (HBq36.out.trans (hb.mono HBq36.out.size))
    clear hb
    refine hK _ _ ?_
    clear hK K
    refine wpTill_take (i := 38) (v := ?vq38) rfl (by kernel_rfl) (fun _ _ _ h => h) (Or.inl ⟨by rfl, ?hyq38⟩) oq37 ?restq38
    case hyq38 => (intro W hW; (try dsimp only at hW); go_simp; try with_reducible rfl)
    simp only [Act.put, List.setIfInBounds_toArray, List.set_cons_zero, List.set_cons_succ, List.getElem_toArray, List.getElem_cons_succ, List.getElem_cons_zero]
    refine wpTill_take (i := 39) (v := ?vq39) rfl (by kernel_rfl) (fun _ _ _ h => h) (Or.inl ⟨by rfl, ?hyq39⟩) oq37 ?restq39
    case hyq39 => (intro W hW; (try dsimp only at hW); go_simp; try with_reducible rfl)
    simp only [Act.put, List.setIfInBounds_toArray, List.set_cons_zero, List.set_cons_succ, List.getElem_toArray, List.getElem_cons_succ, List.getElem_cons_zero]
    refine wpTill_take (i := 40) (v := ?vq40) rfl (by kernel_rfl) (fun _ _ _ h => h) (Or.inl ⟨by rfl, ?hyq40⟩) oq37 ?restq40
    case hyq40 => (intro W hW; (try dsimp only at hW); go_simp; try with_reducible rfl)
    simp only [Act.put, List.setIfInBounds_toArray, List.set_cons_zero, List.set_cons_succ, List.getElem_toArray, List.getElem_cons_succ, List.getElem_cons_zero]
    refine wpTill_take (i := 41) (v := ?vq41) rfl (by kernel_rfl) (fun _ _ _ h => h) (Or.inl ⟨by rfl, ?hyq41⟩) oq37 ?restq41
    case hyq41 => (intro W hW; (try dsimp only at hW); go_simp; try with_reducible rfl)
    simp only [Act.put, List.setIfInBounds_toArray, List.set_cons_zero, List.set_cons_succ, List.getElem_toArray, List.getElem_cons_succ, List.getElem_cons_zero]
    refine wpTill_run (i := 42) (by kernel_rfl) rfl oq37 (fun K hK => ?_)
    go_simp
    go_at_call 19
    refine (own_c 5 7 _).mono ?_
    rintro E wq42 ⟨rfl, hb⟩
    have oq42 := oq37.below hb oq37.lt
    have HBq42 := Lib.hid (HBq37.out.trans (hb.mono HBq37.out.size))
    clear hb
    refine hK _ _ ?_
    clear hK K
    refine wpTill_run (i := 43) (by kernel_rfl) rfl oq42 (fun K hK => ?_)
    go_simp
    go_at_call 19
    refine (own_c 5 7 _).mono ?_
    rintro E wq43 ⟨rfl, hb⟩
    have oq43 := oq42.below hb oq42.lt
    have HBq43 := Lib.hid (HBq42.out.trans (hb.mono HBq42.out.size))
    clear hb
    refine hK _ _ ?_
    clear hK K
    refine wpTill_run (i := 44) (by kernel_rfl) rfl oq43 (fun K hK => ?_)
    go_simp
    have hb := below_alloc wq43 (.cells (Rall [rH 1 5, rO 5 7, rO 5 7]).toArray 43)
    have HRq44 := Lib.hid (rcsAt_block (l := [rH 1 5, rO 5 7, rO 5 7]) (Cells.made wq43 43 (Rall [rH 1 5, rO 5 7, rO 5 7]).toArray) rfl)
    have oq44 := oq43.below hb oq43.lt
    have HBq44 := Lib.hid (HBq43.out.trans (hb.mono HBq43.out.size))
    clear hb
    refine hK _ _ ?_
    clear hK K
    refine wpTill_run (i := 45) (by kernel_rfl) rfl oq44 (fun K hK => ?_)
    go_simp
    go_at_call 18
    refine (lput_c [rH 1 5, rO 5 7, rO 5 7] _ 3 _ HRq44.out (mc h15_ok (mc (o_ok (by decide) (by decide)) (mc (o_ok (by decide) (by decide)) mn))) (by decide) (tab_b HT.out HT.out.1 HBq44.out)).mono ?_
    rintro E wq45 ⟨rfl, hb⟩
    have oq45 := oq44.below hb oq44.lt
    have HBq45 := Lib.hid (HBq44.out.trans (hb.mono HBq44.out.size))
    clear hb
    refine hK _ _ ?_
    clear hK K
    refine wpTill_run (i := 46) (by kernel_rfl) rfl oq45 (fun K hK => ?_)
    go_simp
    go_at_call 17
    refine (is_yes (bys [rH 1 5, rO 5 7, rO 5 7]) 1 11 _ (hlen _ (by decide)) (by decide) k6 (tab_b HT.out HT.out.1 HBq45.out)).mono ?_
    rintro E wq46 ⟨rfl, hb⟩
    have oq46 := oq45.below hb oq45.lt
    have HBq46 := Lib.hid (HBq45.out.trans (hb.mono HBq45.out.size))
    clear hb
    refine hK _ _ ?_
    clear hK K
    refine wpTill_take (i := 47) (v := ?vq47) rfl (by kernel_rfl) (fun _ _ _ h => h) (Or.inl ⟨by rfl, ?hyq47⟩) oq46 ?restq47
    case hyq47 => (intro W hW; (try dsimp only at hW); go_simp; try with_reducible rfl)
    simp only [Act.put, List.setIfInBounds_toArray, List.set_cons_zero, List.set_cons_succ, List.getElem_toArray, List.getElem_cons_succ, List.getElem_cons_zero]
    refine wpTill_take (i := 48) (v := ?vq48) rfl (by kernel_rfl) (fun _ _ _ h => h) (Or.inl ⟨by rfl, ?hyq48⟩) oq46 ?restq48
    case hyq48 => (intro W hW; (try dsimp only at hW); go_simp; try with_reducible rfl)
    simp only [Act.put, List.setIfInBounds_toArray, List.set_cons_zero, List.set_cons_succ, List.getElem_toArray, List.getElem_cons_succ, List.getElem_cons_zero]
    refine wpTill_take (i := 49) (v := ?vq49) rfl (by kernel_rfl) (fun _ _ _ h => h) (Or.inl ⟨by rfl, ?hyq49⟩) oq46 ?restq49
    case hyq49 => (intro W hW; (try dsimp only at hW); go_simp; try with_reducible rfl)
    simp only [Act.put, List.setIfInBounds_toArray, List.set_cons_zero, List.set_cons_succ, List.getElem_toArray, List.getElem_cons_succ, List.getElem_cons_zero]
    refine wpTill_take (i := 50) (v := ?vq50) rfl (by kernel_rfl) (fun _ _ _ h => h) (Or.inl ⟨by rfl, ?hyq50⟩) oq46 ?restq50
    case hyq50 => (intro W hW; (try dsimp only at hW); go_simp; try with_reducible rfl)
    simp only [Act.put, List.setIfInBounds_toArray, List.set_cons_zero, List.set_cons_succ, List.getElem_toArray, List.getElem_cons_succ, List.getElem_cons_zero]
    refine wpTill_run (i := 51) (by kernel_rfl) rfl oq46 (fun K hK => ?_)
    go_simp
    go_at_call 19
    refine (own_c 5 7 _).mono ?_
    rintro E wq51 ⟨rfl, hb⟩
    have oq51 := oq46.below hb oq46.lt
    have HBq51 := Lib.hid (HBq46.out.trans (hb.mono HBq46.out.size))
    clear hb
    refine hK _ _ ?_
    clear hK K
    refine wpTill_run (i := 52) (by kernel_rfl) rfl oq51 (fun K hK => ?_)
    go_simp
    go_at_call 20
    refine (sure_c 5 8 9 _).mono ?_
    rintro E wq52 ⟨rfl, hb⟩
    have oq52 := oq51.below hb oq51.lt
    have HBq52 := Lib.hid (HBq51.out.trans (hb.mono HBq51.out.size))
    clear hb
    refine hK _ _ ?_
    clear hK K
    refine wpTill_run (i := 53) (by kernel_rfl) rfl oq52 (fun K hK => ?_)
    go_simp
    have hb := below_alloc wq52 (.cells (Rall [rH 1 5, rO 5 7, rS 5 8 9]).toArray 43)
    have HRq53 := Lib.hid (rcsAt_block (l := [rH 1 5, rO 5 7, rS 5 8 9]) (Cells.made wq52 43 (Rall [rH 1 5, rO 5 7, rS 5 8 9]).toArray) rfl)
    have oq53 := oq52.below hb oq52.lt
    have HBq53 := Lib.hid (HBq52.out.trans (hb.mono HBq52.out.size))
    clear hb
    refine hK _ _ ?_
    clear hK K
    refine wpTill_run (i := 54) (by kernel_rfl) rfl oq53 (fun K hK => ?_)
    go_simp
    go_at_call 18
    refine (lput_c [rH 1 5, rO 5 7, rS 5 8 9] _ 3 _ HRq53.out (mc h15_ok (mc (o_ok (by decide) (by decide)) (mc (s_ok (by decide) (by decide) (by decide)) mn))) (by decide) (tab_b HT.out HT.out.1 HBq53.out)).mono ?_
    rintro E wq54 ⟨rfl, hb⟩
    have oq54 := oq53.below hb oq53.lt
    have HBq54 := Lib.hid (HBq53.out.trans (hb.mono HBq53.out.size))
    clear hb
    refine hK _ _ ?_
    clear hK K
    refine wpTill_run (i := 55) (by kernel_rfl) rfl oq54 (fun K hK => ?_)
    go_simp
    go_at_call 17
    refine (is_yes (bys [rH 1 5, rO 5 7, rS 5 8 9]) 1 14 _ (hlen _ (by decide)) (by decide) k7 (tab_b HT.out HT.out.1 HBq54.out)).mono ?_
    rintro E wq55 ⟨rfl, hb⟩
    have oq55 := oq54.below hb oq54.lt
    have HBq55 := Lib.hid (HBq54.out.trans (hb.mono HBq54.out.size))
    clear hb
    refine hK _ _ ?_
    clear hK K
    refine wpTill_take (i := 56) (v := ?vq56) rfl (by kernel_rfl) (fun _ _ _ h => h) (Or.inl ⟨by rfl, ?hyq56⟩) oq55 ?restq56
    case hyq56 => (intro W hW; (try dsimp only at hW); go_simp; try with_reducible rfl)
    simp only [Act.put, List.setIfInBounds_toArray, List.set_cons_zero, List.set_cons_succ, List.getElem_toArray, List.getElem_cons_succ, List.getElem_cons_zero]
    refine wpTill_take (i := 57) (v := ?vq57) rfl (by kernel_rfl) (fun _ _ _ h => h) (Or.inl ⟨by rfl, ?hyq57⟩) oq55 ?restq57
    case hyq57 => (intro W hW; (try dsimp only at hW); go_simp; try with_reducible rfl)
    simp only [Act.put, List.setIfInBounds_toArray, List.set_cons_zero, List.set_cons_succ, List.getElem_toArray, List.getElem_cons_succ, List.getElem_cons_zero]
    refine wpTill_take (i := 58) (v := ?vq58) rfl (by kernel_rfl) (fun _ _ _ h => h) (Or.inl ⟨by rfl, ?hyq58⟩) oq55 ?restq58
    case hyq58 => (intro W hW; (try dsimp only at hW); go_simp; try with_reducible rfl)
    simp only [Act.put, List.setIfInBounds_toArray, List.set_cons_zero, List.set_cons_succ, List.getElem_toArray, List.getElem_cons_succ, List.getElem_cons_zero]
    refine wpTill_take (i := 59) (v := ?vq59) rfl (by kernel_rfl) (fun _ _ _ h => h) (Or.inl ⟨by rfl, ?hyq59⟩) oq55 ?restq59
    case hyq59 => (intro W hW; (try dsimp only at hW); go_simp; try with_reducible rfl)
    simp only [Act.put, List.setIfInBounds_toArray, List.set_cons_zero, List.set_cons_succ, List.getElem_toArray, List.getElem_cons_succ, List.getElem_cons_zero]
    refine wpTill_run (i := 60) (by kernel_rfl) rfl oq55 (fun K hK => ?_)
    go_simp
    have hb := below_alloc wq55 (.cells (rcs (rH 1 5)) 43)
    have HRq60 := Lib.hid (rcsAt_block (l := [rH 1 5]) (Cells.made wq55 43 (rcs (rH 1 5))) (by simp [Rall]))
    have oq60 := oq55.below hb oq55.lt
    have HBq60 := Lib.hid (HBq55.out.trans (hb.mono HBq55.out.size))
    clear hb
    refine hK _ _ ?_
    clear hK K
    refine wpTill_run (i := 61) (by kernel_rfl) rfl oq60 (fun K hK => ?_)
    go_simp
    go_at_call 18
    refine (lput_c [rH 1 5] _ 1 _ HRq60.out (mc h15_ok mn) (by decide) (tab_b HT.out HT.out.1 HBq60.out)).mono ?_
    rintro E wq61 ⟨rfl, hb⟩
    have oq61 := oq60.below hb oq60.lt
    have HBq61 := Lib.hid (HBq60.out.trans (hb.mono HBq60.out.size))
    clear hb
    refine hK _ _ ?_
    clear hK K
    refine wpTill_run (i := 62) (by kernel_rfl) rfl oq61 (fun K hK => ?_)
    go_simp
    go_at_call 17
    refine (is_yes (bys [rH 1 5]) 0 0 _ (hlen _ (by decide)) (by decide) k8 (tab_b HT.out HT.out.1 HBq61.out)).mono ?_
    rintro E wq62 ⟨rfl, hb⟩
    have oq62 := oq61.below hb oq61.lt
    have HBq62 := Lib.hid (HBq61.out.trans (hb.mono HBq61.out.size))
    clear hb
    refine hK _ _ ?_
    clear hK K
    refine wpTill_take (i := 63) (v := ?vq63) rfl (by kernel_rfl) (fun _ _ _ h => h) (Or.inl ⟨by rfl, ?hyq63⟩) oq62 ?restq63
    case hyq63 => (intro W hW; (try dsimp only at hW); go_simp; try with_reducible rfl)
    simp only [Act.put, List.setIfInBounds_toArray, List.set_cons_zero, List.set_cons_succ, List.getElem_toArray, List.getElem_cons_succ, List.getElem_cons_zero]
    refine wpTill_take (i := 64) (v := ?vq64) rfl (by kernel_rfl) (fun _ _ _ h => h) (Or.inl ⟨by rfl, ?hyq64⟩) oq62 ?restq64
    case hyq64 => (intro W hW; (try dsimp only at hW); go_simp; try with_reducible rfl)
    simp only [Act.put, List.setIfInBounds_toArray, List.set_cons_zero, List.set_cons_succ, List.getElem_toArray, List.getElem_cons_succ, List.getElem_cons_zero]
    refine wpTill_take (i := 65) (v := ?vq65) rfl (by kernel_rfl) (fun _ _ _ h => h) (Or.inl ⟨by rfl, ?hyq65⟩) oq62 ?restq65
    case hyq65 => (intro W hW; (try dsimp only at hW); go_simp; try with_reducible rfl)
    simp only [Act.put, List.setIfInBounds_toArray, List.set_cons_zero, List.set_cons_succ, List.getElem_toArray, List.getElem_cons_succ, List.getElem_cons_zero]
    refine wpTill_take (i := 66) (v := ?vq66) rfl (by kernel_rfl) (fun _ _ _ h => h) (Or.inl ⟨by rfl, ?hyq66⟩) oq62 ?restq66
    case hyq66 => (intro W hW; (try dsimp only at hW); go_simp; try with_reducible rfl)
    simp only [Act.put, List.setIfInBounds_toArray, List.set_cons_zero, List.set_cons_succ, List.getElem_toArray, List.getElem_cons_succ, List.getElem_cons_zero]
    refine wpTill_run (i := 67) (by kernel_rfl) rfl oq62 (fun K hK => ?_)
    go_simp
    have hb := below_alloc wq62 (.cells (rcs (rH 1 5)) 43)
    have HRq67 := Lib.hid (rcsAt_block (l := [rH 1 5]) (Cells.made wq62 43 (rcs (rH 1 5))) (by simp [Rall]))
    have oq67 := oq62.below hb oq62.lt
    have HBq67 := Lib.hid (HBq62.out.trans (hb.mono HBq62.out.size))
    clear hb
    refine hK _ _ ?_
    clear hK K
    refine wpTill_run (i := 68) (by kernel_rfl) rfl oq67 (fun K hK => ?_)
    go_simp
    go_at_call 18
    refine (lput_c [rH 1 5] _ 1 _ HRq67.out (mc h15_ok mn) (by decide) (tab_b HT.out HT.out.1 HBq67.out)).mono ?_
    rintro E wq68 ⟨rfl, hb⟩
    have oq68 := oq67.below hb oq67.lt
    have HBq68 := Lib.hid (HBq67.out.trans (hb.mono HBq67.out.size))
    clear hb
    refine hK _ _ ?_
    clear hK K
    refine wpTill_take (i := 69) (v := ?vq69) rfl (by kernel_rfl) (fun _ _ _ h => h) (Or.inl ⟨by rfl, ?hyq69⟩) oq68 ?restq69
    case hyq69 => (intro W hW; (try dsimp only at hW); go_simp; try with_reducible rfl)
    simp only [Act.put, List.setIfInBounds_toArray, List.set_cons_zero, List.set_cons_succ, List.getElem_toArray, List.getElem_cons_succ, List.getElem_cons_zero]
    refine wpTill_run (i := 70) (by kernel_rfl) rfl oq68 (fun K hK => ?_)
    go_simp
    go_at_call 17
    refine (is_yes (bys [rH 1 5] ++ [120]) 0 10 _ (hlen2 _ _ (by decide) (by decide)) (by decide) k9 (tab_b HT.out HT.out.1 HBq68.out)).mono ?_
    rintro E wq70 ⟨rfl, hb⟩
    have oq70 := oq68.below hb oq68.lt
    have HBq70 := Lib.hid (HBq68.out.trans (hb.mono HBq68.out.size))
    clear hb
    refine hK _ _ ?_
    clear hK K
    refine wpTill_take (i := 71) (v := ?vq71) rfl (by kernel_rfl) (fun _ _ _ h => h) (Or.inl ⟨by rfl, ?hyq71⟩) oq70 ?restq71
    case hyq71 => (intro W hW; (try dsimp only at hW); go_simp; try with_reducible rfl)
    simp only [Act.put, List.setIfInBounds_toArray, List.set_cons_zero, List.set_cons_succ, List.getElem_toArray, List.getElem_cons_succ, List.getElem_cons_zero]
    refine wpTill_run (i := 72) (by kernel_rfl) rfl oq70 (fun K hK => ?_)
    go_simp
    refine hK _ _ ?_
    clear hK K
    refine wpTill_done (by kernel_rfl) ?_
    go_wp2_with fail
    go_meet
    exact ⟨rfl, HBq70.out, oq70⟩
  case rest =>
    obtain ⟨rfl, hc⟩ := hcut
    have HB4 := Lib.hid hc.out.1
    have O4 := Lib.hid hc.out.2
    clear hc
    generalize wc = w4 at *
    have l4 := run_ldA (n := 9) ty_rec O4.out 0 (Nat.le_of_ble_eq_true rfl)
    rw [E0.out] at l4
    have HR4 := Lib.hid (rcsAt_block (l := [rH 1 5]) (Cells.made w4 43 (rcs (rH 1 5))) (by simp [Rall]))
    have ha4 := below_alloc w4 (.cells (rcs (rH 1 5)) 43)
    have HB5 := Lib.hid (HB4.out.trans (ha4.mono HB4.out.size))
    have O5 := Lib.hid (O4.out.below ha4 O4.out.lt)
    clear ha4
    go_wp2_with fail
    refine (lput_c [rH 1 5] _ 1 _ HR4.out (mc h15_ok mn) (by decide) (tab_b HT.out HT.out.1 HB5.out)).mono ?_
    rintro E w6 ⟨rfl, hb⟩
    have O6 := Lib.hid (O5.out.below hb O5.out.lt)
    have HB6 := Lib.hid (HB5.out.trans (hb.mono HB5.out.size))
    clear hb l4 O4 HB4 O5 HB5 HR4
    go_wp2
    go_loopw [2, 3] (fun s i wr => ∃ k : Nat, k ≤ 12 ∧ i = .int .i64 (k : Int) ∧ s = .string (str (bys (rH 1 5 :: OW k))) ∧ Hid (Below w.heap.size w wr ∧ Cells wr g 43 (rcs (rH 1 5)))) (fun _ i _ => 12 - (intOf i).toNat)
    case atStart => exact ⟨0, by decide, rfl, rfl, HB6.out, O6.out⟩
    case round =>
      obtain ⟨k, hk, rfl, rfl, HI⟩ := hrel
      have HB := Lib.hid HI.out.1
      have O := Lib.hid HI.out.2
      clear HI
      by_cases hlt : k < 12
      · have hzl := hlen3 (rH 1 5 :: OW k) (by rw [List.length_cons, ow_len]; omega)
        have hap := str_append (bys (rH 1 5 :: OW k)) (bys [rO (5 + k) 1])
        have hstep := Lib.hid (ow_bys k)
        have hyl := hlen3 [rO (5 + k) 1] (by simp)
        have HPO := Lib.hid (o_ok (f := 5 + k) (i := 1) (by omega) (by decide))
        have HLT := Lib.hid hlt
        obtain ⟨f, hf⟩ : ∃ f, 5 + k = f := ⟨_, rfl⟩
        rw [hf] at hap hstep hyl HPO
        have hfi : (5 : Int) + (k : Int) = (f : Int) := by omega
        have hfw : IntKind.u64.wrap (f : Int) = (f : Int) := IntWalk.u64_in _ (by omega)
        have hfj : IntKind.i64.wrap (f : Int) = (f : Int) := IntWalk.i64_in _ (by omega)
        have s1 := str_size (bys (rH 1 5 :: OW k))
        have s2 := str_size (bys [rO f 1])
        generalize bys (rH 1 5 :: OW k) = z at *
        have hsum : ¬ (9223372036854775807 < (z.length : Int) + ((bys [rO f 1]).length : Int)) := by omega
        clear hf
        go_wp2_with fail
        refine (own_c f 1 _).mono ?_
        rintro E wa ⟨rfl, hb⟩
        have O1 := Lib.hid (O.out.below hb O.out.lt)
        have HB1 := Lib.hid (HB.out.trans (hb.mono HB.out.size))
        clear hb O HB
        have HR := Lib.hid (rcsAt_block (l := [rO f 1]) (Cells.made wa 43 (rcs (rO f 1))) (by simp [Rall]))
        have hal := below_alloc wa (.cells (rcs (rO f 1)) 43)
        have HB2 := Lib.hid (HB1.out.trans (hal.mono HB1.out.size))
        have O2 := Lib.hid (O1.out.below hal O1.out.lt)
        clear hal O1 HB1
        go_wp2_with fail
        refine (lput_c [rO f 1] _ 1 _ HR.out (mc HPO.out mn) (by simp) (tab_b HT.out HT.out.1 HB2.out)).mono ?_
        rintro E wb ⟨rfl, hb⟩
        have O3 := Lib.hid (O2.out.below hb O2.out.lt)
        have HB3 := Lib.hid (HB2.out.trans (hb.mono HB2.out.size))
        clear hb O2 HB2 HR
        go_wp2
        go_roundw
        case rel => exact ⟨k + 1, HLT.out, by go_num, by rw [hstep.out], HB3.out, O3.out⟩
        case measure => have := HLT.out; simp [intOf]; omega
      · obtain rfl : k = 12 := by omega
        clear HB6 O6 hk hlt
        have hz := hlen3 (rH 1 5 :: OW 12) (by rw [List.length_cons, ow_len]; decide)
        have K10 := Lib.hid k10
        have K11 := Lib.hid k11
        have K12 := Lib.hid k12
        have K13 := Lib.hid k13
        have HSZ := Lib.hid (str_size (bys (rH 1 5 :: OW 12)))
        generalize bys (rH 1 5 :: OW 12) = z at *
        have hps : putS [4] = frm [4] ∧ putE [4] = 0 := ⟨if_pos (by decide), if_pos (by decide)⟩
        have hpl : (putS [4]).length = 7 := by rw [hps.1, frm_len]; rfl
        have HF := Lib.hid (fput_c [4] wr (by decide) (tab_b HT.out HT.out.1 HB.out))
        rw [hps.2] at HF
        clear hps
        have HPL := Lib.hid hpl
        generalize putS [4] = fz at *
        go_wp2_with fail
        refine HF.out.mono ?_
        rintro E wf ⟨rfl, hg⟩
        have hb := below_of_grown hg
        have O1 := Lib.hid (O.out.below hb O.out.lt)
        have HB1 := Lib.hid (HB.out.trans (hb.mono HB.out.size))
        clear hb hg HF O HB
        have ks1 := HSZ.out
        have ks2 := str_size fz
        have hap := str_append z fz
        have hsum : ¬ (9223372036854775807 < (z.length : Int) + (fz.length : Int)) := by omega
        have hsz2 := str_size (bys [rO 17 1])
        have hl2 := hlen3 [rO 17 1] (by decide)
        have hap2 := str_append z (bys [rO 17 1])
        have hsum2 : ¬ (9223372036854775807 < (z.length : Int) + ((bys [rO 17 1]).length : Int)) := by omega
        have hsz3 := str_size (bys [rS 5 1 2, rO 17 1])
        have hl3 := hlen3 [rS 5 1 2, rO 17 1] (by decide)
        have hap3 := str_append z (bys [rS 5 1 2, rO 17 1])
        have hsum3 : ¬ (9223372036854775807 < (z.length : Int) + ((bys [rS 5 1 2, rO 17 1]).length : Int)) := by omega
        have HL10 : Hid (z.length ≤ 1048576) := by show _ ≤ _; omega
        have HL11 : Hid ((z ++ bys [rO 17 1]).length ≤ 1048576) := by show _ ≤ _; rw [List.length_append]; omega
        have HL12 : Hid ((z ++ bys [rS 5 1 2, rO 17 1]).length ≤ 1048576) := by show _ ≤ _; rw [List.length_append]; omega
        have HL13 : Hid ((z ++ fz).length ≤ 1048576) := by show _ ≤ _; rw [List.length_append]; omega
        clear hl2 hl3 hz hpl
        go_wp2_with fail
        refine (is_yes (z) 12 0 _ HL10.out (by decide) K10.out (tab_b HT.out HT.out.1 HB1.out)).mono ?_
        rintro E wp0 ⟨rfl, hb⟩
        have op0 := O1.out.below hb O1.out.lt
        have HBp0 := Lib.hid (HB1.out.trans (hb.mono HB1.out.size))
        clear hb
        go_wp2_with fail
        refine (own_c 17 1 _).mono ?_
        rintro E wp1 ⟨rfl, hb⟩
        have op1 := op0.below hb op0.lt
        have HBp1 := Lib.hid (HBp0.out.trans (hb.mono HBp0.out.size))
        clear hb
        have hb := below_alloc wp1 (.cells (rcs (rO 17 1)) 43)
        have HRp2 := Lib.hid (rcsAt_block (l := [rO 17 1]) (Cells.made wp1 43 (rcs (rO 17 1))) (by simp [Rall]))
        have op2 := op1.below hb op1.lt
        have HBp2 := Lib.hid (HBp1.out.trans (hb.mono HBp1.out.size))
        clear hb
        go_wp2_with fail
        refine (lput_c [rO 17 1] _ 1 _ HRp2.out (mc (o_ok (by decide) (by decide)) mn) (by decide) (tab_b HT.out HT.out.1 HBp2.out)).mono ?_
        rintro E wp3 ⟨rfl, hb⟩
        have op3 := op2.below hb op2.lt
        have HBp3 := Lib.hid (HBp2.out.trans (hb.mono HBp2.out.size))
        clear hb
        go_wp2_with fail
        refine (is_yes (z ++ bys [rO 17 1]) 12 11 _ HL11.out (by decide) K11.out (tab_b HT.out HT.out.1 HBp3.out)).mono ?_
        rintro E wp4 ⟨rfl, hb⟩
        have op4 := op3.below hb op3.lt
        have HBp4 := Lib.hid (HBp3.out.trans (hb.mono HBp3.out.size))
        clear hb
        go_wp2_with fail
        refine (sure_c 5 1 2 _).mono ?_
        rintro E wp5 ⟨rfl, hb⟩
        have op5 := op4.below hb op4.lt
        have HBp5 := Lib.hid (HBp4.out.trans (hb.mono HBp4.out.size))
        clear hb
        go_wp2_with fail
        refine (own_c 17 1 _).mono ?_
        rintro E wp6 ⟨rfl, hb⟩
        have op6 := op5.below hb op5.lt
        have HBp6 := Lib.hid (HBp5.out.trans (hb.mono HBp5.out.size))
        clear hb
        have hb := below_alloc wp6 (.cells (Rall [rS 5 1 2, rO 17 1]).toArray 43)
        have HRp7 := Lib.hid (rcsAt_block (l := [rS 5 1 2, rO 17 1]) (Cells.made wp6 43 (Rall [rS 5 1 2, rO 17 1]).toArray) rfl)
        have op7 := op6.below hb op6.lt
        have HBp7 := Lib.hid (HBp6.out.trans (hb.mono HBp6.out.size))
        clear hb
        go_wp2_with fail
        refine (lput_c [rS 5 1 2, rO 17 1] _ 2 _ HRp7.out (mc (s_ok (by decide) (by decide) (by decide)) (mc (o_ok (by decide) (by decide)) mn)) (by decide) (tab_b HT.out HT.out.1 HBp7.out)).mono ?_
        rintro E wp8 ⟨rfl, hb⟩
        have op8 := op7.below hb op7.lt
        have HBp8 := Lib.hid (HBp7.out.trans (hb.mono HBp7.out.size))
        clear hb
        go_wp2_with fail
        refine (is_yes (z ++ bys [rS 5 1 2, rO 17 1]) 14 0 _ HL12.out (by decide) K12.out (tab_b HT.out HT.out.1 HBp8.out)).mono ?_
        rintro E wp9 ⟨rfl, hb⟩
        have op9 := op8.below hb op8.lt
        have HBp9 := Lib.hid (HBp8.out.trans (hb.mono HBp8.out.size))
        clear hb
        go_wp2_with fail
        refine (is_yes (z ++ fz) 12 4 _ HL13.out (by decide) K13.out (tab_b HT.out HT.out.1 HBp9.out)).mono ?_
        rintro E wp10 ⟨rfl, hb⟩
        have op10 := op9.below hb op9.lt
        have HBp10 := Lib.hid (HBp9.out.trans (hb.mono HBp9.out.size))
        clear hb
        have O2 := Lib.hid op10
        have HB2 := HBp10
        generalize wp10 = wn at *
        go_wp2_with fail
        refine (new_c 1000 _).mono ?_
        rintro E wd ⟨hbd, ⟨_, _, dv, rfl, hd⟩ | ⟨h, _⟩⟩
        rotate_left
        · exact absurd h (by omega)
        obtain ⟨gd, rfl⟩ := hd.ptr1
        have HD := Lib.hid hd
        have HBD := Lib.hid hbd
        clear hbd hd
        go_wp2_with fail
        refine (pnew_c (-1) none [] 0 wd HD.out (ints_none _) (by decide)).mono ?_
        rintro E wp ⟨gp, kno, knc, rfl, hgw, hkw, hpw, hb3⟩
        have HPa : Hid (PwC (fun x => (wn.heap.size ≤ x ∧ x < wd.heap.size) ∨ wp.heap.size ≤ x) wp gp (.pointer (some ⟨gd, 0, none⟩)) 1000 kno knc (pon 0 [])) := hpw.mono (fun x hx => ⟨.inl, fun h => h.resolve_right (by omega)⟩)
        have hb13 := HBD.out.trans (hb3.mono HBD.out.size)
        obtain ⟨S2, hS2⟩ : ∃ S2 : Nat → Prop, S2 = fun x => (wn.heap.size ≤ x ∧ x < wd.heap.size) ∨ wp.heap.size ≤ x := ⟨_, rfl⟩
        rw [← hS2] at HPa
        have hz13 := hb13.size
        have hz12 := HBD.out.size
        have HNEW : Hid (∀ x, wp.heap.size ≤ x → S2 x) := fun x hx => by rw [hS2]; exact .inr hx
        have HLOW : Hid (∀ wa wb : World, wp.heap.size ≤ wa.heap.size → Tu (fun x => x = gp ∨ S2 x) wa wb → Below wn.heap.size wa wb) := fun wa wb hz ht => ht.below (fun x hx => by rw [hS2]; rintro (e | ⟨e, _⟩ | e) <;> omega) (by omega)
        have HWB := Lib.hid HB2.out.size
        have HGL := Lib.hid O2.out.lt
        have O3 := Lib.hid (O2.out.below hb13 O2.out.lt)
        have HB3 := Lib.hid (HB2.out.trans (hb13.mono HB2.out.size))
        have HZa := Lib.hid (Nat.le_refl wp.heap.size)
        clear hb3 hgw hkw hpw hb13 hS2 hz13 hz12 HD HBD
        go_upto_region 15 with fail
        go_cut [191] (fun v wx => v = .bool false ∧ Hid (Below w.heap.size w wx ∧ Cells wx g 43 (rcs (rH 1 5)) ∧ PwC S2 wx gp (.pointer (some ⟨gd, 0, none⟩)) 1000 kno knc (pon 6 pE3)))
        case first => as_aux_lemma =>
          have a1 := fun W (hW : Cells W g 43 (rcs (rH 1 5))) => run_ldA (n := 9) ty_rec hW 0 (Nat.le_of_ble_eq_true rfl)
          simp only [E0.out] at a1
          have HBs := Lib.hid HB3.out.drew
          have os := O3.out.drew
          have HPs := Lib.hid (HPa.out.new (Below.refl _ _).drew)
          refine wp_region_till (S := fun W => Cells W g 43 (rcs (rH 1 5))) (by kernel_rfl) ?_
          refine wpTill_take (i := 0) (v := ?vv0) rfl (by kernel_rfl) (fun _ _ _ h => h) (Or.inl ⟨by rfl, ?hyv0⟩) os ?restv0
          case hyv0 => (intro W hW; (try dsimp only at hW); go_simp; try with_reducible rfl)
          simp only [Act.put, List.setIfInBounds_toArray, List.set_cons_zero, List.set_cons_succ, List.getElem_toArray, List.getElem_cons_succ, List.getElem_cons_zero]
          refine wpTill_run (i := 1) (by kernel_rfl) rfl os (fun K hK => ?_)
          go_simp
          go_at_call 19
          refine (own_c 5 7 _).mono ?_
          rintro E wv1 ⟨rfl, hb⟩
          have ov1 := os.below hb os.lt
          have HBv1 := Lib.hid (HBs.out.trans (hb.mono HBs.out.size))
          have HPv1 := Lib.hid (HPs.out.new hb)
          have HZv1 := Lib.hid (Nat.le_trans HZa.out hb.size)
          clear hb
          refine hK _ _ ?_
          clear hK K
          refine wpTill_run (i := 2) (by kernel_rfl) rfl ov1 (fun K hK => ?_)
          go_simp
          go_at_call 9
          refine (sbegin_v 4 (rO 5 7) [] none 0 _ v1 HPv1.out (fun x hx => HNEW.out x (Nat.le_trans HZv1.out hx)) (o_ok (by decide) (by decide)).1 (fun r hr => by cases hr) (by decide) (RcsAt.nil _ _) (by decide) (tab_b HT.out HT.out.1 HBv1.out)).mono ?_
          rintro E wv2 ⟨rfl, hp, ht⟩
          have HPv2 := Lib.hid hp
          have hb := HLOW.out _ _ HZv1.out ht
          have HZv2 := Lib.hid (Nat.le_trans HZv1.out ht.size)
          have ov2 := ov1.below hb HGL.out
          have HBv2 := Lib.hid (HBv1.out.trans (hb.mono HWB.out))
          clear hb hp ht
          refine hK _ _ ?_
          clear hK K
          refine wpTill_take (i := 3) (v := ?vv3) rfl (by kernel_rfl) (fun _ _ _ h => h) (Or.inl ⟨by rfl, ?hyv3⟩) ov2 ?restv3
          case hyv3 => (intro W hW; (try dsimp only at hW); go_simp; try with_reducible rfl)
          simp only [Act.put, List.setIfInBounds_toArray, List.set_cons_zero, List.set_cons_succ, List.getElem_toArray, List.getElem_cons_succ, List.getElem_cons_zero]
          refine wpTill_take (i := 4) (v := ?vv4) rfl (by kernel_rfl) (fun _ _ _ h => h) (Or.inl ⟨by rfl, ?hyv4⟩) ov2 ?restv4
          case hyv4 => (intro W hW; (try dsimp only at hW); go_simp; try with_reducible rfl)
          simp only [Act.put, List.setIfInBounds_toArray, List.set_cons_zero, List.set_cons_succ, List.getElem_toArray, List.getElem_cons_succ, List.getElem_cons_zero]
          refine wpTill_take (i := 5) (v := ?vv5) rfl (by kernel_rfl) (fun _ _ _ h => h) (Or.inl ⟨by rfl, ?hyv5⟩) ov2 ?restv5
          case hyv5 => (intro W hW; (try dsimp only at hW); go_simp; try with_reducible rfl)
          simp only [Act.put, List.setIfInBounds_toArray, List.set_cons_zero, List.set_cons_succ, List.getElem_toArray, List.getElem_cons_succ, List.getElem_cons_zero]
          refine wpTill_take (i := 6) (v := ?vv6) rfl (by kernel_rfl) (fun _ _ _ h => h) (Or.inl ⟨by rfl, ?hyv6⟩) ov2 ?restv6
          case hyv6 => (intro W hW; (try dsimp only at hW); go_simp; try with_reducible rfl)
          simp only [Act.put, List.setIfInBounds_toArray, List.set_cons_zero, List.set_cons_succ, List.getElem_toArray, List.getElem_cons_succ, List.getElem_cons_zero]
          refine wpTill_take (i := 7) (v := ?vv7) rfl (by kernel_rfl) (fun _ _ _ h => h) (Or.inl ⟨by rfl, ?hyv7⟩) ov2 ?restv7
          case hyv7 => (intro W hW; (try dsimp only at hW); go_simp; try with_reducible rfl)
          simp only [Act.put, List.setIfInBounds_toArray, List.set_cons_zero, List.set_cons_succ, List.getElem_toArray, List.getElem_cons_succ, List.getElem_cons_zero]
          refine wpTill_run (i := 8) (by kernel_rfl) rfl ov2 (fun K hK => ?_)
          go_simp
          have hb := below_alloc wv2 (.cells (rcs (rH 1 5)) 43)
          have HRv8 := Lib.hid (rcsAt_block (l := [rH 1 5]) (Cells.made wv2 43 (rcs (rH 1 5))) (by simp [Rall]))
          have ov8 := ov2.below hb ov2.lt
          have HBv8 := Lib.hid (HBv2.out.trans (hb.mono HBv2.out.size))
          have HPv8 := Lib.hid (HPv2.out.new hb)
          have HZv8 := Lib.hid (Nat.le_trans HZv2.out hb.size)
          clear hb
          refine hK _ _ ?_
          clear hK K
          refine wpTill_run (i := 9) (by kernel_rfl) rfl ov8 (fun K hK => ?_)
          go_simp
          go_at_call 9
          refine (sbegin_v 4 (rH 1 5) [rH 1 5] _ 1 _ v2 HPv8.out (fun x hx => HNEW.out x (Nat.le_trans HZv8.out hx)) h15_ok.1 (fun r hr => by rw [List.mem_singleton.1 hr]; exact h15_ok.1) (by decide) HRv8.out (by decide) (tab_b HT.out HT.out.1 HBv8.out)).mono ?_
          rintro E wv9 ⟨rfl, hp, ht⟩
          have HPv9 := Lib.hid hp
          have hb := HLOW.out _ _ HZv8.out ht
          have HZv9 := Lib.hid (Nat.le_trans HZv8.out ht.size)
          have ov9 := ov8.below hb HGL.out
          have HBv9 := Lib.hid (HBv8.out.trans (hb.mono HWB.out))
          clear hb hp ht
          refine hK _ _ ?_
          clear hK K
          refine wpTill_take (i := 10) (v := ?vv10) rfl (by kernel_rfl) (fun _ _ _ h => h) (Or.inl ⟨by rfl, ?hyv10⟩) ov9 ?restv10
          case hyv10 => (intro W hW; (try dsimp only at hW); go_simp; try with_reducible rfl)
          simp only [Act.put, List.setIfInBounds_toArray, List.set_cons_zero, List.set_cons_succ, List.getElem_toArray, List.getElem_cons_succ, List.getElem_cons_zero]
          refine wpTill_take (i := 11) (v := ?vv11) rfl (by kernel_rfl) (fun _ _ _ h => h) (Or.inl ⟨by rfl, ?hyv11⟩) ov9 ?restv11
          case hyv11 => (intro W hW; (try dsimp only at hW); go_simp; try with_reducible rfl)
          simp only [Act.put, List.setIfInBounds_toArray, List.set_cons_zero, List.set_cons_succ, List.getElem_toArray, List.getElem_cons_succ, List.getElem_cons_zero]
          refine wpTill_take (i := 12) (v := ?vv12) rfl (by kernel_rfl) (fun _ _ _ h => h) (Or.inl ⟨by rfl, ?hyv12⟩) ov9 ?restv12
          case hyv12 => (intro W hW; (try dsimp only at hW); go_simp; try with_reducible rfl)
          simp only [Act.put, List.setIfInBounds_toArray, List.set_cons_zero, List.set_cons_succ, List.getElem_toArray, List.getElem_cons_succ, List.getElem_cons_zero]
          refine wpTill_take (i := 13) (v := ?vv13) rfl (by kernel_rfl) (fun _ _ _ h => h) (Or.inl ⟨by rfl, ?hyv13⟩) ov9 ?restv13
          case hyv13 => (intro W hW; (try dsimp only at hW); go_simp; try with_reducible rfl)
          simp only [Act.put, List.setIfInBounds_toArray, List.set_cons_zero, List.set_cons_succ, List.getElem_toArray, List.getElem_cons_succ, List.getElem_cons_zero]
          refine wpTill_take (i := 14) (v := ?vv14) rfl (by kernel_rfl) (fun _ _ _ h => h) (Or.inl ⟨by rfl, ?hyv14⟩) ov9 ?restv14
          case hyv14 => (intro W hW; (try dsimp only at hW); go_simp; try with_reducible rfl)
          simp only [Act.put, List.setIfInBounds_toArray, List.set_cons_zero, List.set_cons_succ, List.getElem_toArray, List.getElem_cons_succ, List.getElem_cons_zero]
          refine wpTill_run (i := 15) (by kernel_rfl) rfl ov9 (fun K hK => ?_)
          go_simp
          go_at_call 19
          refine (own_c 5 64 _).mono ?_
          rintro E wv15 ⟨rfl, hb⟩
          have ov15 := ov9.below hb ov9.lt
          have HBv15 := Lib.hid (HBv9.out.trans (hb.mono HBv9.out.size))
          have HPv15 := Lib.hid (HPv9.out.new hb)
          have HZv15 := Lib.hid (Nat.le_trans HZv9.out hb.size)
          clear hb
          refine hK _ _ ?_
          clear hK K
          refine wpTill_run (i := 16) (by kernel_rfl) rfl ov15 (fun K hK => ?_)
          go_simp
          have hb := below_alloc wv15 (.cells (rcs (rO 5 64)) 43)
          have HRv16 := Lib.hid (rcsAt_block (l := [rO 5 64]) (Cells.made wv15 43 (rcs (rO 5 64))) (by simp [Rall]))
          have ov16 := ov15.below hb ov15.lt
          have HBv16 := Lib.hid (HBv15.out.trans (hb.mono HBv15.out.size))
          have HPv16 := Lib.hid (HPv15.out.new hb)
          have HZv16 := Lib.hid (Nat.le_trans HZv15.out hb.size)
          clear hb
          refine hK _ _ ?_
          clear hK K
          refine wpTill_run (i := 17) (by kernel_rfl) rfl ov16 (fun K hK => ?_)
          go_simp
          go_at_call 9
          refine (sbegin_v 4 (rH 1 5) [rO 5 64] _ 1 _ v3 HPv16.out (fun x hx => HNEW.out x (Nat.le_trans HZv16.out hx)) h15_ok.1 (fun r hr => by rw [List.mem_singleton.1 hr]; exact o64_fit) (by decide) HRv16.out (by decide) (tab_b HT.out HT.out.1 HBv16.out)).mono ?_
          rintro E wv17 ⟨rfl, hp, ht⟩
          have HPv17 := Lib.hid hp
          have hb := HLOW.out _ _ HZv16.out ht
          have HZv17 := Lib.hid (Nat.le_trans HZv16.out ht.size)
          have ov17 := ov16.below hb HGL.out
          have HBv17 := Lib.hid (HBv16.out.trans (hb.mono HWB.out))
          clear hb hp ht
          refine hK _ _ ?_
          clear hK K
          refine wpTill_take (i := 18) (v := ?vv18) rfl (by kernel_rfl) (fun _ _ _ h => h) (Or.inl ⟨by rfl, ?hyv18⟩) ov17 ?restv18
          case hyv18 => (intro W hW; (try dsimp only at hW); go_simp; try with_reducible rfl)
          simp only [Act.put, List.setIfInBounds_toArray, List.set_cons_zero, List.set_cons_succ, List.getElem_toArray, List.getElem_cons_succ, List.getElem_cons_zero]
          refine wpTill_take (i := 19) (v := ?vv19) rfl (by kernel_rfl) (fun _ _ _ h => h) (Or.inl ⟨by rfl, ?hyv19⟩) ov17 ?restv19
          case hyv19 => (intro W hW; (try dsimp only at hW); go_simp; try with_reducible rfl)
          simp only [Act.put, List.setIfInBounds_toArray, List.set_cons_zero, List.set_cons_succ, List.getElem_toArray, List.getElem_cons_succ, List.getElem_cons_zero]
          refine wpTill_take (i := 20) (v := ?vv20) rfl (by kernel_rfl) (fun _ _ _ h => h) (Or.inl ⟨by rfl, ?hyv20⟩) ov17 ?restv20
          case hyv20 => (intro W hW; (try dsimp only at hW); go_simp; try with_reducible rfl)
          simp only [Act.put, List.setIfInBounds_toArray, List.set_cons_zero, List.set_cons_succ, List.getElem_toArray, List.getElem_cons_succ, List.getElem_cons_zero]
          refine wpTill_take (i := 21) (v := ?vv21) rfl (by kernel_rfl) (fun _ _ _ h => h) (Or.inl ⟨by rfl, ?hyv21⟩) ov17 ?restv21
          case hyv21 => (intro W hW; (try dsimp only at hW); go_simp; try with_reducible rfl)
          simp only [Act.put, List.setIfInBounds_toArray, List.set_cons_zero, List.set_cons_succ, List.getElem_toArray, List.getElem_cons_succ, List.getElem_cons_zero]
          refine wpTill_run (i := 22) (by kernel_rfl) rfl ov17 (fun K hK => ?_)
          go_simp
          go_at_call 22
          refine (pwrites_v _ HPv17.out).mono ?_
          rintro E wv22 ⟨rfl, rfl⟩
          refine hK _ _ ?_
          clear hK K
          refine wpTill_take (i := 23) (v := ?vv23) rfl (by kernel_rfl) (fun _ _ _ h => h) (Or.inl ⟨by rfl, ?hyv23⟩) ov17 ?restv23
          case hyv23 => (intro W hW; (try dsimp only at hW); go_simp; try with_reducible rfl)
          simp only [Act.put, List.setIfInBounds_toArray, List.set_cons_zero, List.set_cons_succ, List.getElem_toArray, List.getElem_cons_succ, List.getElem_cons_zero]
          refine wpTill_take (i := 24) (v := ?vv24) rfl (by kernel_rfl) (fun _ _ _ h => h) (Or.inl ⟨by rfl, ?hyv24⟩) ov17 ?restv24
          case hyv24 => (intro W hW; (try dsimp only at hW); go_simp; try with_reducible rfl)
          simp only [Act.put, List.setIfInBounds_toArray, List.set_cons_zero, List.set_cons_succ, List.getElem_toArray, List.getElem_cons_succ, List.getElem_cons_zero]
          refine wpTill_take (i := 25) (v := ?vv25) rfl (by kernel_rfl) (fun _ _ _ h => h) (Or.inl ⟨by rfl, ?hyv25⟩) ov17 ?restv25
          case hyv25 => (intro W hW; (try dsimp only at hW); go_simp; try with_reducible rfl)
          simp only [Act.put, List.setIfInBounds_toArray, List.set_cons_zero, List.set_cons_succ, List.getElem_toArray, List.getElem_cons_succ, List.getElem_cons_zero]
          refine wpTill_take (i := 26) (v := ?vv26) rfl (by kernel_rfl) (fun _ _ _ h => h) (Or.inl ⟨by rfl, ?hyv26⟩) ov17 ?restv26
          case hyv26 => (intro W hW; (try dsimp only at hW); go_simp; try with_reducible rfl)
          simp only [Act.put, List.setIfInBounds_toArray, List.set_cons_zero, List.set_cons_succ, List.getElem_toArray, List.getElem_cons_succ, List.getElem_cons_zero]
          refine wpTill_take (i := 27) (v := ?vv27) rfl (by kernel_rfl) (fun _ _ _ h => h) (Or.inl ⟨by rfl, ?hyv27⟩) ov17 ?restv27
          case hyv27 => (intro W hW; (try dsimp only at hW); go_simp; try with_reducible rfl)
          simp only [Act.put, List.setIfInBounds_toArray, List.set_cons_zero, List.set_cons_succ, List.getElem_toArray, List.getElem_cons_succ, List.getElem_cons_zero]
          refine wpTill_run (i := 28) (by kernel_rfl) rfl ov17 (fun K hK => ?_)
          go_simp
          go_at_call 19
          refine (own_c 5 7 _).mono ?_
          rintro E wv28 ⟨rfl, hb⟩
          have ov28 := ov17.below hb ov17.lt
          have HBv28 := Lib.hid (HBv17.out.trans (hb.mono HBv17.out.size))
          have HPv28 := Lib.hid (HPv17.out.new hb)
          have HZv28 := Lib.hid (Nat.le_trans HZv17.out hb.size)
          clear hb
          refine hK _ _ ?_
          clear hK K
          refine wpTill_run (i := 29) (by kernel_rfl) rfl ov28 (fun K hK => ?_)
          go_simp
          have hb := below_alloc wv28 (.cells (rcs (rO 5 7)) 43)
          have HRv29 := Lib.hid (rcsAt_block (l := [rO 5 7]) (Cells.made wv28 43 (rcs (rO 5 7))) (by simp [Rall]))
          have ov29 := ov28.below hb ov28.lt
          have HBv29 := Lib.hid (HBv28.out.trans (hb.mono HBv28.out.size))
          have HPv29 := Lib.hid (HPv28.out.new hb)
          have HZv29 := Lib.hid (Nat.le_trans HZv28.out hb.size)
          clear hb
          refine hK _ _ ?_
          clear hK K
          refine wpTill_run (i := 30) (by kernel_rfl) rfl ov29 (fun K hK => ?_)
          go_simp
          go_at_call 9
          refine (sbegin_v 0 (rH 1 5) [rO 5 7] _ 1 _ v4 HPv29.out (fun x hx => HNEW.out x (Nat.le_trans HZv29.out hx)) h15_ok.1 (fun r hr => by rw [List.mem_singleton.1 hr]; exact (o_ok (by decide) (by decide)).1) (by decide) HRv29.out (by decide) (tab_b HT.out HT.out.1 HBv29.out)).mono ?_
          rintro E wv30 ⟨rfl, hp, ht⟩
          have HPv30 := Lib.hid hp
          have hb := HLOW.out _ _ HZv29.out ht
          have HZv30 := Lib.hid (Nat.le_trans HZv29.out ht.size)
          have ov30 := ov29.below hb HGL.out
          have HBv30 := Lib.hid (HBv29.out.trans (hb.mono HWB.out))
          clear hb hp ht
          refine hK _ _ ?_
          clear hK K
          refine wpTill_take (i := 31) (v := ?vv31) rfl (by kernel_rfl) (fun _ _ _ h => h) (Or.inl ⟨by rfl, ?hyv31⟩) ov30 ?restv31
          case hyv31 => (intro W hW; (try dsimp only at hW); go_simp; try with_reducible rfl)
          simp only [Act.put, List.setIfInBounds_toArray, List.set_cons_zero, List.set_cons_succ, List.getElem_toArray, List.getElem_cons_succ, List.getElem_cons_zero]
          refine wpTill_take (i := 32) (v := ?vv32) rfl (by kernel_rfl) (fun _ _ _ h => h) (Or.inl ⟨by rfl, ?hyv32⟩) ov30 ?restv32
          case hyv32 => (intro W hW; (try dsimp only at hW); go_simp; try with_reducible rfl)
          simp only [Act.put, List.setIfInBounds_toArray, List.set_cons_zero, List.set_cons_succ, List.getElem_toArray, List.getElem_cons_succ, List.getElem_cons_zero]
          refine wpTill_take (i := 33) (v := ?vv33) rfl (by kernel_rfl) (fun _ _ _ h => h) (Or.inl ⟨by rfl, ?hyv33⟩) ov30 ?restv33
          case hyv33 => (intro W hW; (try dsimp only at hW); go_simp; try with_reducible rfl)
          simp only [Act.put, List.setIfInBounds_toArray, List.set_cons_zero, List.set_cons_succ, List.getElem_toArray, List.getElem_cons_succ, List.getElem_cons_zero]
          refine wpTill_take (i := 34) (v := ?vv34) rfl (by kernel_rfl) (fun _ _ _ h => h) (Or.inl ⟨by rfl, ?hyv34⟩) ov30 ?restv34
          case hyv34 => (intro W hW; (try dsimp only at hW); go_simp; try with_reducible rfl)
          simp only [Act.put, List.setIfInBounds_toArray, List.set_cons_zero, List.set_cons_succ, List.getElem_toArray, List.getElem_cons_succ, List.getElem_cons_zero]
          refine wpTill_take (i := 35) (v := ?vv35) rfl (by kernel_rfl) (fun _ _ _ h => h) (Or.inl ⟨by rfl, ?hyv35⟩) ov30 ?restv35
          case hyv35 => (intro W hW; (try dsimp only at hW); go_simp; try with_reducible rfl)
          simp only [Act.put, List.setIfInBounds_toArray, List.set_cons_zero, List.set_cons_succ, List.getElem_toArray, List.getElem_cons_succ, List.getElem_cons_zero]
          refine wpTill_run (i := 36) (by kernel_rfl) rfl ov30 (fun K hK => ?_)
          go_simp
          go_at_call 9
          refine (sbegin_v 6 (rH 1 5) [] none 0 _ v5 HPv30.out (fun x hx => HNEW.out x (Nat.le_trans HZv30.out hx)) h15_ok.1 (fun r hr => by cases hr) (by decide) (RcsAt.nil _ _) (by decide) (tab_b HT.out HT.out.1 HBv30.out)).mono ?_
          rintro E wv36 ⟨rfl, hp, ht⟩
          have HPv36 := Lib.hid hp
          have hb := HLOW.out _ _ HZv30.out ht
          have HZv36 := Lib.hid (Nat.le_trans HZv30.out ht.size)
          have ov36 := ov30.below hb HGL.out
          have HBv36 := Lib.hid (HBv30.out.trans (hb.mono HWB.out))
          clear hb hp ht
          refine hK _ _ ?_
          clear hK K
          refine wpTill_take (i := 37) (v := ?vv37) rfl (by kernel_rfl) (fun _ _ _ h => h) (Or.inl ⟨by rfl, ?hyv37⟩) ov36 ?restv37
          case hyv37 => (intro W hW; (try dsimp only at hW); go_simp; try with_reducible rfl)
          simp only [Act.put, List.setIfInBounds_toArray, List.set_cons_zero, List.set_cons_succ, List.getElem_toArray, List.getElem_cons_succ, List.getElem_cons_zero]
          refine wpTill_take (i := 38) (v := ?vv38) rfl (by kernel_rfl) (fun _ _ _ h => h) (Or.inl ⟨by rfl, ?hyv38⟩) ov36 ?restv38
          case hyv38 => (intro W hW; (try dsimp only at hW); go_simp; try with_reducible rfl)
          simp only [Act.put, List.setIfInBounds_toArray, List.set_cons_zero, List.set_cons_succ, List.getElem_toArray, List.getElem_cons_succ, List.getElem_cons_zero]
          refine wpTill_take (i := 39) (v := ?vv39) rfl (by kernel_rfl) (fun _ _ _ h => h) (Or.inl ⟨by rfl, ?hyv39⟩) ov36 ?restv39
          case hyv39 => (intro W hW; (try dsimp only at hW); go_simp; try with_reducible rfl)
          simp only [Act.put, List.setIfInBounds_toArray, List.set_cons_zero, List.set_cons_succ, List.getElem_toArray, List.getElem_cons_succ, List.getElem_cons_zero]
          refine wpTill_take (i := 40) (v := ?vv40) rfl (by kernel_rfl) (fun _ _ _ h => h) (Or.inl ⟨by rfl, ?hyv40⟩) ov36 ?restv40
          case hyv40 => (intro W hW; (try dsimp only at hW); go_simp; try with_reducible rfl)
          simp only [Act.put, List.setIfInBounds_toArray, List.set_cons_zero, List.set_cons_succ, List.getElem_toArray, List.getElem_cons_succ, List.getElem_cons_zero]
          refine wpTill_take (i := 41) (v := ?vv41) rfl (by kernel_rfl) (fun _ _ _ h => h) (Or.inl ⟨by rfl, ?hyv41⟩) ov36 ?restv41
          case hyv41 => (intro W hW; (try dsimp only at hW); go_simp; try with_reducible rfl)
          simp only [Act.put, List.setIfInBounds_toArray, List.set_cons_zero, List.set_cons_succ, List.getElem_toArray, List.getElem_cons_succ, List.getElem_cons_zero]
          refine wpTill_run (i := 42) (by kernel_rfl) rfl ov36 (fun K hK => ?_)
          go_simp
          go_at_call 11
          refine (sappend_v 4 1 (rH 1 5) _ v6 HPv36.out (fun x hx => HNEW.out x (Nat.le_trans HZv36.out hx)) (by decide) h15_ok.1 (by decide) (tab_b HT.out HT.out.1 HBv36.out)).mono ?_
          rintro E wv42 ⟨rfl, hp, ht⟩
          have HPv42 := Lib.hid hp
          have hb := HLOW.out _ _ HZv36.out ht
          have HZv42 := Lib.hid (Nat.le_trans HZv36.out ht.size)
          have ov42 := ov36.below hb HGL.out
          have HBv42 := Lib.hid (HBv36.out.trans (hb.mono HWB.out))
          clear hb hp ht
          refine hK _ _ ?_
          clear hK K
          refine wpTill_take (i := 43) (v := ?vv43) rfl (by kernel_rfl) (fun _ _ _ h => h) (Or.inl ⟨by rfl, ?hyv43⟩) ov42 ?restv43
          case hyv43 => (intro W hW; (try dsimp only at hW); go_simp; try with_reducible rfl)
          simp only [Act.put, List.setIfInBounds_toArray, List.set_cons_zero, List.set_cons_succ, List.getElem_toArray, List.getElem_cons_succ, List.getElem_cons_zero]
          refine wpTill_take (i := 44) (v := ?vv44) rfl (by kernel_rfl) (fun _ _ _ h => h) (Or.inl ⟨by rfl, ?hyv44⟩) ov42 ?restv44
          case hyv44 => (intro W hW; (try dsimp only at hW); go_simp; try with_reducible rfl)
          simp only [Act.put, List.setIfInBounds_toArray, List.set_cons_zero, List.set_cons_succ, List.getElem_toArray, List.getElem_cons_succ, List.getElem_cons_zero]
          refine wpTill_take (i := 45) (v := ?vv45) rfl (by kernel_rfl) (fun _ _ _ h => h) (Or.inl ⟨by rfl, ?hyv45⟩) ov42 ?restv45
          case hyv45 => (intro W hW; (try dsimp only at hW); go_simp; try with_reducible rfl)
          simp only [Act.put, List.setIfInBounds_toArray, List.set_cons_zero, List.set_cons_succ, List.getElem_toArray, List.getElem_cons_succ, List.getElem_cons_zero]
          refine wpTill_take (i := 46) (v := ?vv46) rfl (by kernel_rfl) (fun _ _ _ h => h) (Or.inl ⟨by rfl, ?hyv46⟩) ov42 ?restv46
          case hyv46 => (intro W hW; (try dsimp only at hW); go_simp; try with_reducible rfl)
          simp only [Act.put, List.setIfInBounds_toArray, List.set_cons_zero, List.set_cons_succ, List.getElem_toArray, List.getElem_cons_succ, List.getElem_cons_zero]
          refine wpTill_run (i := 47) (by kernel_rfl) rfl ov42 (fun K hK => ?_)
          go_simp
          go_at_call 19
          refine (own_c 6 7 _).mono ?_
          rintro E wv47 ⟨rfl, hb⟩
          have ov47 := ov42.below hb ov42.lt
          have HBv47 := Lib.hid (HBv42.out.trans (hb.mono HBv42.out.size))
          have HPv47 := Lib.hid (HPv42.out.new hb)
          have HZv47 := Lib.hid (Nat.le_trans HZv42.out hb.size)
          clear hb
          refine hK _ _ ?_
          clear hK K
          refine wpTill_run (i := 48) (by kernel_rfl) rfl ov47 (fun K hK => ?_)
          go_simp
          go_at_call 11
          refine (sappend_v 5 2 (rO 6 7) _ v7 HPv47.out (fun x hx => HNEW.out x (Nat.le_trans HZv47.out hx)) (by decide) (o_ok (by decide) (by decide)).1 (by decide) (tab_b HT.out HT.out.1 HBv47.out)).mono ?_
          rintro E wv48 ⟨rfl, hp, ht⟩
          have HPv48 := Lib.hid hp
          have hb := HLOW.out _ _ HZv47.out ht
          have HZv48 := Lib.hid (Nat.le_trans HZv47.out ht.size)
          have ov48 := ov47.below hb HGL.out
          have HBv48 := Lib.hid (HBv47.out.trans (hb.mono HWB.out))
          clear hb hp ht
          refine hK _ _ ?_
          clear hK K
          refine wpTill_take (i := 49) (v := ?vv49) rfl (by kernel_rfl) (fun _ _ _ h => h) (Or.inl ⟨by rfl, ?hyv49⟩) ov48 ?restv49
          case hyv49 => (intro W hW; (try dsimp only at hW); go_simp; try with_reducible rfl)
          simp only [Act.put, List.setIfInBounds_toArray, List.set_cons_zero, List.set_cons_succ, List.getElem_toArray, List.getElem_cons_succ, List.getElem_cons_zero]
          refine wpTill_take (i := 50) (v := ?vv50) rfl (by kernel_rfl) (fun _ _ _ h => h) (Or.inl ⟨by rfl, ?hyv50⟩) ov48 ?restv50
          case hyv50 => (intro W hW; (try dsimp only at hW); go_simp; try with_reducible rfl)
          simp only [Act.put, List.setIfInBounds_toArray, List.set_cons_zero, List.set_cons_succ, List.getElem_toArray, List.getElem_cons_succ, List.getElem_cons_zero]
          refine wpTill_take (i := 51) (v := ?vv51) rfl (by kernel_rfl) (fun _ _ _ h => h) (Or.inl ⟨by rfl, ?hyv51⟩) ov48 ?restv51
          case hyv51 => (intro W hW; (try dsimp only at hW); go_simp; try with_reducible rfl)
          simp only [Act.put, List.setIfInBounds_toArray, List.set_cons_zero, List.set_cons_succ, List.getElem_toArray, List.getElem_cons_succ, List.getElem_cons_zero]
          refine wpTill_take (i := 52) (v := ?vv52) rfl (by kernel_rfl) (fun _ _ _ h => h) (Or.inl ⟨by rfl, ?hyv52⟩) ov48 ?restv52
          case hyv52 => (intro W hW; (try dsimp only at hW); go_simp; try with_reducible rfl)
          simp only [Act.put, List.setIfInBounds_toArray, List.set_cons_zero, List.set_cons_succ, List.getElem_toArray, List.getElem_cons_succ, List.getElem_cons_zero]
          refine wpTill_run (i := 53) (by kernel_rfl) rfl ov48 (fun K hK => ?_)
          go_simp
          go_at_call 20
          refine (sure_c 5 7 9 _).mono ?_
          rintro E wv53 ⟨rfl, hb⟩
          have ov53 := ov48.below hb ov48.lt
          have HBv53 := Lib.hid (HBv48.out.trans (hb.mono HBv48.out.size))
          have HPv53 := Lib.hid (HPv48.out.new hb)
          have HZv53 := Lib.hid (Nat.le_trans HZv48.out hb.size)
          clear hb
          refine hK _ _ ?_
          clear hK K
          refine wpTill_run (i := 54) (by kernel_rfl) rfl ov53 (fun K hK => ?_)
          go_simp
          go_at_call 11
          refine (sappend_v 0 1 (rS 5 7 9) _ v8 HPv53.out (fun x hx => HNEW.out x (Nat.le_trans HZv53.out hx)) (by decide) (s_ok (by decide) (by decide) (by decide)).1 (by decide) (tab_b HT.out HT.out.1 HBv53.out)).mono ?_
          rintro E wv54 ⟨rfl, hp, ht⟩
          have HPv54 := Lib.hid hp
          have hb := HLOW.out _ _ HZv53.out ht
          have HZv54 := Lib.hid (Nat.le_trans HZv53.out ht.size)
          have ov54 := ov53.below hb HGL.out
          have HBv54 := Lib.hid (HBv53.out.trans (hb.mono HWB.out))
          clear hb hp ht
          refine hK _ _ ?_
          clear hK K
          refine wpTill_take (i := 55) (v := ?vv55) rfl (by kernel_rfl) (fun _ _ _ h => h) (Or.inl ⟨by rfl, ?hyv55⟩) ov54 ?restv55
          case hyv55 => (intro W hW; (try dsimp only at hW); go_simp; try with_reducible rfl)
          simp only [Act.put, List.setIfInBounds_toArray, List.set_cons_zero, List.set_cons_succ, List.getElem_toArray, List.getElem_cons_succ, List.getElem_cons_zero]
          refine wpTill_run (i := 56) (by kernel_rfl) rfl ov54 (fun K hK => ?_)
          go_simp
          refine hK _ _ ?_
          clear hK K
          refine wpTill_done (by kernel_rfl) ?_
          go_wp2_with fail
          go_meet
          exact ⟨rfl, HBv54.out, ov54, HPv54.out⟩
        case rest =>
          obtain ⟨rfl, hc⟩ := hcut
          have HB4 := Lib.hid hc.out.1
          have O4 := Lib.hid hc.out.2.1
          have HP4 := Lib.hid hc.out.2.2
          clear hc HB3 O3 HPa HZa HB2 O2
          generalize wc = w4 at *
          go_wp2_with fail
          refine (seg_c 1 _ (by decide)).mono ?_
          rintro E w5 ⟨rfl, hb⟩
          have HP5 := Lib.hid (HP4.out.new hb)
          have O5 := Lib.hid (O4.out.below hb O4.out.lt)
          have HB5 := Lib.hid (HB4.out.trans (hb.mono HB4.out.size))
          clear hb HP4 O4 HB4
          go_wp2_with fail
          refine (pread_v 0 (bys [rH 1 5, rO 5 7, rS 5 7 9]) (sgn 1) w5 v9 HP5.out (by rw [sgn_len]; decide)).mono ?_
          rintro E w6 ⟨rfl, hb⟩
          have O6 := Lib.hid (O5.out.below hb O5.out.lt)
          have HB6 := Lib.hid (HB5.out.trans (hb.mono HB5.out.size))
          clear hb HP5 O5 HB5
          go_upto_region 18 with fail
          have a1 := fun W (hW : Cells W g 43 (rcs (rH 1 5))) => run_ldA (n := 9) ty_rec hW 0 (Nat.le_of_ble_eq_true rfl)
          simp only [E0.out] at a1
          have HBs := Lib.hid HB6.out.drew
          have os := O6.out.drew
          refine wp_region_till (S := fun W => Cells W g 43 (rcs (rH 1 5))) (by kernel_rfl) ?_
          refine wpTill_take (i := 0) (v := ?vx0) rfl (by kernel_rfl) (fun _ _ _ h => h) (Or.inl ⟨by rfl, ?hyx0⟩) os ?restx0
          case hyx0 => (intro W hW; (try dsimp only at hW); go_simp; try with_reducible rfl)
          simp only [Act.put, List.setIfInBounds_toArray, List.set_cons_zero, List.set_cons_succ, List.getElem_toArray, List.getElem_cons_succ, List.getElem_cons_zero]
          refine wpTill_take (i := 1) (v := ?vx1) rfl (by kernel_rfl) (fun _ _ _ h => h) (Or.inl ⟨by rfl, ?hyx1⟩) os ?restx1
          case hyx1 => (intro W hW; (try dsimp only at hW); go_simp; try with_reducible rfl)
          simp only [Act.put, List.setIfInBounds_toArray, List.set_cons_zero, List.set_cons_succ, List.getElem_toArray, List.getElem_cons_succ, List.getElem_cons_zero]
          refine wpTill_take (i := 2) (v := ?vx2) rfl (by kernel_rfl) (fun _ _ _ h => h) (Or.inl ⟨by rfl, ?hyx2⟩) os ?restx2
          case hyx2 => (intro W hW; (try dsimp only at hW); go_simp; try with_reducible rfl)
          simp only [Act.put, List.setIfInBounds_toArray, List.set_cons_zero, List.set_cons_succ, List.getElem_toArray, List.getElem_cons_succ, List.getElem_cons_zero]
          refine wpTill_take (i := 3) (v := ?vx3) rfl (by kernel_rfl) (fun _ _ _ h => h) (Or.inl ⟨by rfl, ?hyx3⟩) os ?restx3
          case hyx3 => (intro W hW; (try dsimp only at hW); go_simp; try with_reducible rfl)
          simp only [Act.put, List.setIfInBounds_toArray, List.set_cons_zero, List.set_cons_succ, List.getElem_toArray, List.getElem_cons_succ, List.getElem_cons_zero]
          refine wpTill_take (i := 4) (v := ?vx4) rfl (by kernel_rfl) (fun _ _ _ h => h) (Or.inl ⟨by rfl, ?hyx4⟩) os ?restx4
          case hyx4 => (intro W hW; (try dsimp only at hW); go_simp; try with_reducible rfl)
          simp only [Act.put, List.setIfInBounds_toArray, List.set_cons_zero, List.set_cons_succ, List.getElem_toArray, List.getElem_cons_succ, List.getElem_cons_zero]
          refine wpTill_run (i := 5) (by kernel_rfl) rfl os (fun K hK => ?_)
          go_simp
          go_at_call 19
          refine (own_c 5 7 _).mono ?_
          rintro E wx5 ⟨rfl, hb⟩
          have ox5 := os.below hb os.lt
          have HBx5 := Lib.hid (HBs.out.trans (hb.mono HBs.out.size))
          clear hb
          refine hK _ _ ?_
          clear hK K
          refine wpTill_run (i := 6) (by kernel_rfl) rfl ox5 (fun K hK => ?_)
          go_simp
          go_at_call 20
          refine (sure_c 5 7 9 _).mono ?_
          rintro E wx6 ⟨rfl, hb⟩
          have ox6 := ox5.below hb ox5.lt
          have HBx6 := Lib.hid (HBx5.out.trans (hb.mono HBx5.out.size))
          clear hb
          refine hK _ _ ?_
          clear hK K
          refine wpTill_run (i := 7) (by kernel_rfl) rfl ox6 (fun K hK => ?_)
          go_simp
          have hb := below_alloc wx6 (.cells (Rall [rH 1 5, rO 5 7, rS 5 7 9]).toArray 43)
          have HRx7 := Lib.hid (rcsAt_block (l := [rH 1 5, rO 5 7, rS 5 7 9]) (Cells.made wx6 43 (Rall [rH 1 5, rO 5 7, rS 5 7 9]).toArray) rfl)
          have ox7 := ox6.below hb ox6.lt
          have HBx7 := Lib.hid (HBx6.out.trans (hb.mono HBx6.out.size))
          clear hb
          refine hK _ _ ?_
          clear hK K
          refine wpTill_run (i := 8) (by kernel_rfl) rfl ox7 (fun K hK => ?_)
          go_simp
          go_at_call 18
          refine (lput_c [rH 1 5, rO 5 7, rS 5 7 9] _ 3 _ HRx7.out (mc h15_ok (mc (o_ok (by decide) (by decide)) (mc (s_ok (by decide) (by decide) (by decide)) mn))) (by decide) (tab_b HT.out HT.out.1 HBx7.out)).mono ?_
          rintro E wx8 ⟨rfl, hb⟩
          have ox8 := ox7.below hb ox7.lt
          have HBx8 := Lib.hid (HBx7.out.trans (hb.mono HBx7.out.size))
          clear hb
          refine hK _ _ ?_
          clear hK K
          refine wpTill_take (i := 9) (v := ?vx9) rfl (by kernel_rfl) (fun _ _ _ h => h) (Or.inl ⟨by rfl, ?hyx9⟩) ox8 ?restx9
          case hyx9 => (intro W hW; (try dsimp only at hW); go_simp; try with_reducible rfl)
          simp only [Act.put, List.setIfInBounds_toArray, List.set_cons_zero, List.set_cons_succ, List.getElem_toArray, List.getElem_cons_succ, List.getElem_cons_zero]
          refine wpTill_take (i := 10) (v := ?vx10) rfl (by kernel_rfl) (fun _ _ _ h => h) (Or.inl ⟨by rfl, ?hyx10⟩) ox8 ?restx10
          case hyx10 => (intro W hW; (try dsimp only at hW); go_simp; try with_reducible rfl)
          simp only [Act.put, List.setIfInBounds_toArray, List.set_cons_zero, List.set_cons_succ, List.getElem_toArray, List.getElem_cons_succ, List.getElem_cons_zero]
          refine wpTill_take (i := 11) (v := ?vx11) rfl (by kernel_rfl) (fun _ _ _ h => h) (Or.inl ⟨by rfl, ?hyx11⟩) ox8 ?restx11
          case hyx11 => (intro W hW; (try dsimp only at hW); go_simp; try with_reducible rfl)
          simp only [Act.put, List.setIfInBounds_toArray, List.set_cons_zero, List.set_cons_succ, List.getElem_toArray, List.getElem_cons_succ, List.getElem_cons_zero]
          refine wpTill_take (i := 12) (v := ?vx12) rfl (by kernel_rfl) (fun _ _ _ h => h) (Or.inl ⟨by rfl, ?hyx12⟩) ox8 ?restx12
          case hyx12 => (intro W hW; (try dsimp only at hW); go_simp; try with_reducible rfl)
          simp only [Act.put, List.setIfInBounds_toArray, List.set_cons_zero, List.set_cons_succ, List.getElem_toArray, List.getElem_cons_succ, List.getElem_cons_zero]
          refine wpTill_run (i := 13) (by kernel_rfl) rfl ox8 (fun K hK => ?_)
          go_simp
          go_at_call 9
          refine (sbegin_nil (rH 1 5) _ h15_ok.1 (by decide) (tab_b HT.out HT.out.1 HBx8.out)).mono ?_
          rintro E wx13 ⟨rfl, hb⟩
          have ox13 := ox8.below hb ox8.lt
          have HBx13 := Lib.hid (HBx8.out.trans (hb.mono HBx8.out.size))
          clear hb
          refine hK _ _ ?_
          clear hK K
          refine wpTill_take (i := 14) (v := ?vx14) rfl (by kernel_rfl) (fun _ _ _ h => h) (Or.inl ⟨by rfl, ?hyx14⟩) ox13 ?restx14
          case hyx14 => (intro W hW; (try dsimp only at hW); go_simp; try with_reducible rfl)
          simp only [Act.put, List.setIfInBounds_toArray, List.set_cons_zero, List.set_cons_succ, List.getElem_toArray, List.getElem_cons_succ, List.getElem_cons_zero]
          refine wpTill_take (i := 15) (v := ?vx15) rfl (by kernel_rfl) (fun _ _ _ h => h) (Or.inl ⟨by rfl, ?hyx15⟩) ox13 ?restx15
          case hyx15 => (intro W hW; (try dsimp only at hW); go_simp; try with_reducible rfl)
          simp only [Act.put, List.setIfInBounds_toArray, List.set_cons_zero, List.set_cons_succ, List.getElem_toArray, List.getElem_cons_succ, List.getElem_cons_zero]
          refine wpTill_take (i := 16) (v := ?vx16) rfl (by kernel_rfl) (fun _ _ _ h => h) (Or.inl ⟨by rfl, ?hyx16⟩) ox13 ?restx16
          case hyx16 => (intro W hW; (try dsimp only at hW); go_simp; try with_reducible rfl)
          simp only [Act.put, List.setIfInBounds_toArray, List.set_cons_zero, List.set_cons_succ, List.getElem_toArray, List.getElem_cons_succ, List.getElem_cons_zero]
          refine wpTill_run (i := 17) (by kernel_rfl) rfl ox13 (fun K hK => ?_)
          go_simp
          go_at_call 5
          refine (works_c _ (tab_b HT.out HT.out.1 HBx13.out)).mono ?_
          rintro E wx17 ⟨rfl, hb⟩
          have ox17 := ox13.below hb ox13.lt
          have HBx17 := Lib.hid (HBx13.out.trans (hb.mono HBx13.out.size))
          clear hb
          refine hK _ _ ?_
          clear hK K
          refine wpTill_run (i := 18) (by kernel_rfl) rfl ox17 (fun K hK => ?_)
          go_simp
          refine hK _ _ ?_
          clear hK K
          refine wpTill_run (i := 19) (by kernel_rfl) rfl ox17 (fun K hK => ?_)
          go_simp
          refine hK _ _ ?_
          clear hK K
          refine wpTill_done (by kernel_rfl) ?_
          go_wp2
          go_ret
          exact ⟨rfl, HBx17.out⟩
end Go.Proofs.YthnelnfefllhpaaGreatDoor
