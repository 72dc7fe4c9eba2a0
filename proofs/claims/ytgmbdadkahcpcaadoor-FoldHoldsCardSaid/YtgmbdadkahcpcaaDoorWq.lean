/- FoldMakes: the walk. Nothing is assumed beyond the bounds of the row's own types. -/
import Derived.Test.YtgmbdadkahcpcaaDoorWm
namespace Go.Proofs.YtgmbdadkahcpcaaDoor
open Go.RowKit
set_option linter.unusedVariables false
set_option linter.unusedSimpArgs false
set_option maxRecDepth 20000
attribute [local go_sem ↓] ld_pair ld_state ld_shots st_state
set_option maxHeartbeats 4000000 in
theorem law_makes (s : St) (ao : Option Addr) (cap : Nat) (l : List (Nat × Nat)) (lo : Option Addr) (c2 : Nat) (w : World) (hS : Shs w ao s.ss) (hn : ao = none → cap = 0) (hl : s.ss.length ≤ maxLen) (hf : s.fit) (hP : Pis w lo l) (hl2 : l.length ≤ maxLen) (hL : Laid w) :
    Calls Tryd.prog 3 #[sv s ao cap, .slice lo l.length c2] w fun E w' => E = .returned (.bool true) ∧ Below w.heap.size w w' := by
  have HS := Lib.hid hS
  have HN := Lib.hid hn
  have HFT := Lib.hid hf
  have HP := Lib.hid hP
  have HL := Lib.hid hL
  have H0 := Lib.hid (Loc.one w 30 (stc s ao cap))
  clear hS hn hf hP hL
  go_enter Tryd.func3, Tryd.ntmps3
  go_upto_region 1 with fail
  generalize w.alloc (.cells (stc s ao cap) 30) = wa at *
  have la := H0.out.ldO ty_shots 0 rfl 16 (v := .slice ao s.ss.length cap) rfl
  by_cases hc1 : 100 < s.ss.length
  · have i1 : (100 : Int) < (s.ss.length : Int) := by omega
    go_wp2_with fail
    refine (awake_c _ (HL.out.to H0.out.be)).mono ?_
    rintro E w1 ⟨rfl, hb1⟩
    go_wp2
    go_ret
    exact ⟨rfl, (H0.out.to hb1).be⟩
  have i1 : ¬ (100 : Int) < (s.ss.length : Int) := by omega
  by_cases hc2 : 200 < l.length
  · have i2 : (200 : Int) < (l.length : Int) := by omega
    go_wp2_with fail
    refine (awake_c _ (HL.out.to H0.out.be)).mono ?_
    rintro E w1 ⟨rfl, hb1⟩
    go_wp2
    go_ret
    exact ⟨rfl, (H0.out.to hb1).be⟩
  have i2 : ¬ (200 : Int) < (l.length : Int) := by omega
  have HSL := Lib.hid (show s.ss.length ≤ 1000000 by omega)
  have HLL := Lib.hid (show l.length ≤ maxLen by unfold maxLen; omega)
  go_upto_region 3 with fail
  clear la i1 i2 hc1 hc2 hl hl2
  have la := H0.out.ldA ty_state 0 rfl 0 (vs := stc s ao cap) rfl (Nat.le_of_ble_eq_true rfl)
  go_wp2_with fail
  refine (refCopy_c s ao cap wa (Shs_grown HS.out (grown_of_below (r := none) H0.out.be) (by simp)) HN.out HSL.out).mono ?_
  rintro E w1 ⟨ao1, cap1, rfl, hown, hnil, hg⟩
  clear la
  have H1 := H0.out.grown hg
  have HR1 : Hid (Shr wa.heap.size w1 [] ao1 s.ss.length cap1 s.ss) := shr_of hown rfl hnil (bs := []) (by intro b hb; cases hb) hg.size
  obtain ⟨g1, w2, z2, s2, H2, q2⟩ := H1.newA ty_state zsc (stc s ao1 cap1) rfl rfl rfl
  replace H2 : Loc _ _ _ [(w.heap.size, 30, stc s ao cap), (g1, 30, stc s ao1 cap1)] := H2
  have HR2 := Lib.hid (HR1.out.to (below_of_grown q2))
  have HH2 := Lib.hid H2
  clear hown hg H1 HR1 q2 H2 H0
  obtain ⟨T, hT⟩ : ∃ T, T = stps s l := ⟨_, rfl⟩
  have HT := Lib.hid hT
  have HTF : Hid (T.fit ∧ T.ss.length ≤ 1000000) := by show _ ∧ _; rw [hT]; exact ⟨stps_fit HFT.out l, stps_len HFT.out (by decide) HSL.out l⟩
  have HN1 := Lib.hid hnil
  clear hT hnil
  go_upto_region 4 with fail
  clear s2 z2
  have a1 := HH2.out.onA ty_state 1 rfl 0 (vs := stc s ao1 cap1) rfl (Nat.le_of_ble_eq_true rfl)
  have a2 := HH2.out.onA ty_state 0 rfl 0 (vs := stc s ao cap) rfl (Nat.le_of_ble_eq_true rfl)
  have CF : Hid (∀ W, G.On w2.heap.size w2 W → Calls Tryd.prog 11 #[sv s ao1 cap1, .slice lo l.length c2] W (StPost W.heap.size W T)) := fun W hW => by
    rw [HT.out]; exact fold_c s ao1 cap1 l lo c2 W ((HR2.out.to hW).shs HFT.out.2.2.2.2.1) HN1.out HSL.out HFT.out (HP.out.to (HH2.out.to hW).be) HLL.out (HL.out.to (HH2.out.to hW).be)
  have CR : Hid (∀ W, G.On w2.heap.size w2 W → Calls Tryd.prog 12 #[sv s ao cap, .slice lo l.length c2] W (StPost W.heap.size W T)) := fun W hW => by
    rw [HT.out]; exact rfold_c s ao cap l lo c2 W (Shs_grown HS.out (grown_of_below (r := none) (HH2.out.to hW).be) (by simp)) HN.out HSL.out HFT.out (HP.out.to (HH2.out.to hW).be) HLL.out
  have hs0 := G.On.drew w2.heap.size w2
  generalize hwd : w2.drew = wd at *
  refine wp_region_till (S := fun w' => G.On w2.heap.size w2 w') (by kernel_rfl) ?_
  rw [hwd]
  clear hwd
  refine wpTill_take (i := 0) (v := ?vq0) rfl (by kernel_rfl) (fun _ _ _ h => h) (Or.inl ⟨by rfl, ?hyq0⟩) hs0 ?restq0
  case hyq0 => (intro W hW; (try dsimp only at hW); go_simp; try with_reducible rfl)
  simp only [Act.put, List.setIfInBounds_toArray, List.set_cons_zero, List.set_cons_succ]
  refine wpTill_take (i := 1) (v := ?vq1) rfl (by kernel_rfl) (fun _ _ _ h => h) (Or.inl ⟨by rfl, ?hyq1⟩) hs0 ?restq1
  case hyq1 => (intro W hW; (try dsimp only at hW); go_simp; try with_reducible rfl)
  simp only [Act.put, List.setIfInBounds_toArray, List.set_cons_zero, List.set_cons_succ]
  refine wpTill_take (i := 3) (v := ?vq3) rfl (by kernel_rfl) (fun _ _ _ h => h) (Or.inl ⟨by rfl, ?hyq3⟩) hs0 ?restq3
  case hyq3 => (intro W hW; (try dsimp only at hW); go_simp; try with_reducible rfl)
  simp only [Act.put, List.setIfInBounds_toArray, List.set_cons_zero, List.set_cons_succ]
  refine wpTill_take (i := 4) (v := ?vq4) rfl (by kernel_rfl) (fun _ _ _ h => h) (Or.inl ⟨by rfl, ?hyq4⟩) hs0 ?restq4
  case hyq4 => (intro W hW; (try dsimp only at hW); go_simp; try with_reducible rfl)
  simp only [Act.put, List.setIfInBounds_toArray, List.set_cons_zero, List.set_cons_succ]
  refine wpTill_run (i := 2) (by kernel_rfl) rfl hs0 (fun K hK => ?_)
  go_simp
  go_at_call 11
  refine (CF.out wd hs0).mono ?_
  rintro E w3 ⟨ao3, cap3, rfl, hR3, hb3⟩
  have hs3 := G.on_step hs0 hb3
  have HR3 := Lib.hid hR3
  clear hR3 hb3
  refine hK _ _ ?_
  clear hK K
  refine wpTill_run (i := 5) (by kernel_rfl) rfl hs3 (fun K hK => ?_)
  go_simp
  go_at_call 12
  refine (CR.out w3 hs3).mono ?_
  rintro E w4 ⟨ao4, cap4, rfl, hR4, hb4⟩
  have hs4 := G.on_step hs3 hb4
  have HS3 := Lib.hid ((HR3.out.to hb4).shs HTF.out.1.2.2.2.2.1)
  have HS4 := Lib.hid (hR4.shs HTF.out.1.2.2.2.2.1)
  clear hR4 hb4
  refine hK _ _ ?_
  clear hK K
  refine wpTill_run (i := 6) (by kernel_rfl) rfl hs4 (fun K hK => ?_)
  go_simp
  go_at_call 10
  refine (refSame_self T ao3 ao4 cap3 cap4 w4 HS3.out HS4.out (Nat.le_trans HTF.out.2 (by decide))).mono ?_
  rintro E w5 ⟨rfl, hg5⟩
  have hs5 := G.on_step hs4 (below_of_grown hg5)
  clear hg5
  refine hK _ _ ?_
  clear hK K
  refine wpTill_take (i := 7) (v := ?vq7) rfl (by kernel_rfl) (fun _ _ _ h => h) (Or.inl ⟨by rfl, ?hyq7⟩) hs5 ?restq7
  case hyq7 => (intro W hW; (try dsimp only at hW); go_simp; try with_reducible rfl)
  simp only [Act.put, List.setIfInBounds_toArray, List.set_cons_zero, List.set_cons_succ]
  refine wpTill_take (i := 8) (v := ?vq8) rfl (by kernel_rfl) (fun _ _ _ h => h) (Or.inl ⟨by rfl, ?hyq8⟩) hs5 ?restq8
  case hyq8 => (intro W hW; (try dsimp only at hW); go_simp; try with_reducible rfl)
  simp only [Act.put, List.setIfInBounds_toArray, List.set_cons_zero, List.set_cons_succ]
  refine wpTill_take (i := 9) (v := ?vq9) rfl (by kernel_rfl) (fun _ _ _ h => h) (Or.inl ⟨by rfl, ?hyq9⟩) hs5 ?restq9
  case hyq9 => (intro W hW; (try dsimp only at hW); go_simp; try with_reducible rfl)
  simp only [Act.put, List.setIfInBounds_toArray, List.set_cons_zero, List.set_cons_succ]
  refine wpTill_run (i := 10) (by kernel_rfl) rfl hs5 (fun K hK => ?_)
  go_simp
  go_at_call 10
  refine (refSame_self s ao1 ao cap1 cap w5 ((HR2.out.to hs5).shs HFT.out.2.2.2.2.1) (Shs_grown HS.out (grown_of_below (r := none) (HH2.out.to hs5).be) (by simp)) (Nat.le_trans HSL.out (by decide))).mono ?_
  rintro E w6 ⟨rfl, hg6⟩
  have hs6 := G.on_step hs5 (below_of_grown hg6)
  clear hg6
  refine hK _ _ ?_
  clear hK K
  refine wpTill_take (i := 11) (v := ?vq11) rfl (by kernel_rfl) (fun _ _ _ h => h) (Or.inl ⟨by rfl, ?hyq11⟩) hs6 ?restq11
  case hyq11 => (intro W hW; (try dsimp only at hW); go_simp; try with_reducible rfl)
  simp only [Act.put, List.setIfInBounds_toArray, List.set_cons_zero, List.set_cons_succ]
  refine wpTill_take (i := 12) (v := ?vq12) rfl (by kernel_rfl) (fun _ _ _ h => h) (Or.inl ⟨by rfl, ?hyq12⟩) hs6 ?restq12
  case hyq12 => (intro W hW; (try dsimp only at hW); go_simp; try with_reducible rfl)
  simp only [Act.put, List.setIfInBounds_toArray, List.set_cons_zero, List.set_cons_succ]
  refine wpTill_run (i := 13) (by kernel_rfl) rfl hs6 (fun K hK => ?_)
  go_simp
  go_at_call 8
  refine (awake_c w6 (HL.out.to (HH2.out.to hs6).be)).mono ?_
  rintro E w7 ⟨rfl, hb7⟩
  have hs7 := G.on_step hs6 hb7
  clear hb7
  refine hK _ _ ?_
  clear hK K
  refine wpTill_take (i := 14) (v := ?vq14) rfl (by kernel_rfl) (fun _ _ _ h => h) (Or.inl ⟨by rfl, ?hyq14⟩) hs7 ?restq14
  case hyq14 => (intro W hW; (try dsimp only at hW); go_simp; try with_reducible rfl)
  simp only [Act.put, List.setIfInBounds_toArray, List.set_cons_zero, List.set_cons_succ]
  refine wpTill_run (i := 15) (by kernel_rfl) rfl hs7 (fun K hK => ?_)
  go_simp
  refine hK _ _ ?_
  clear hK K
  refine wpTill_done (by kernel_rfl) ?_
  have HS7 := Lib.hid hs7
  clear hs0 hs3 hs4 hs5 hs6 hs7 a1 a2
  go_wp2
  go_ret
  exact ⟨rfl, (HH2.out.to HS7.out).be⟩
end Go.Proofs.YtgmbdadkahcpcaaDoor
