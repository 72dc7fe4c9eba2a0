/- The chapter's manifest; awake: some of the chapter's answers. -/
import Derived.Test.YtakejacamkdncaaGreatDoorMm
namespace Go.Proofs.YtakejacamkdncaaGreatDoor
open Go.RowKit
set_option linter.unusedVariables false
set_option linter.unusedSimpArgs false
set_option maxRecDepth 20000

def m1 : Mf := ⟨1, 0, [(1, 0)], []⟩
theorem m1_ok : m1.ok = true := by decide
theorem m1_fit : m1.fit := ⟨by decide, by decide, (fun p h => by simp [m1] at h; subst h; decide), (fun c h => by simp [m1] at h)⟩
theorem m1_len : (enc m1).length = 33 := by unfold enc; rw [frm_len, pay_len]; rfl
theorem mz_no : mz.ok = false := by decide
section
attribute [local go_sem ↓] st_man
theorem one_c (w : World) : Calls Tryz.prog 22 #[] w (MadePost w m1) := by
  have H0 := Loc.one w 34 (mcs mz none 0 none 0)
  obtain ⟨Q, hQ⟩ : ∃ Q, Q = MadePost w m1 := ⟨_, rfl⟩
  rw [← hQ]
  have HQ := Lib.hid hQ
  clear hQ
  go_enter Tryz.func22, Tryz.ntmps22
  go_upto_region 1 with fail
  rw [show (#[.int .u64 0, .int .u8 0, .slice none 0 0, .slice none 0 0] : Array Value) = mcs mz none 0 none 0 from rfl]
  generalize w.alloc (.cells (mcs mz none 0 none 0) 34) = wa at *
  have H1 := H0.more 61 #[.int .u64 1, .int .u64 0]
  obtain ⟨w2, s2, H2, q2⟩ := H1.stA ty_man 0 rfl 0 #[.int .u64 1, .int .u8 0, .slice (some ⟨wa.heap.size, 0, none⟩) 1 1, .slice none 0 0] (cs' := mcs m1 (some ⟨wa.heap.size, 0, none⟩) 1 none 0) rfl (L' := [(w.heap.size, 34, mcs m1 (some ⟨wa.heap.size, 0, none⟩) 1 none 0), (wa.heap.size, 61, #[.int .u64 1, .int .u64 0])]) rfl (Nat.le_of_ble_eq_true rfl) rfl rfl
  have hps : PsAt w2 (some ⟨wa.heap.size, 0, none⟩) m1.sg := fun k hk => by
    have hk0 : k = 0 := by simp [m1] at hk; exact hk
    subst hk0
    refine ⟨wa.heap.size, 0, rfl, fun i v hv => ?_⟩
    rw [(H2.get 1 rfl).cell]
    match i, hv with
    | 0, hv => exact hv
    | 1, hv => exact hv
  have AT := Lib.hid (show MfAt w2 m1 (some ⟨wa.heap.size, 0, none⟩) none from ⟨m1_fit, hps, NsAt.nil _ _, by decide, by decide⟩)
  clear hps q2
  go_wp2
  refine bodyPost_ret (ret_struct Tryz.underlying34 ty_man _ 0 _ Tryz.results22 (H2.get 0 rfl) rfl rfl) rfl ?_
  rw [HQ.out]
  exact ⟨_, _, _, _, rfl, AT.out, H2.be⟩
end
section
attribute [local go_sem ↓] ld_man st_man
set_option maxHeartbeats 8000000 in
theorem awake_c (w : World) (ht : Tab w) : Calls Tryz.prog 6 #[] w fun R w' => R = .returned (.bool true) ∧ Below w.heap.size w w' := by
  have HT := Lib.hid ht
  have HP : Hid (∀ W so sc co cc, MfAt W m1 so co → Tab W → Calls Tryz.prog 25 #[.agg (mcs m1 so sc co cc)] W fun R w' => R = .returned (.tuple #[.string (str (enc m1)), .int .i64 0]) ∧ Below W.heap.size W w') := fun W so sc co cc h ht => by
    have := mput_c m1 so sc co cc W h ht
    unfold PtPost at this
    rw [(pt_yes m1_ok).1, (pt_yes m1_ok).2] at this
    exact this
  have HK : Hid (∀ W, Tab W → Calls Tryz.prog 26 #[.string (str (enc m1))] W (ManPost W m1 0)) := fun W ht => by
    have := mtake_c (enc m1) W (by rw [m1_len]; omega) ht
    rw [(tk_enc m1_fit m1_ok).1, (tk_enc m1_fit m1_ok).2] at this
    exact this
  have HC : Hid (∀ W, Calls Tryz.prog 23 #[.agg #[.int .u64 0, .int .u8 0, .slice none 0 0, .slice none 0 0]] W fun R w' => R = .returned (.int .i64 4) ∧ Below W.heap.size W w') := fun W => by
    have := mcheck_c mz none 0 none 0 W (mz_at W)
    rw [(pt_no mz_no).2] at this
    exact this
  have hsz : (str (enc m1)).size = 33 := by rw [str_size, m1_len]
  obtain ⟨x, hx⟩ : ∃ x, x = str (enc m1) := ⟨_, rfl⟩
  rw [← hx] at HP HK hsz
  have HSM : Hid (∀ (a : Mf) W so sc co cc so2 sc2 co2 cc2, MfAt W a so co → MfAt W a so2 co2 → Calls Tryz.prog 27 #[.agg (mcs a so sc co cc), .agg (mcs a so2 sc2 co2 cc2)] W fun R w' => R = .returned (.bool true) ∧ Below W.heap.size W w') := fun a W so sc co cc so2 sc2 co2 cc2 h1 h2 => by
    have := same_c a a so sc co cc so2 sc2 co2 cc2 W h1 h2
    rw [smB_self] at this
    exact this
  clear hx ht
  go_enter Tryz.func6, Tryz.ntmps6
  go_wp2_with fail
  refine (one_c w).mono ?_
  rintro R w1 ⟨so, sc, co, cc, rfl, hm1, hb1⟩
  go_wp2_with fail
  refine (HP.out w1 so sc co cc hm1 (tab_below HT.out hb1)).mono ?_
  rintro R w2 ⟨rfl, hb2⟩
  have hB2 := hb1.trans (hb2.mono hb1.size)
  go_wp2_with fail
  refine (HK.out w2 (tab_below HT.out hB2)).mono ?_
  rintro R w3 ⟨so3, sc3, co3, cc3, rfl, hm3, hb3, -⟩
  have HB3 := Lib.hid (hB2.trans (hb3.mono hB2.size))
  have L3 := Loc.nil (B := w.heap.size) (w := w3) HB3.out.size
  obtain ⟨g3, w4, z4, s4, H4, q4⟩ := L3.newA ty_man #[.int .u64 0, .int .u8 0, .slice none 0 0, .slice none 0 0] (mcs m1 so3 sc3 co3 cc3) rfl rfl rfl
  have A4 := Lib.hid (hm3.to (below_of_grown q4))
  have HB4 := Lib.hid (HB3.out.trans ((below_of_grown q4).mono HB3.out.size))
  clear hb1 hb2 hb3 hB2 hm1 hm3 q4 L3 HB3
  go_upto_region 3 with fail
  clear s4 z4
  have a1 := H4.onA ty_man 0 rfl 0 (vs := mcs m1 so3 sc3 co3 cc3) rfl (Nat.le_of_ble_eq_true rfl)
  have o0 : G.On w4.heap.size w4 w4.drew := (Below.refl _ w4).drew
  refine wp_region_till (S := fun W => G.On w4.heap.size w4 W) (by kernel_rfl) ?_
  refine wpTill_take (i := 0) (v := ?vq1) rfl (by kernel_rfl) (fun _ _ _ h => h) (Or.inl ⟨by rfl, ?hq1⟩) o0 ?rq1
  case hq1 => (intro W hW; (try dsimp only at hW); go_simp; try with_reducible rfl)
  simp only [Act.put, List.setIfInBounds_toArray, List.set_cons_zero, List.set_cons_succ, List.getElem_toArray, List.getElem_cons_succ, List.getElem_cons_zero]
  refine wpTill_take (i := 1) (v := ?vq2) rfl (by kernel_rfl) (fun _ _ _ h => h) (Or.inl ⟨by rfl, ?hq2⟩) o0 ?rq2
  case hq2 => (intro W hW; (try dsimp only at hW); go_simp; try with_reducible rfl)
  simp only [Act.put, List.setIfInBounds_toArray, List.set_cons_zero, List.set_cons_succ, List.getElem_toArray, List.getElem_cons_succ, List.getElem_cons_zero]
  refine wpTill_take (i := 2) (v := ?vq3) rfl (by kernel_rfl) (fun _ _ _ h => h) (Or.inl ⟨by rfl, ?hq3⟩) o0 ?rq3
  case hq3 => (intro W hW; (try dsimp only at hW); go_simp; try with_reducible rfl)
  simp only [Act.put, List.setIfInBounds_toArray, List.set_cons_zero, List.set_cons_succ, List.getElem_toArray, List.getElem_cons_succ, List.getElem_cons_zero]
  refine wpTill_take (i := 3) (v := ?vq4) rfl (by kernel_rfl) (fun _ _ _ h => h) (Or.inl ⟨by rfl, ?hq4⟩) o0 ?rq4
  case hq4 => (intro W hW; (try dsimp only at hW); go_simp; try with_reducible rfl)
  simp only [Act.put, List.setIfInBounds_toArray, List.set_cons_zero, List.set_cons_succ, List.getElem_toArray, List.getElem_cons_succ, List.getElem_cons_zero]
  refine wpTill_take (i := 4) (v := ?vq5) rfl (by kernel_rfl) (fun _ _ _ h => h) (Or.inl ⟨by rfl, ?hq5⟩) o0 ?rq5
  case hq5 => (intro W hW; (try dsimp only at hW); go_simp; try with_reducible rfl)
  simp only [Act.put, List.setIfInBounds_toArray, List.set_cons_zero, List.set_cons_succ, List.getElem_toArray, List.getElem_cons_succ, List.getElem_cons_zero]
  refine wpTill_take (i := 5) (v := ?vq6) rfl (by kernel_rfl) (fun _ _ _ h => h) (Or.inl ⟨by rfl, ?hq6⟩) o0 ?rq6
  case hq6 => (intro W hW; (try dsimp only at hW); go_simp; try with_reducible rfl)
  simp only [Act.put, List.setIfInBounds_toArray, List.set_cons_zero, List.set_cons_succ, List.getElem_toArray, List.getElem_cons_succ, List.getElem_cons_zero]
  refine wpTill_take (i := 6) (v := ?vq7) rfl (by kernel_rfl) (fun _ _ _ h => h) (Or.inl ⟨by rfl, ?hq7⟩) o0 ?rq7
  case hq7 => (intro W hW; (try dsimp only at hW); go_simp; try with_reducible rfl)
  simp only [Act.put, List.setIfInBounds_toArray, List.set_cons_zero, List.set_cons_succ, List.getElem_toArray, List.getElem_cons_succ, List.getElem_cons_zero]
  refine wpTill_take (i := 7) (v := ?vq8) rfl (by kernel_rfl) (fun _ _ _ h => h) (Or.inl ⟨by rfl, ?hq8⟩) o0 ?rq8
  case hq8 => (intro W hW; (try dsimp only at hW); go_simp; try with_reducible rfl)
  simp only [Act.put, List.setIfInBounds_toArray, List.set_cons_zero, List.set_cons_succ, List.getElem_toArray, List.getElem_cons_succ, List.getElem_cons_zero]
  refine wpTill_take (i := 8) (v := ?vq9) rfl (by kernel_rfl) (fun _ _ _ h => h) (Or.inl ⟨by rfl, ?hq9⟩) o0 ?rq9
  case hq9 => (intro W hW; (try dsimp only at hW); go_simp; try with_reducible rfl)
  simp only [Act.put, List.setIfInBounds_toArray, List.set_cons_zero, List.set_cons_succ, List.getElem_toArray, List.getElem_cons_succ, List.getElem_cons_zero]
  refine wpTill_take (i := 9) (v := ?vq10) rfl (by kernel_rfl) (fun _ _ _ h => h) (Or.inl ⟨by rfl, ?hq10⟩) o0 ?rq10
  case hq10 => (intro W hW; (try dsimp only at hW); go_simp; try with_reducible rfl)
  simp only [Act.put, List.setIfInBounds_toArray, List.set_cons_zero, List.set_cons_succ, List.getElem_toArray, List.getElem_cons_succ, List.getElem_cons_zero]
  refine wpTill_take (i := 10) (v := ?vq11) rfl (by kernel_rfl) (fun _ _ _ h => h) (Or.inl ⟨by rfl, ?hq11⟩) o0 ?rq11
  case hq11 => (intro W hW; (try dsimp only at hW); go_simp; try with_reducible rfl)
  simp only [Act.put, List.setIfInBounds_toArray, List.set_cons_zero, List.set_cons_succ, List.getElem_toArray, List.getElem_cons_succ, List.getElem_cons_zero]
  refine wpTill_take (i := 11) (v := ?vq12) rfl (by kernel_rfl) (fun _ _ _ h => h) (Or.inl ⟨by rfl, ?hq12⟩) o0 ?rq12
  case hq12 => (intro W hW; (try dsimp only at hW); go_simp; try with_reducible rfl)
  simp only [Act.put, List.setIfInBounds_toArray, List.set_cons_zero, List.set_cons_succ, List.getElem_toArray, List.getElem_cons_succ, List.getElem_cons_zero]
  refine wpTill_take (i := 12) (v := ?vq13) rfl (by kernel_rfl) (fun _ _ _ h => h) (Or.inl ⟨by rfl, ?hq13⟩) o0 ?rq13
  case hq13 => (intro W hW; (try dsimp only at hW); go_simp; try with_reducible rfl)
  simp only [Act.put, List.setIfInBounds_toArray, List.set_cons_zero, List.set_cons_succ, List.getElem_toArray, List.getElem_cons_succ, List.getElem_cons_zero]
  refine wpTill_run (i := 13) (by kernel_rfl) rfl o0 (fun K hK => ?_)
  go_simp
  go_at_call 22
  refine (one_c _).mono ?_
  rintro R w5 ⟨so5, sc5, co5, cc5, rfl, hm5, hb5⟩
  have o5 := G.on_step (wd := w4) o0 hb5
  refine hK _ _ ?_
  clear hK K
  refine wpTill_run (i := 14) (by kernel_rfl) rfl o5 (fun K hK => ?_)
  go_simp
  go_at_call 27
  refine (HSM.out m1 w5 so3 sc3 co3 cc3 so5 sc5 co5 cc5 (A4.out.to o5) hm5).mono ?_
  rintro R w6 ⟨rfl, hb6⟩
  have o6 := G.on_step (wd := w4) o5 hb6
  refine hK _ _ ?_
  clear hK K
  refine wpTill_take (i := 15) (v := ?vq14) rfl (by kernel_rfl) (fun _ _ _ h => h) (Or.inl ⟨by rfl, ?hq14⟩) o6 ?rq14
  case hq14 => (intro W hW; (try dsimp only at hW); go_simp; try with_reducible rfl)
  simp only [Act.put, List.setIfInBounds_toArray, List.set_cons_zero, List.set_cons_succ, List.getElem_toArray, List.getElem_cons_succ, List.getElem_cons_zero]
  refine wpTill_take (i := 16) (v := ?vq15) rfl (by kernel_rfl) (fun _ _ _ h => h) (Or.inl ⟨by rfl, ?hq15⟩) o6 ?rq15
  case hq15 => (intro W hW; (try dsimp only at hW); go_simp; try with_reducible rfl)
  simp only [Act.put, List.setIfInBounds_toArray, List.set_cons_zero, List.set_cons_succ, List.getElem_toArray, List.getElem_cons_succ, List.getElem_cons_zero]
  refine wpTill_take (i := 17) (v := ?vq16) rfl (by kernel_rfl) (fun _ _ _ h => h) (Or.inl ⟨by rfl, ?hq16⟩) o6 ?rq16
  case hq16 => (intro W hW; (try dsimp only at hW); go_simp; try with_reducible rfl)
  simp only [Act.put, List.setIfInBounds_toArray, List.set_cons_zero, List.set_cons_succ, List.getElem_toArray, List.getElem_cons_succ, List.getElem_cons_zero]
  refine wpTill_run (i := 18) (by kernel_rfl) rfl o6 (fun K hK => ?_)
  go_simp
  go_at_call 23
  refine (HC.out _).mono ?_
  rintro R w7 ⟨rfl, hb7⟩
  have o7 := G.on_step (wd := w4) o6 hb7
  refine hK _ _ ?_
  clear hK K
  refine wpTill_take (i := 19) (v := ?vq17) rfl (by kernel_rfl) (fun _ _ _ h => h) (Or.inl ⟨by rfl, ?hq17⟩) o7 ?rq17
  case hq17 => (intro W hW; (try dsimp only at hW); go_simp; try with_reducible rfl)
  simp only [Act.put, List.setIfInBounds_toArray, List.set_cons_zero, List.set_cons_succ, List.getElem_toArray, List.getElem_cons_succ, List.getElem_cons_zero]
  refine wpTill_take (i := 20) (v := ?vq18) rfl (by kernel_rfl) (fun _ _ _ h => h) (Or.inl ⟨by rfl, ?hq18⟩) o7 ?rq18
  case hq18 => (intro W hW; (try dsimp only at hW); go_simp; try with_reducible rfl)
  simp only [Act.put, List.setIfInBounds_toArray, List.set_cons_zero, List.set_cons_succ, List.getElem_toArray, List.getElem_cons_succ, List.getElem_cons_zero]
  refine wpTill_run (i := 21) (by kernel_rfl) rfl o7 (fun K hK => ?_)
  go_simp
  refine hK _ _ ?_
  clear hK K
  refine wpTill_done (by kernel_rfl) ?_
  have O7 := Lib.hid (HB4.out.trans (Below.mono o7 HB4.out.size))
  clear o0 o5 o6 o7 a1
  go_wp2
  go_ret
  exact ⟨rfl, O7.out⟩
end
end Go.Proofs.YtakejacamkdncaaGreatDoor
