/- ManifestPuts, ManifestTakes, ManifestBack: the walks. Nothing is assumed beyond the bounds of the row's own types. -/
import Derived.Test.YtakejacamkdncaaDoorMr
import Derived.Test.YtakejacamkdncaaDoorMn
namespace Go.Proofs.YtakejacamkdncaaDoor
open Go.RowKit
set_option linter.unusedVariables false
set_option linter.unusedSimpArgs false
set_option maxRecDepth 20000
attribute [local go_sem ↓] ld_man st_man ld_rman st_rman

theorem tkM_lens (s : List UInt8) : (tkM s).sg.length < 256 ∧ (tkM s).ck.length < 256 := by
  unfold tkM
  (repeat' split) <;> first | exact rdM_lens _ | exact ⟨by decide, by decide⟩
theorem fewB_no {m : Mf} (h : fewB m = true) : m.sg.length ≤ 50 ∧ m.ck.length ≤ 50 := by simpa [fewB] using h
set_option maxHeartbeats 4000000 in
theorem law_puts (m : Mf) (so : Option Addr) (sc : Nat) (co : Option Addr) (cc : Nat) (w : World) (h : MfAt w m so co) (hn : co = none → cc = 0) (ht : Tab w) :
    Calls Tryd.prog 3 #[.agg (mcs m so sc co cc)] w fun E w' => E = .returned (.bool true) ∧ Below w.heap.size w w' := by
  have H0 := Loc.one w 26 (mcs m so sc co cc)
  have HA := Lib.hid h
  have HN := Lib.hid hn
  have HT := Lib.hid ht
  obtain ⟨z, hz⟩ : ∃ z, z = fewB m := ⟨_, rfl⟩
  have HF := fun W => few_c m so sc co cc W h.l1 h.l2
  rw [← hz] at HF
  have HZ := Lib.hid hz
  clear hz h hn ht
  go_enter Tryd.func3, Tryd.ntmps3
  go_upto_region 1 with fail
  generalize w.alloc (.cells (mcs m so sc co cc) 26) = wa at *
  have l0 := H0.ldA ty_man 0 rfl 0 (vs := mcs m so sc co cc) rfl (Nat.le_of_ble_eq_true rfl)
  go_wp2_with fail
  refine (HF wa).mono ?_
  rintro R w1 ⟨rfl, hb1⟩
  have H1 := H0.to hb1
  clear HF l0 hb1 H0
  cases z
  · go_wp2_with fail
    refine (awake_c w1 (tab_below HT.out H1.be)).mono ?_
    rintro R w2 ⟨rfl, hb2⟩
    go_wp2
    go_ret
    exact ⟨rfl, (H1.to hb2).be⟩
  · have HL := Lib.hid (fewB_no HZ.out.symm)
    have l1 := H1.ldA ty_man 0 rfl 0 (vs := mcs m so sc co cc) rfl (Nat.le_of_ble_eq_true rfl)
    go_wp2_with fail
    refine (mput_c m so sc co cc w1 (HA.out.to H1.be) (tab_below HT.out H1.be)).mono ?_
    rintro R w2 ⟨rfl, hb2⟩
    have H2 := H1.to hb2
    clear l1 hb2 H1
    have l2 := H2.ldA ty_man 0 rfl 0 (vs := mcs m so sc co cc) rfl (Nat.le_of_ble_eq_true rfl)
    go_wp2_with fail
    refine (theirs_c m so sc co cc w2 (HA.out.to H2.be) HN.out (by have := HL.out; omega) (by have := HL.out; omega)).mono ?_
    rintro R w3 ⟨so3, sc3, co3, cc3, rfl, hm3, hb3⟩
    have H3 := H2.to hb3
    clear l2 hb3 H2
    go_wp2_with fail
    refine (rput_c m so3 sc3 co3 cc3 w3 hm3).mono ?_
    rintro R w4 ⟨rfl, hb4⟩
    have H4 := H3.to hb4
    clear hb4 H3 hm3
    have l4 := H4.ldA ty_man 0 rfl 0 (vs := mcs m so sc co cc) rfl (Nat.le_of_ble_eq_true rfl)
    have HC := mcheck_c m so sc co cc w4 (HA.out.to H4.be)
    obtain ⟨S, hS⟩ : ∃ S, S = ptS m := ⟨_, rfl⟩
    obtain ⟨e, he⟩ : ∃ e, e = ptE m := ⟨_, rfl⟩
    rw [← he] at HC
    rw [← hS, ← he]
    clear hS he
    have hq1 := str_yes2' S
    go_wp2_with fail
    refine HC.mono ?_
    rintro R w5 ⟨rfl, hb5⟩
    have H5 := H4.to hb5
    clear l4 hb5 H4 HC
    go_wp2_with fail
    refine (awake_c w5 (tab_below HT.out H5.be)).mono ?_
    rintro R w6 ⟨rfl, hb6⟩
    go_wp2
    go_ret
    exact ⟨rfl, (H5.to hb6).be⟩
set_option maxHeartbeats 4000000 in
theorem law_takes (s : List UInt8) (w : World) (hs : s.length ≤ maxLen) (ht : Tab w) :
    Calls Tryd.prog 4 #[.string (str s)] w fun E w' => E = .returned (.bool true) ∧ Below w.heap.size w w' := by
  have hsz := str_size s
  have HT := Lib.hid ht
  simp only [maxLen] at hs
  clear ht
  by_cases h6 : 6000 < s.length
  · have i6 : (6000 : Int) < (s.length : Int) := by omega
    clear h6
    go_enter Tryd.func4, Tryd.ntmps4
    go_wp2_with fail
    refine (awake_c w HT.out).mono ?_
    rintro R w2 ⟨rfl, hb2⟩
    go_wp2
    go_ret
    exact ⟨rfl, hb2⟩
  · have i6 : ¬ (6000 : Int) < (s.length : Int) := by omega
    have HS := Lib.hid (show s.length ≤ 6000 by omega)
    have KT : Hid (∀ W, Tab W → Calls Tryd.prog 12 #[.string (str s)] W (ManPost W (tkM s) (tkE s))) := fun W hW => mtake_c s W (by have := HS.out; omega) hW
    have KR : Hid (∀ W, Calls Tryd.prog 13 #[.string (str s)] W (ManPost W (tkM s) (tkE s))) := fun W => rtake_c s W (by have := HS.out; omega)
    have HLN := Lib.hid (tkM_lens s)
    obtain ⟨m, hm⟩ : ∃ m, m = tkM s := ⟨_, rfl⟩
    obtain ⟨e, he⟩ : ∃ e, e = tkE s := ⟨_, rfl⟩
    rw [← hm] at HLN KT KR
    rw [← he] at KT KR
    clear hm he h6
    go_enter Tryd.func4, Tryd.ntmps4
    go_wp2_with fail
    refine (KT.out w HT.out).mono ?_
    rintro R w1 ⟨so, sc, co, cc, rfl, hm1, hb1, -, -, hn1⟩
    have HN := Lib.hid hn1
    have L1 := (Loc.nil (B := w.heap.size) (w := w) (Nat.le_refl _)).to hb1
    obtain ⟨g2, w2, z2, s2, H2, q2⟩ := L1.newA ty_man #[.int .u64 0, .int .u8 0, .slice none 0 0, .slice none 0 0] (mcs m so sc co cc) rfl rfl rfl
    have A2 := Lib.hid (hm1.to (below_of_grown q2))
    clear hb1 hm1 hn1 q2 L1
    go_wp2_with fail
    clear s2 z2
    refine (KR.out w2).mono ?_
    rintro R w3 ⟨so3, sc3, co3, cc3, rfl, hm3, hb3, -⟩
    have A3 := Lib.hid (A2.out.to hb3)
    have H3 := H2.to hb3
    obtain ⟨g4, w4, z4, s4, H4, q4⟩ := H3.newA ty_rman #[.int .u64 0, .int .u8 0, .slice none 0 0, .slice none 0 0] (mcs m so3 sc3 co3 cc3) rfl rfl rfl
    replace H4 : Loc _ _ _ [(g2, 26, mcs m so sc co cc), (g4, 36, mcs m so3 sc3 co3 cc3)] := H4
    have A4 := Lib.hid (A3.out.to (below_of_grown q4))
    have B4 := Lib.hid (hm3.to (below_of_grown q4))
    clear hb3 hm3 q4 H3 A2 A3 H2
    go_upto_region 5 with fail
    clear s4 z4
    have a1 := H4.onA ty_man 0 rfl 0 (vs := mcs m so sc co cc) rfl (Nat.le_of_ble_eq_true rfl)
    have a2 := H4.onA ty_rman 1 rfl 0 (vs := mcs m so3 sc3 co3 cc3) rfl (Nat.le_of_ble_eq_true rfl)
    have o0 : G.On w4.heap.size w4 w4.drew := (Below.refl _ w4).drew
    refine wp_region_till (S := fun W => G.On w4.heap.size w4 W) (by kernel_rfl) ?_
    refine wpTill_take (i := 0) (v := ?vq1) rfl (by kernel_rfl) (fun _ _ _ h => h) (Or.inl ⟨by rfl, ?hq1⟩) o0 ?rq1
    case hq1 => (intro W hW; (try dsimp only at hW); go_simp; try with_reducible rfl)
    simp only [Act.put, List.setIfInBounds_toArray, List.set_cons_zero, List.set_cons_succ, List.getElem_toArray, List.getElem_cons_succ, List.getElem_cons_zero]
    refine wpTill_take (i := 2) (v := ?vq2) rfl (by kernel_rfl) (fun _ _ _ h => h) (Or.inl ⟨by rfl, ?hq2⟩) o0 ?rq2
    case hq2 => (intro W hW; (try dsimp only at hW); go_simp; try with_reducible rfl)
    simp only [Act.put, List.setIfInBounds_toArray, List.set_cons_zero, List.set_cons_succ, List.getElem_toArray, List.getElem_cons_succ, List.getElem_cons_zero]
    refine wpTill_run (i := 1) (by kernel_rfl) rfl o0 (fun K hK => ?_)
    go_simp
    go_at_call 10
    refine (theirs_c m so sc co cc _ (A4.out.to o0) HN.out (by have := HLN.out; omega) (by have := HLN.out; omega)).mono ?_
    rintro R w5 ⟨so5, sc5, co5, cc5, rfl, hm5, hb5⟩
    have o5 := G.on_step (wd := w4) o0 hb5
    refine hK _ _ ?_
    clear hK K
    refine wpTill_run (i := 3) (by kernel_rfl) rfl o5 (fun K hK => ?_)
    go_simp
    go_at_call 14
    refine (rsame_c m m so5 sc5 co5 cc5 so3 sc3 co3 cc3 w5 hm5 (B4.out.to o5)).mono ?_
    rintro R w6 ⟨rfl, hb6⟩
    rw [smB_self]
    have o6 := G.on_step (wd := w4) o5 hb6
    refine hK _ _ ?_
    clear hK K
    refine wpTill_take (i := 4) (v := ?vq3) rfl (by kernel_rfl) (fun _ _ _ h => h) (Or.inl ⟨by rfl, ?hq3⟩) o6 ?rq3
    case hq3 => (intro W hW; (try dsimp only at hW); go_simp; try with_reducible rfl)
    simp only [Act.put, List.setIfInBounds_toArray, List.set_cons_zero, List.set_cons_succ, List.getElem_toArray, List.getElem_cons_succ, List.getElem_cons_zero]
    refine wpTill_take (i := 5) (v := ?vq4) rfl (by kernel_rfl) (fun _ _ _ h => h) (Or.inl ⟨by rfl, ?hq4⟩) o6 ?rq4
    case hq4 => (intro W hW; (try dsimp only at hW); go_simp; try with_reducible rfl)
    simp only [Act.put, List.setIfInBounds_toArray, List.set_cons_zero, List.set_cons_succ, List.getElem_toArray, List.getElem_cons_succ, List.getElem_cons_zero]
    refine wpTill_take (i := 6) (v := ?vq5) rfl (by kernel_rfl) (fun _ _ _ h => h) (Or.inl ⟨by rfl, ?hq5⟩) o6 ?rq5
    case hq5 => (intro W hW; (try dsimp only at hW); go_simp; try with_reducible rfl)
    simp only [Act.put, List.setIfInBounds_toArray, List.set_cons_zero, List.set_cons_succ, List.getElem_toArray, List.getElem_cons_succ, List.getElem_cons_zero]
    refine wpTill_take (i := 7) (v := ?vq6) rfl (by kernel_rfl) (fun _ _ _ h => h) (Or.inl ⟨by rfl, ?hq6⟩) o6 ?rq6
    case hq6 => (intro W hW; (try dsimp only at hW); go_simp; try with_reducible rfl)
    simp only [Act.put, List.setIfInBounds_toArray, List.set_cons_zero, List.set_cons_succ, List.getElem_toArray, List.getElem_cons_succ, List.getElem_cons_zero]
    refine wpTill_take (i := 8) (v := ?vq7) rfl (by kernel_rfl) (fun _ _ _ h => h) (Or.inl ⟨by rfl, ?hq7⟩) o6 ?rq7
    case hq7 => (intro W hW; (try dsimp only at hW); go_simp; try with_reducible rfl)
    simp only [Act.put, List.setIfInBounds_toArray, List.set_cons_zero, List.set_cons_succ, List.getElem_toArray, List.getElem_cons_succ, List.getElem_cons_zero]
    refine wpTill_take (i := 9) (v := ?vq8) rfl (by kernel_rfl) (fun _ _ _ h => h) (Or.inl ⟨by rfl, ?hq8⟩) o6 ?rq8
    case hq8 => (intro W hW; (try dsimp only at hW); go_simp; try with_reducible rfl)
    simp only [Act.put, List.setIfInBounds_toArray, List.set_cons_zero, List.set_cons_succ, List.getElem_toArray, List.getElem_cons_succ, List.getElem_cons_zero]
    refine wpTill_run (i := 10) (by kernel_rfl) rfl o6 (fun K hK => ?_)
    go_simp
    go_at_call 7
    refine (awake_c w6 (tab_below HT.out (H4.to o6).be)).mono ?_
    rintro R w7 ⟨rfl, hb7⟩
    have o7 := G.on_step (wd := w4) o6 hb7
    refine hK _ _ ?_
    clear hK K
    refine wpTill_take (i := 11) (v := ?vq9) rfl (by kernel_rfl) (fun _ _ _ h => h) (Or.inl ⟨by rfl, ?hq9⟩) o7 ?rq9
    case hq9 => (intro W hW; (try dsimp only at hW); go_simp; try with_reducible rfl)
    simp only [Act.put, List.setIfInBounds_toArray, List.set_cons_zero, List.set_cons_succ, List.getElem_toArray, List.getElem_cons_succ, List.getElem_cons_zero]
    refine wpTill_run (i := 12) (by kernel_rfl) rfl o7 (fun K hK => ?_)
    go_simp
    refine hK _ _ ?_
    clear hK K
    refine wpTill_done (by kernel_rfl) ?_
    have O7 := Lib.hid (H4.to o7).be
    clear o0 o5 o6 o7 a1 a2
    go_wp2
    go_ret
    exact ⟨rfl, O7.out⟩
set_option maxHeartbeats 8000000 in
theorem law_back (m : Mf) (so : Option Addr) (sc : Nat) (co : Option Addr) (cc : Nat) (s : List UInt8) (w : World) (h : MfAt w m so co) (hs : s.length ≤ maxLen) (ht : Tab w) :
    Calls Tryd.prog 5 #[.agg (mcs m so sc co cc), .string (str s)] w fun E w' => E = .returned (.bool true) ∧ Below w.heap.size w w' := by
  have H0 := Loc.one w 26 (mcs m so sc co cc)
  have HA := Lib.hid h
  have HT := Lib.hid ht
  have hsz := str_size s
  simp only [maxLen] at hs
  obtain ⟨z, hz⟩ : ∃ z, z = fewB m := ⟨_, rfl⟩
  have HF := fun W => few_c m so sc co cc W h.l1 h.l2
  rw [← hz] at HF
  have HZ := Lib.hid hz
  clear hz h ht
  go_enter Tryd.func5, Tryd.ntmps5
  go_upto_region 1 with fail
  generalize w.alloc (.cells (mcs m so sc co cc) 26) = wa at *
  have l0 := H0.ldA ty_man 0 rfl 0 (vs := mcs m so sc co cc) rfl (Nat.le_of_ble_eq_true rfl)
  go_wp2_with fail
  refine (HF wa).mono ?_
  rintro R w1 ⟨rfl, hb1⟩
  have H1 := H0.to hb1
  clear HF l0 hb1 H0
  cases z
  · go_wp2_with fail
    refine (awake_c w1 (tab_below HT.out H1.be)).mono ?_
    rintro R w2 ⟨rfl, hb2⟩
    go_wp2
    go_ret
    exact ⟨rfl, (H1.to hb2).be⟩
  by_cases h6 : 6000 < s.length
  · have i6 : (6000 : Int) < (s.length : Int) := by omega
    clear h6
    go_wp2_with fail
    refine (awake_c w1 (tab_below HT.out H1.be)).mono ?_
    rintro R w2 ⟨rfl, hb2⟩
    go_wp2
    go_ret
    exact ⟨rfl, (H1.to hb2).be⟩
  have i6 : ¬ (6000 : Int) < (s.length : Int) := by omega
  have HS := Lib.hid (show s.length ≤ 6000 by omega)
  have KT : Hid (∀ W, Tab W → Calls Tryd.prog 12 #[.string (str s)] W (ManPost W (tkM s) (tkE s))) := fun W hW => mtake_c s W (by have := HS.out; omega) hW
  have l1 := H1.ldA ty_man 0 rfl 0 (vs := mcs m so sc co cc) rfl (Nat.le_of_ble_eq_true rfl)
  clear h6
  go_wp2_with fail
  clear i6
  refine (mput_c m so sc co cc w1 (HA.out.to H1.be) (tab_below HT.out H1.be)).mono ?_
  rintro R w2 ⟨rfl, hb2⟩
  have H2 := H1.to hb2
  clear l1 hb2 H1
  obtain ⟨S, hS⟩ : ∃ S, S = ptS m := ⟨_, rfl⟩
  obtain ⟨e, he⟩ : ∃ e, e = ptE m := ⟨_, rfl⟩
  rw [← hS, ← he]
  have HSE := Lib.hid (And.intro hS he)
  clear hS he
  go_upto_if 28 with fail
  go_cut [] (fun wx => Hid (Loc w.heap.size w wx [(w.heap.size, 26, mcs m so sc co cc)]))
  case first =>
    cases hok : m.ok
    · have hq : ((e : Int) == 0) = false := beq_eq_false_iff_ne.2 (by rw [HSE.out.2, (pt_no hok).2]; decide)
      clear hok
      go_wp2_with fail
      go_meet
      exact H2
    · have hq : ((e : Int) == 0) = true := by rw [HSE.out.2, (pt_yes hok).2]; rfl
      have KE : Hid (∀ W, Tab W → Calls Tryd.prog 12 #[.string (str S)] W (ManPost W m 0)) := fun W hW => by
        have := mtake_c (enc m) W (by have := enc_len hok; omega) hW
        rw [(tk_enc HA.out.fit hok).1, (tk_enc HA.out.fit hok).2] at this
        rw [HSE.out.1, (pt_yes hok).1]
        exact this
      clear hok
      go_wp2_with fail
      refine (KE.out w2 (tab_below HT.out H2.be)).mono ?_
      rintro R w3 ⟨so3, sc3, co3, cc3, rfl, hm3, hb3, -⟩
      have H3 := H2.to hb3
      obtain ⟨g4, w4, z4, s4, H4, q4⟩ := H3.newA ty_man #[.int .u64 0, .int .u8 0, .slice none 0 0, .slice none 0 0] (mcs m so3 sc3 co3 cc3) rfl rfl rfl
      replace H4 : Loc _ _ _ [(w.heap.size, 26, mcs m so sc co cc), (g4, 26, mcs m so3 sc3 co3 cc3)] := H4
      have l4 := H4.ldA ty_man 0 rfl 0 (vs := mcs m so sc co cc) rfl (Nat.le_of_ble_eq_true rfl)
      have l5 := H4.ldA ty_man 1 rfl 0 (vs := mcs m so3 sc3 co3 cc3) rfl (Nat.le_of_ble_eq_true rfl)
      have B4 := Lib.hid (hm3.to (below_of_grown q4))
      clear hm3 hb3 q4 H3
      go_wp2_with fail
      refine (same_c m m so sc co cc so3 sc3 co3 cc3 w4 (HA.out.to H4.be) B4.out).mono ?_
      rintro R w5 ⟨rfl, hb5⟩
      rw [smB_self]
      have H5 := H4.to hb5
      clear l4 l5 s4 z4
      go_wp2_with fail
      go_meet
      exact H5.drop 1 rfl
  case rest =>
    have H3 := hcut
    clear H2 HSE
    go_wp2_with fail
    refine (KT.out _ (tab_below HT.out H3.out.be)).mono ?_
    rintro R w4 ⟨so4, sc4, co4, cc4, rfl, hm4, hb4, -⟩
    have H4 := H3.out.to hb4
    obtain ⟨g5, w5, z5, s5, H5, q5⟩ := H4.newA ty_man #[.int .u64 0, .int .u8 0, .slice none 0 0, .slice none 0 0] (mcs (tkM s) so4 sc4 co4 cc4) rfl rfl rfl
    replace H5 : Loc _ _ _ [(w.heap.size, 26, mcs m so sc co cc), (g5, 26, mcs (tkM s) so4 sc4 co4 cc4)] := H5
    have A5 := Lib.hid (hm4.to (below_of_grown q5))
    have l5 := H5.ldA ty_man 1 rfl 0 (vs := mcs (tkM s) so4 sc4 co4 cc4) rfl (Nat.le_of_ble_eq_true rfl)
    clear hb4 hm4 q5 H4 H3
    by_cases he : tkE s = 0
    · obtain ⟨h1, h2⟩ := tk_one he
      have KP : Hid (∀ W, MfAt W (tkM s) so4 co4 → Tab W → Calls Tryd.prog 8 #[.agg (mcs (tkM s) so4 sc4 co4 cc4)] W fun R w' => R = .returned (.tuple #[.string (str s), .int .i64 0]) ∧ Below W.heap.size W w') := fun W hA ht => by
        have := mput_c (tkM s) so4 sc4 co4 cc4 W hA ht
        unfold PtPost at this
        rw [(pt_yes h1).1, (pt_yes h1).2, h2] at this
        exact this
      rw [he]
      obtain ⟨n, hn⟩ : ∃ n, n = tkM s := ⟨_, rfl⟩
      rw [← hn] at A5 H5 l5 KP s5 ⊢
      clear he h1 h2 hn KT
      go_wp2_with fail
      clear s5 z5
      refine (KP.out w5 A5.out (tab_below HT.out H5.be)).mono ?_
      rintro R w6 ⟨rfl, hb6⟩
      have H6 := H5.to hb6
      have hq1 := str_yes2' s
      clear l5 hb6 H5
      go_wp2_with fail
      refine (awake_c w6 (tab_below HT.out H6.be)).mono ?_
      rintro R w7 ⟨rfl, hb7⟩
      go_wp2
      go_ret
      exact ⟨rfl, (H6.to hb7).be⟩
    · have hbad := tk_bad he
      have hq : (tkE s != 0) = true := by rw [bne_iff_ne]; exact he
      obtain ⟨e, hee⟩ : ∃ e, e = tkE s := ⟨_, rfl⟩
      rw [← hee] at hq ⊢
      rw [hbad] at A5 H5 l5 s5 ⊢
      have KS : Hid (∀ W, MfAt W mz so4 co4 → Calls Tryd.prog 15 #[.agg (mcs mz so4 sc4 co4 cc4), .agg #[.int .u64 0, .int .u8 0, .slice none 0 0, .slice none 0 0]] W fun R w' => R = .returned (.bool true) ∧ Below W.heap.size W w') := fun W hA => by
        have := same_c mz mz so4 sc4 co4 cc4 none 0 none 0 W hA (mz_at W)
        rw [smB_self] at this
        exact this
      clear he hbad hee KT
      go_wp2_with fail
      clear s5 z5
      refine (KS.out w5 A5.out).mono ?_
      rintro R w6 ⟨rfl, hb6⟩
      have H6 := H5.to hb6
      clear l5 hb6 H5
      go_wp2_with fail
      refine (awake_c w6 (tab_below HT.out H6.be)).mono ?_
      rintro R w7 ⟨rfl, hb7⟩
      go_wp2
      go_ret
      exact ⟨rfl, (H6.to hb7).be⟩
end Go.Proofs.YtakejacamkdncaaDoor
