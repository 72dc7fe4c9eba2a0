/- The document's Take: its contract. Conditions: a text of 2^40 bytes at most. -/
import Derived.Test.YtakejacamkdncaaGreatDoorMk
namespace Go.Proofs.YtakejacamkdncaaGreatDoor
open Go.RowKit
set_option linter.unusedVariables false
set_option linter.unusedSimpArgs false
set_option maxRecDepth 20000
attribute [local go_sem ↓] ld_rman st_rman ld_rparts st_rparts ld_nums st_nums
set_option maxHeartbeats 8000000 in
theorem rtake_c (s : List UInt8) (w : World) (hs : s.length ≤ 1099511627776) :
    Calls Tryz.prog 43 #[.string (str s)] w (ManPost w (tkM s) (tkE s)) := by
  have H0 := Loc.one w 48 (mcs mz none 0 none 0)
  have hsz := str_size s
  have HS := Lib.hid hs
  have HPL := Lib.hid (fp_len s)
  obtain ⟨m, hm⟩ : ∃ m, m = tkM s := ⟨_, rfl⟩
  obtain ⟨e, he⟩ : ∃ e, e = tkE s := ⟨_, rfl⟩
  rw [← hm, ← he]
  have HM := Lib.hid hm
  have HE := Lib.hid he
  obtain ⟨Q, hQ⟩ : ∃ Q, Q = ManPost w m e := ⟨_, rfl⟩
  rw [← hQ]
  have HQ := Lib.hid hQ
  clear hQ hm he
  go_enter Tryz.func43, Tryz.ntmps43
  go_upto_region 1 with fail
  rw [show (#[.int .u64 0, .int .u8 0, .slice none 0 0, .slice none 0 0] : Array Value) = mcs mz none 0 none 0 from rfl]
  generalize w.alloc (.cells (mcs mz none 0 none 0) 48) = wa at *
  go_wp2_with fail
  refine (refNext s _ HS.out).mono ?_
  rintro E w1 ⟨rfl, hg1⟩
  have H1 := H0.grown hg1
  clear hg1 H0
  by_cases hf : fe s = 0
  · have hfu : fu s = 6 + (fp s).length := if_pos hf
    have HFU := Lib.hid hfu
    have HD := Lib.hid (d_tkE hf)
    have hE : e = if dYes s then 0 else 4 := by rw [HE.out]; exact HD.out.1
    have hM : m = if dYes s then dM (fp s) else mz := by rw [HM.out]; exact HD.out.2
    have HEE := Lib.hid hE
    have HMM := Lib.hid hM
    have HDY : Hid (dYes s = (decide (6 + (fp s).length = s.length) && ((dM (fp s)).ok && decide (pay (dM (fp s)) = fp s)))) := rfl
    have hq : ((fe s : Int) != 0) = false := by rw [hf]; rfl
    clear hfu hE hM HE HM HD
    obtain ⟨p, hp⟩ : ∃ p, p = fp s := ⟨_, rfl⟩
    rw [← hp] at HFU HMM HPL HDY ⊢
    obtain ⟨u, hu⟩ : ∃ u, u = fu s := ⟨_, rfl⟩
    rw [← hu] at HFU ⊢
    generalize fe s = f0 at *
    clear hp hu hf
    have hs8 := smAt_lt p 8
    have hs9 := smAt_lt p 9
    have hu8 := u8_id hs8
    have hpl : p.length ≤ 1099511627776 := by have := HPL.out; omega
    have HPP := Lib.hid hpl
    obtain ⟨g7, w2, z2, s2, H2, _⟩ := H1.newA ty_rman #[.int .u64 0, .int .u8 0, .slice none 0 0, .slice none 0 0] #[.int .u64 ((nbAt p 0 : Nat) : Int), .int .u8 ((smAt p 8 : Nat) : Int), .slice none 0 0, .slice none 0 0] rfl rfl rfl
    replace H2 : Loc _ _ _ ([(w.heap.size, 48, mcs mz none 0 none 0)] ++ [(g7, 48, mcs ⟨nbAt p 0, smAt p 8, [], []⟩ none 0 none 0)]) := H2
    have G2 := Lib.hid (GS.start (TP := 102) (m := ⟨nbAt p 0, smAt p 8, [], []⟩) H2)
    clear H2 H1
    go_wp2_with fail
    refine (number_i p 0 0 rfl w1 (by omega) HPP.out).mono ?_
    rintro E w' ⟨rfl, rfl⟩
    go_wp2_with fail
    refine (small_i p 8 8 rfl w1 (by omega) HPP.out).mono ?_
    rintro E w' ⟨rfl, rfl⟩
    go_wp2_with fail
    clear s2 hu8 z2
    refine (small_i p 9 9 rfl w2 (by omega) HPP.out).mono ?_
    rintro E w' ⟨rfl, rfl⟩
    obtain ⟨k9, hk9⟩ : ∃ k9, k9 = smAt p 9 := ⟨_, rfl⟩
    have HK : Hid (dK p = min k9 20) := by show _ = _; rw [hk9]; rfl
    rw [← hk9] at hs9 ⊢
    clear hk9 hpl
    obtain ⟨kk, hkk⟩ : ∃ kk, kk = dK p := ⟨_, rfl⟩
    have HKK := Lib.hid hkk
    have hmin : kk = min k9 20 := by rw [hkk]; exact HK.out
    have HMIN := Lib.hid hmin
    clear hkk hmin
    go_wp2
    go_loopw [9, 10] (fun a i wr => ∃ (n : Nat) (so : Option Addr) (sc : Nat), n ≤ kk ∧ i = .int .i64 (n : Int) ∧ a = .int .i64 ((10 + 16 * n : Nat) : Int) ∧ Hid (GS 48 102 w [(w.heap.size, 48, mcs mz none 0 none 0)] g7 ⟨nbAt p 0, smAt p 8, dSg p n, []⟩ so sc none 0 wr)) (fun _ i _ => kk - (intOf i).toNat)
    case atStart => exact ⟨0, none, 0, Nat.zero_le _, rfl, rfl, G2.out⟩
    case round =>
      obtain ⟨n, so, sc, hn, rfl, rfl, HG⟩ := hrel
      clear G2
      obtain ⟨z, hz⟩ : ∃ z, z = decide (n < kk) := ⟨_, rfl⟩
      have HZ := Lib.hid hz
      clear hz
      go_upto_region 8 with fail
      go_cut [37] (fun v wx => v = .bool z ∧ wr = wx)
      case first =>
        have hmn := HMIN.out
        by_cases h1 : n < k9
        · have i1 : (n : Int) < (k9 : Int) := by omega
          by_cases h2 : n < 20
          · have i2 : (n : Int) < 20 := by omega
            have hzz := Lib.hid (show z = true by rw [HZ.out]; exact decide_eq_true (by omega))
            clear hmn h1 h2
            go_wp2_with fail
            go_meet
            exact ⟨by rw [hzz.out], rfl⟩
          · have i2 : ¬ (n : Int) < 20 := by omega
            have hzz := Lib.hid (show z = false by rw [HZ.out]; exact decide_eq_false (by omega))
            clear hmn h1 h2
            go_wp2_with fail
            go_meet
            exact ⟨by rw [hzz.out], rfl⟩
        · have i1 : ¬ (n : Int) < (k9 : Int) := by omega
          have hzz := Lib.hid (show z = false by rw [HZ.out]; exact decide_eq_false (by omega))
          clear hmn h1
          go_wp2_with fail
          go_meet
          exact ⟨by rw [hzz.out], rfl⟩
      case rest =>
      obtain ⟨rfl, rfl⟩ := hcut
      cases z
      rotate_left
      · have hlt : n < kk := of_decide_eq_true HZ.out.symm
        obtain ⟨a, ha⟩ : ∃ a, a = 10 + 16 * n := ⟨_, rfl⟩
        rw [← ha]
        have HAA := Lib.hid ha
        have HAL := Lib.hid (show a ≤ 400 by have := HMIN.out; omega)
        have hal := HAL.out
        have hn20 : n < 20 := by have := HMIN.out; omega
        have hw8 : IntKind.i64.wrap ((a : Int) + 8) = (a : Int) + 8 := IntWalk.i64_in _ (by omega)
        clear ha
        have hlen : Hid ((dSg p n).length = n) := dSg_len p n
        have HSN : Hid (dSg p (n + 1) = dSg p n ++ [(nbAt p a, nbAt p (a + 8))]) := by show _ = _; rw [HAA.out, dSg_snoc]
        obtain ⟨X, hX⟩ : ∃ X, X = dSg p n := ⟨_, rfl⟩
        rw [← hX] at HG hlen HSN
        clear hX
        go_upto_region 10 with fail
        have G3 := Lib.hid (HG.out.to (Below.refl _ _).drew)
        clear HG
        have a1 := fun W (hW : Cells W g7 48 (mcs ⟨nbAt p 0, smAt p 8, X, []⟩ so sc none 0)) => run_ldO ty_rparts hW 2 (v := .slice so X.length sc) rfl
        have o0 := G3.out.at
        refine wp_region_till (S := fun W => Cells W g7 48 (mcs ⟨nbAt p 0, smAt p 8, X, []⟩ so sc none 0)) (by kernel_rfl) ?_
        refine wpTill_take (i := 0) (v := ?vq1) rfl (by kernel_rfl) (fun _ _ _ h => h) (Or.inl ⟨by rfl, ?hq1⟩) o0 ?rq1
        case hq1 => (intro W hW; (try dsimp only at hW); go_simp; try with_reducible rfl)
        simp only [Act.put, List.setIfInBounds_toArray, List.set_cons_zero, List.set_cons_succ, List.getElem_toArray, List.getElem_cons_succ, List.getElem_cons_zero]
        refine wpTill_take (i := 1) (v := ?vq2) rfl (by kernel_rfl) (fun _ _ _ h => h) (Or.inl ⟨by rfl, ?hq2⟩) o0 ?rq2
        case hq2 => (intro W hW; (try dsimp only at hW); go_simp; try with_reducible rfl)
        simp only [Act.put, List.setIfInBounds_toArray, List.set_cons_zero, List.set_cons_succ, List.getElem_toArray, List.getElem_cons_succ, List.getElem_cons_zero]
        refine wpTill_take (i := 2) (v := ?vq3) rfl (by kernel_rfl) (fun _ _ _ h => h) (Or.inl ⟨by rfl, ?hq3⟩) o0 ?rq3
        case hq3 => (intro W hW; (try dsimp only at hW); go_simp; try with_reducible rfl)
        simp only [Act.put, List.setIfInBounds_toArray, List.set_cons_zero, List.set_cons_succ, List.getElem_toArray, List.getElem_cons_succ, List.getElem_cons_zero]
        refine wpTill_take (i := 3) (v := ?vq4) rfl (by kernel_rfl) (fun _ _ _ h => h) (Or.inl ⟨by rfl, ?hq4⟩) o0 ?rq4
        case hq4 => (intro W hW; (try dsimp only at hW); go_simp; try with_reducible rfl)
        simp only [Act.put, List.setIfInBounds_toArray, List.set_cons_zero, List.set_cons_succ, List.getElem_toArray, List.getElem_cons_succ, List.getElem_cons_zero]
        refine wpTill_take (i := 5) (v := ?vq5) rfl (by kernel_rfl) (fun _ _ _ h => h) (Or.inl ⟨by rfl, ?hq5⟩) o0 ?rq5
        case hq5 => (intro W hW; (try dsimp only at hW); go_simp; try with_reducible rfl)
        simp only [Act.put, List.setIfInBounds_toArray, List.set_cons_zero, List.set_cons_succ, List.getElem_toArray, List.getElem_cons_succ, List.getElem_cons_zero]
        refine wpTill_take (i := 6) (v := ?vq6) rfl (by kernel_rfl) (fun _ _ _ h => h) (Or.inl ⟨by rfl, ?hq6⟩) o0 ?rq6
        case hq6 => (intro W hW; (try dsimp only at hW); go_simp; try with_reducible rfl)
        simp only [Act.put, List.setIfInBounds_toArray, List.set_cons_zero, List.set_cons_succ, List.getElem_toArray, List.getElem_cons_succ, List.getElem_cons_zero]
        refine wpTill_take (i := 7) (v := ?vq7) rfl (by kernel_rfl) (fun _ _ _ h => h) (Or.inl ⟨by rfl, ?hq7⟩) o0 ?rq7
        case hq7 => (intro W hW; (try dsimp only at hW); go_simp; try with_reducible rfl)
        simp only [Act.put, List.setIfInBounds_toArray, List.set_cons_zero, List.set_cons_succ, List.getElem_toArray, List.getElem_cons_succ, List.getElem_cons_zero]
        refine wpTill_run (i := 4) (by kernel_rfl) rfl o0 (fun K hK => ?_)
        go_simp
        go_at_call 77
        refine (number_i p _ a (by first | rfl | omega) _ (by omega) HPP.out).mono ?_
        rintro E w8 ⟨rfl, rfl⟩
        refine hK _ _ ?_
        clear hK K
        refine wpTill_run (i := 8) (by kernel_rfl) rfl o0 (fun K hK => ?_)
        go_simp
        go_at_call 77
        refine (number_i p _ (a + 8) (by first | rfl | omega) _ (by omega) HPP.out).mono ?_
        rintro E w8 ⟨rfl, rfl⟩
        refine hK _ _ ?_
        clear hK K
        refine wpTill_run (i := 9) (by kernel_rfl) rfl o0 (fun K hK => ?_)
        go_simp
        refine hK _ _ ?_
        clear hK K
        refine wpTill_run (i := 10) (by kernel_rfl) rfl o0 (fun K hK => ?_)
        go_simp
        have G4 := Lib.hid (G3.out.to (mb_alloc _ (.cells (gpv (nbAt p a, nbAt p (a + 8))).toArray 102)))
        have o4 := G4.out.at
        refine hK _ _ ?_
        clear hK K
        refine wpTill_run (i := 11) (by kernel_rfl) rfl o4 (fun K hK => ?_)
        refine step_append_part Tryz.underlying46 info_rpart rfl _ _ rfl (by simp [Act.eval]) (nbAt p a, nbAt p (a + 8)) (by simp [Act.eval]) G3.out.ps G3.out.L (Nat.le_refl _) G3.out.L.size (gs_bs _ _ _ _) (by have := hlen.out; simp; omega) ?_
        intro r' cap' w10 hr10 hl10 hg10
        obtain ⟨w11, s11, g11⟩ := G3.out.part ty_rparts (by decide) (nbAt p a, nbAt p (a + 8)) hr10 hl10 hg10
        have G11 := Lib.hid g11
        have o10 : Cells w10 g7 48 (mcs ⟨nbAt p 0, smAt p 8, X, []⟩ so sc none 0) := hl10.cs (g7, _, _) (List.mem_append.2 (.inr (List.mem_singleton.2 rfl)))
        clear hr10 hl10 hg10 g11 G4 G3
        refine hK _ _ ?_
        clear hK K
        refine wpTill_run (i := 12) (by kernel_rfl) rfl o10 (fun K hK => ?_)
        go_simp
        refine hK _ _ ?_
        clear hK K
        refine wpTill_run (i := 13) (by kernel_rfl) rfl o10 (fun K hK => ?_)
        go_simp
        refine hK _ _ ?_
        clear hK K
        refine wpTill_done (by kernel_rfl) ?_
        clear a1 o0 o4 o10 s11
        go_wp2
        go_roundw
        case rel => exact ⟨n + 1, _, _, by omega, by go_num, by rw [HAA.out]; go_num, by show GS _ _ _ _ _ _ _ _ _ _ _; rw [HSN.out]; exact G11.out⟩
        case measure => simp [intOf]; omega
      · have hge : ¬ n < kk := of_decide_eq_false HZ.out.symm
        obtain rfl : n = kk := by omega
        obtain ⟨a, ha⟩ : ∃ a, a = 10 + 16 * n := ⟨_, rfl⟩
        rw [← ha]
        have HAA := Lib.hid ha
        have hn20 : n ≤ 20 := by have := HMIN.out; omega
        have HAL := Lib.hid (show a ≤ 400 by omega)
        have hal := HAL.out
        have hs12 := smAt_lt p a
        have HNN : Hid (dN p = min (smAt p a) 20) := by show _ = _; unfold dN; rw [← HKK.out, ha]
        clear ha
        obtain ⟨k12, hk12⟩ : ∃ k12, k12 = smAt p a := ⟨_, rfl⟩
        have HK12 := Lib.hid hk12
        rw [← hk12] at HNN hs12
        obtain ⟨nn, hnn⟩ : ∃ nn, nn = dN p := ⟨_, rfl⟩
        rw [← hnn] at HNN
        have HNE := Lib.hid hnn
        clear hnn hk12
        have hlenX : Hid ((dSg p n).length = n) := dSg_len p n
        have HXF : Hid (sgFit (dSg p n)) := dSg_fit p n
        obtain ⟨X, hX⟩ : ∃ X, X = dSg p n := ⟨_, rfl⟩
        rw [← hX] at HG hlenX HXF
        have HX := Lib.hid hX
        clear hX hge hn
        go_wp2_with fail
        refine (small_i p _ a rfl _ (by omega) HPP.out).mono ?_
        rintro E w' ⟨rfl, rfl⟩
        rw [← HK12.out]
        have hc0 : Hid (GS 48 102 w [(w.heap.size, 48, mcs mz none 0 none 0)] g7 ⟨nbAt p 0, smAt p 8, X, dCk p (a + 1) 0⟩ so sc none 0 wr) := HG.out
        go_wp2
        go_loopw [9, 12] (fun v i wx => ∃ (j : Nat) (co : Option Addr) (cc : Nat), j ≤ nn ∧ i = .int .i64 (j : Int) ∧ v = .int .i64 ((a + 1 + 8 * j : Nat) : Int) ∧ Hid (GS 48 102 w [(w.heap.size, 48, mcs mz none 0 none 0)] g7 ⟨nbAt p 0, smAt p 8, X, dCk p (a + 1) j⟩ so sc co cc wx)) (fun _ i _ => nn - (intOf i).toNat)
        case atStart => exact ⟨0, none, 0, Nat.zero_le _, rfl, by go_num, hc0.out⟩
        case round =>
          obtain ⟨j, co, cc, hj, rfl, rfl, HG2⟩ := hrel
          clear hc0 HG
          obtain ⟨z, hz⟩ : ∃ z, z = decide (j < nn) := ⟨_, rfl⟩
          have HZ2 := Lib.hid hz
          clear hz
          go_upto_region 15 with fail
          go_cut [66] (fun v wx => v = .bool z ∧ wr = wx)
          case first =>
            have hmn := HNN.out
            by_cases h1 : j < k12
            · have i1 : (j : Int) < (k12 : Int) := by omega
              by_cases h2 : j < 20
              · have i2 : (j : Int) < 20 := by omega
                have hzz := Lib.hid (show z = true by rw [HZ2.out]; exact decide_eq_true (by omega))
                clear hmn h1 h2
                go_wp2_with fail
                go_meet
                exact ⟨by rw [hzz.out], rfl⟩
              · have i2 : ¬ (j : Int) < 20 := by omega
                have hzz := Lib.hid (show z = false by rw [HZ2.out]; exact decide_eq_false (by omega))
                clear hmn h1 h2
                go_wp2_with fail
                go_meet
                exact ⟨by rw [hzz.out], rfl⟩
            · have i1 : ¬ (j : Int) < (k12 : Int) := by omega
              have hzz := Lib.hid (show z = false by rw [HZ2.out]; exact decide_eq_false (by omega))
              clear hmn h1
              go_wp2_with fail
              go_meet
              exact ⟨by rw [hzz.out], rfl⟩
          case rest =>
          obtain ⟨rfl, rfl⟩ := hcut
          have hn20 : nn ≤ 20 := by have := HNN.out; omega
          cases z
          rotate_left
          · have hlt : j < nn := of_decide_eq_true HZ2.out.symm
            obtain ⟨c, hc⟩ : ∃ c, c = a + 1 + 8 * j := ⟨_, rfl⟩
            rw [← hc]
            have HCC := Lib.hid hc
            have HCL := Lib.hid (show c ≤ 900 by omega)
            have hcl := HCL.out
            clear hc
            have hlen : Hid ((dCk p (a + 1) j).length = j) := dCk_len p (a + 1) j
            have HSN : Hid (dCk p (a + 1) (j + 1) = dCk p (a + 1) j ++ [nbAt p c]) := by show _ = _; rw [HCC.out, dCk_snoc]
            obtain ⟨Y, hY⟩ : ∃ Y, Y = dCk p (a + 1) j := ⟨_, rfl⟩
            rw [← hY] at HG2 hlen HSN
            clear hY
            go_upto_region 17 with fail
            have G3 := Lib.hid (HG2.out.to (Below.refl _ _).drew)
            clear HG2
            have a1 := fun W (hW : Cells W g7 48 (mcs ⟨nbAt p 0, smAt p 8, X, Y⟩ so sc co cc)) => run_ldO ty_nums hW 3 (v := .slice co Y.length cc) rfl
            have o0 := G3.out.at
            refine wp_region_till (S := fun W => Cells W g7 48 (mcs ⟨nbAt p 0, smAt p 8, X, Y⟩ so sc co cc)) (by kernel_rfl) ?_
            refine wpTill_take (i := 0) (v := ?vq8) rfl (by kernel_rfl) (fun _ _ _ h => h) (Or.inl ⟨by rfl, ?hq8⟩) o0 ?rq8
            case hq8 => (intro W hW; (try dsimp only at hW); go_simp; try with_reducible rfl)
            simp only [Act.put, List.setIfInBounds_toArray, List.set_cons_zero, List.set_cons_succ, List.getElem_toArray, List.getElem_cons_succ, List.getElem_cons_zero]
            refine wpTill_take (i := 1) (v := ?vq9) rfl (by kernel_rfl) (fun _ _ _ h => h) (Or.inl ⟨by rfl, ?hq9⟩) o0 ?rq9
            case hq9 => (intro W hW; (try dsimp only at hW); go_simp; try with_reducible rfl)
            simp only [Act.put, List.setIfInBounds_toArray, List.set_cons_zero, List.set_cons_succ, List.getElem_toArray, List.getElem_cons_succ, List.getElem_cons_zero]
            refine wpTill_take (i := 2) (v := ?vq10) rfl (by kernel_rfl) (fun _ _ _ h => h) (Or.inl ⟨by rfl, ?hq10⟩) o0 ?rq10
            case hq10 => (intro W hW; (try dsimp only at hW); go_simp; try with_reducible rfl)
            simp only [Act.put, List.setIfInBounds_toArray, List.set_cons_zero, List.set_cons_succ, List.getElem_toArray, List.getElem_cons_succ, List.getElem_cons_zero]
            refine wpTill_take (i := 3) (v := ?vq11) rfl (by kernel_rfl) (fun _ _ _ h => h) (Or.inl ⟨by rfl, ?hq11⟩) o0 ?rq11
            case hq11 => (intro W hW; (try dsimp only at hW); go_simp; try with_reducible rfl)
            simp only [Act.put, List.setIfInBounds_toArray, List.set_cons_zero, List.set_cons_succ, List.getElem_toArray, List.getElem_cons_succ, List.getElem_cons_zero]
            refine wpTill_run (i := 4) (by kernel_rfl) rfl o0 (fun K hK => ?_)
            go_simp
            go_at_call 77
            refine (number_i p _ c (by first | rfl | omega) _ (by omega) HPP.out).mono ?_
            rintro E w8 ⟨rfl, rfl⟩
            refine hK _ _ ?_
            clear hK K
            refine wpTill_run (i := 5) (by kernel_rfl) rfl o0 (fun K hK => ?_)
            go_simp
            have G4 := Lib.hid (G3.out.to (mb_alloc _ (.cells (gnv (nbAt p c)).toArray 30)))
            have o4 := G4.out.at
            refine hK _ _ ?_
            clear hK K
            refine wpTill_run (i := 6) (by kernel_rfl) rfl o4 (fun K hK => ?_)
            refine step_append_num Tryz.underlying32 info_num rfl _ _ rfl (by simp [Act.eval]) (nbAt p c) (by simp [Act.eval]) G3.out.ns G3.out.L (Nat.le_refl _) G3.out.L.size (gs_bs _ _ _ _) (by have := hlen.out; simp; omega) ?_
            intro r' cap' w10 hr10 hl10 hg10
            obtain ⟨w11, s11, g11⟩ := G3.out.num (by decide) (nbAt p c) hr10 hl10 hg10
            have G11 := Lib.hid g11
            have o10 : Cells w10 g7 48 (mcs ⟨nbAt p 0, smAt p 8, X, Y⟩ so sc co cc) := hl10.cs (g7, _, _) (List.mem_append.2 (.inr (List.mem_singleton.2 rfl)))
            clear hr10 hl10 hg10 g11 G4 G3
            refine hK _ _ ?_
            clear hK K
            refine wpTill_run (i := 7) (by kernel_rfl) rfl o10 (fun K hK => ?_)
            go_simp
            refine hK _ _ ?_
            clear hK K
            refine wpTill_run (i := 8) (by kernel_rfl) rfl o10 (fun K hK => ?_)
            go_simp
            refine hK _ _ ?_
            clear hK K
            refine wpTill_done (by kernel_rfl) ?_
            clear a1 o0 o4 o10 s11
            go_wp2
            go_roundw
            case rel => exact ⟨j + 1, _, _, by omega, by go_num, by rw [HCC.out]; go_num, by show GS _ _ _ _ _ _ _ _ _ _ _; rw [HSN.out]; exact G11.out⟩
            case measure => simp [intOf]; omega
          · have hge : ¬ j < nn := of_decide_eq_false HZ2.out.symm
            obtain rfl : j = nn := by omega
            have hlenY : Hid ((dCk p (a + 1) j).length = j) := dCk_len p (a + 1) j
            have hDM : (⟨nbAt p 0, smAt p 8, X, dCk p (a + 1) j⟩ : Mf) = dM p := by
              unfold dM
              rw [← HKK.out, ← HNE.out, HX.out, HAA.out]
              congr 2; omega
            have HFT := Lib.hid (dM_fit p)
            obtain ⟨V, hV⟩ : ∃ V, V = dM p := ⟨_, rfl⟩
            rw [hDM, ← hV] at HG2
            rw [← hV] at HMM HDY HFT
            have HLV : Hid (V.sg.length ≤ 20 ∧ V.ck.length ≤ 20) := by
              have h1 := hlenX.out; have h2 := hlenY.out
              show _ ∧ _
              rw [hV, ← hDM]
              exact ⟨by dsimp only; omega, by dsimp only; omega⟩
            clear hDM hV hge hj hlenY
            have hrd := HG2.out.read HFT.out (by have := HLV.out; simp only [maxLen]; omega) (by have := HLV.out; simp only [maxLen]; omega)
            have AT := Lib.hid hrd
            have HL := HG2.out.L
            have GN := Lib.hid (HG2.out.apart (b := w.heap.size) (by simp))
            clear hrd
            have l1 := HL.ldA ty_rman 1 rfl 0 (vs := mcs V so sc co cc) rfl (Nat.le_of_ble_eq_true rfl)
            have NO : Hid (dYes s = false → ∀ W, Below w.heap.size w W → Q (.returned (.tuple #[.agg (mcs mz none 0 none 0), .int .i64 4])) W) := fun hn W hW => by
              have e1 := HEE.out; have e2 := HMM.out
              rw [if_neg (by rw [hn]; decide)] at e1 e2
              rw [HQ.out, e1, e2]
              exact man_none hW 4
            obtain ⟨w5, s5, H5, _⟩ := HL.stA ty_rman 0 rfl 0 #[.int .u64 0, .int .u8 0, .slice none 0 0, .slice none 0 0] (cs' := mcs mz none 0 none 0) rfl (L' := [(w.heap.size, 48, mcs mz none 0 none 0), (g7, 48, mcs V so sc co cc)]) rfl (Nat.le_of_ble_eq_true rfl) rfl rfl
            by_cases c1 : u = s.length
            · have hq1 : ((u : Int) != (s.length : Int)) = false := by rw [bne_eq_false_iff_eq, c1]
              have hd1 : decide (6 + p.length = s.length) = true := decide_eq_true (by rw [← HFU.out]; exact c1)
              rw [hd1] at HDY
              clear hd1 c1
              go_wp2_with fail
              refine (may_c V so sc co cc _ AT.out.1).mono ?_
              rintro E w6 ⟨rfl, hb6⟩
              have H6 := HL.to hb6
              cases hok : V.ok
              · have hn := NO.out (by rw [HDY.out, hok]; rfl)
                obtain ⟨w7, s7, H7, _⟩ := H6.stA ty_rman 0 rfl 0 #[.int .u64 0, .int .u8 0, .slice none 0 0, .slice none 0 0] (cs' := mcs mz none 0 none 0) rfl (L' := [(w.heap.size, 48, mcs mz none 0 none 0), (g7, 48, mcs V so sc co cc)]) rfl (Nat.le_of_ble_eq_true rfl) rfl rfl
                have HN := Lib.hid hn
                clear hok hn l1 s5
                go_wp2
                refine bodyPost_ret (shut_man _ 4 _ Tryz.results43 ty_rman (H7.get 0 rfl) rfl rfl rfl) rfl ?_
                exact HN.out _ H7.be
              · have l6 := H6.ldA ty_rman 1 rfl 0 (vs := mcs V so sc co cc) rfl (Nat.le_of_ble_eq_true rfl)
                go_wp2_with fail
                refine (payload_c V so sc co cc _ (AT.out.1.to hb6) (by have := HLV.out; omega) (by have := HLV.out; omega)).mono ?_
                rintro E w7 ⟨rfl, hb7⟩
                have H7 := H6.to hb7
                by_cases c3 : pay V = p
                · have hy : dYes s = true := by rw [HDY.out, hok, decide_eq_true c3]; rfl
                  rw [c3]
                  have hq3 := str_yes2' p
                  have hq4 := str_bne_yes p
                  have l7 := H7.ldA ty_rman 1 rfl 0 (vs := mcs V so sc co cc) rfl (Nat.le_of_ble_eq_true rfl)
                  obtain ⟨w8, s8, H8, q8⟩ := H7.stA ty_rman 0 rfl 0 (mcs V so sc co cc) (cs' := mcs V so sc co cc) rfl (L' := [(w.heap.size, 48, mcs V so sc co cc), (g7, 48, mcs V so sc co cc)]) rfl (Nat.le_of_ble_eq_true rfl) rfl rfl
                  have h9 : Hid (Q (.returned (.tuple #[.agg (mcs V so sc co cc), .int .i64 0])) w8) := by
                    have e1 := HEE.out; have e2 := HMM.out
                    rw [if_pos hy] at e1 e2
                    show Q _ _
                    rw [HQ.out, e1, e2]
                    have hA := (AT.out.1.to hb6).to hb7
                    exact ⟨so, sc, co, cc, rfl, ⟨hA.fit, ps_off hA.ps q8 GN.out.1, ns_off hA.ns q8 GN.out.2, hA.l1, hA.l2⟩, H8.be, AT.out.2⟩
                  clear hok hy l1 s5 l6
                  go_wp2
                  refine bodyPost_ret (shut_man _ 0 _ Tryz.results43 ty_rman (H8.get 0 rfl) rfl rfl rfl) rfl ?_
                  exact h9.out
                · have hn := NO.out (by rw [HDY.out, decide_eq_false c3]; simp)
                  have hq3 := str_no2' c3
                  have hq4 := str_bne_no c3
                  obtain ⟨w8, s8, H8, _⟩ := H7.stA ty_rman 0 rfl 0 #[.int .u64 0, .int .u8 0, .slice none 0 0, .slice none 0 0] (cs' := mcs mz none 0 none 0) rfl (L' := [(w.heap.size, 48, mcs mz none 0 none 0), (g7, 48, mcs V so sc co cc)]) rfl (Nat.le_of_ble_eq_true rfl) rfl rfl
                  have HN := Lib.hid hn
                  clear hok hn l1 s5 l6 c3
                  go_wp2
                  refine bodyPost_ret (shut_man _ 4 _ Tryz.results43 ty_rman (H8.get 0 rfl) rfl rfl rfl) rfl ?_
                  exact HN.out _ H8.be
            · have hq1 : ((u : Int) != (s.length : Int)) = true := by rw [bne_iff_ne]; omega
              have hn := NO.out (by rw [HDY.out, decide_eq_false (fun q => c1 (by rw [HFU.out]; exact q))]; rfl)
              have HN := Lib.hid hn
              clear hn l1 c1
              go_wp2
              refine bodyPost_ret (shut_man _ 4 _ Tryz.results43 ty_rman (H5.get 0 rfl) rfl rfl rfl) rfl ?_
              exact HN.out _ H5.be
  · have hE : e = fe s := by rw [HE.out]; exact if_neg hf
    have hM : m = mz := by rw [HM.out]; exact if_neg hf
    have HEM := Lib.hid (And.intro hE hM)
    have hq : (fe s != 0) = true := by rw [bne_iff_ne]; exact hf
    obtain ⟨f0, hf0⟩ : ∃ f0, f0 = fe s := ⟨_, rfl⟩
    rw [← hf0] at hq HEM ⊢
    clear hE hM hf hf0 HE HM
    obtain ⟨w4, s4, H4, _⟩ := H1.stA ty_rman 0 rfl 0 #[.int .u64 0, .int .u8 0, .slice none 0 0, .slice none 0 0] (cs' := mcs mz none 0 none 0) rfl (L' := [(w.heap.size, 48, mcs mz none 0 none 0)]) rfl (Nat.le_of_ble_eq_true rfl) rfl rfl
    go_wp2
    refine bodyPost_ret (shut_man _ f0 _ Tryz.results43 ty_rman (H4.get 0 rfl) rfl rfl rfl) rfl ?_
    rw [HQ.out, HEM.out.1, HEM.out.2]
    exact man_none H4.be f0
end Go.Proofs.YtakejacamkdncaaGreatDoor
