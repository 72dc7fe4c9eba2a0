/- CheckpointLoads: the walk. Conditions: the two listed variables lie as they are laid. -/
import Derived.Test.YtacgmadgkmcmoaaGreatDoorJi
import Derived.Test.YtacgmadgkmcmoaaGreatDoorJk
import Derived.Test.YtacgmadgkmcmoaaGreatDoorJn
namespace Go.Proofs.YtacgmadgkmcmoaaGreatDoor
open Go.RowKit
set_option linter.unusedVariables false
set_option linter.unusedSimpArgs false
set_option maxRecDepth 20000
theorem zero_few : St.zero.ss.length ≤ 8 := by decide
theorem ktk_few (y : List UInt8) (f : Nat) : (ktk y f).2.ss.length ≤ 8 := by
  by_cases h : y.length < 16
  · rw [ktk_len h]; exact zero_few
  by_cases h1 : (tst (y.drop 16)).1 = 0
  · by_cases h2 : un (y.take 8) ≠ f ∨ (tst (y.drop 16)).2.fr ≠ f
    · rw [ktk_form h h1 h2]; exact zero_few
    · by_cases h3 : un ((y.drop 8).take 8) ≠ djn bas (ste (tst (y.drop 16)).2)
      · rw [ktk_sum h h1 h2 h3]; exact zero_few
      · rw [ktk_ok h h1 h2 h3]; dsimp only; exact (tst_few (y.drop 16)).1
  · rw [ktk_bad h h1]; exact zero_few
theorem kld_few (l : List UInt8) (f : Nat) : (kld l f).2.ss.length ≤ 8 := by
  by_cases h : fe l = 0
  · by_cases h2 : 6 + (fp l).length ≠ l.length
    · rw [kld_long h h2]; exact zero_few
    · rw [kld_ok h h2]; exact ktk_few _ _
  · rw [kld_bad h]; exact zero_few
theorem klS_few (p : Pw) (f : Nat) : (klS p f).ss.length ≤ 8 := by
  by_cases h : p.rdc (cN f) = 0
  · have e : klS p f = (kld (p.rd (cN f)) f).2 := if_pos h
    rw [e]; exact kld_few _ _
  · have e : klS p f = .zero := if_neg h
    rw [e]; exact zero_few
attribute [local go_sem ↓] ld_su18 ld_state st_state
set_option maxHeartbeats 16000000 in
theorem law_loads (x : Stu) (lo : Option Addr) (lc : Nat) (ko : Option Addr) (kc : Nat) (f : Nat) (l : List Nat) (la : Option Addr) (lac : Nat) (w : World) (h : SuAt w x lo ko) (hf : f < 18446744073709551616) (hl : Us w la l) (hlm : l.length ≤ maxLen) (ht : Tab w) (hb : BTab w) :
    Calls Tryz.prog 4 #[.agg (scs x lo lc ko kc), .int .u64 (f : Int), .slice la l.length lac] w fun E w' => E = .returned (.bool true) ∧ Below w.heap.size w w' := by
  have H0 := Loc.one w 26 (scs x lo lc ko kc)
  have HA := Lib.hid h
  have HU := Lib.hid hl
  have HT := Lib.hid ht
  have HBT := Lib.hid hb
  have HF := Lib.hid hf
  simp only [maxLen] at hlm
  clear h hf hl ht hb
  go_enter Tryz.func4, Tryz.ntmps4
  go_upto_region 1 with fail
  generalize w.alloc (.cells (scs x lo lc ko kc) 26) = wa at *
  have l0 := H0.ldA ty_su18 0 rfl 0 (vs := scs x lo lc ko kc) rfl (Nat.le_of_ble_eq_true rfl)
  go_wp2_with fail
  refine (few18_c x lo lc ko kc wa (HA.out.to H0.be)).mono ?_
  rintro R w1 ⟨hb1, (rfl | ⟨rfl, hfw⟩)⟩
  · have HB1 := Lib.hid (H0.to hb1).be
    clear l0 H0 hb1
    go_wp2_with fail
    refine (works18_c w1 (HT.out.lo HB1.out) (btab_lo HBT.out HB1.out)).mono ?_
    rintro R wz ⟨rfl, hbz⟩
    go_wp2
    go_ret
    exact ⟨rfl, HB1.out.trans (hbz.mono HB1.out.size)⟩
  have HFW := Lib.hid hfw
  have H1 := H0.to hb1
  have HB1 := Lib.hid H1.be
  clear l0 H0 hb1 hfw
  by_cases h20 : 20 < l.length
  · have i20 : (20 : Int) < (l.length : Int) := by omega
    clear h20 H1
    go_wp2_with fail
    refine (works18_c w1 (HT.out.lo HB1.out) (btab_lo HBT.out HB1.out)).mono ?_
    rintro R wz ⟨rfl, hbz⟩
    go_wp2
    go_ret
    exact ⟨rfl, HB1.out.trans (hbz.mono HB1.out.size)⟩
  have i20 : ¬ (20 : Int) < (l.length : Int) := by omega
  have HL20 := Lib.hid (show l.length ≤ 20 by omega)
  have l1 := H1.ldA ty_su18 0 rfl 0 (vs := scs x lo lc ko kc) rfl (Nat.le_of_ble_eq_true rfl)
  clear h20
  go_wp2_with fail
  clear i20
  refine (made18_c x lo lc ko kc w1 (HA.out.to HB1.out) HFW.out).mono ?_
  rintro R w2 ⟨g, gd, hh, gr, ko6, kc6, S1, S2, rfl, hbp⟩
  have B2 := Lib.hid hbp
  have H2 := H1.to hbp.be
  obtain ⟨p0, hp0⟩ : ∃ p0 : Pw, p0 = ⟨x.fu, x.ks, 0, false, mkE (1 + x.q) [] x.L⟩ := ⟨_, rfl⟩
  obtain ⟨q, hq⟩ : ∃ q, q = 1 + x.q := ⟨_, rfl⟩
  rw [← hp0, ← hq] at B2
  have c2 : w2.cell? ⟨w.heap.size, 2, none⟩ = some (.int .i64 x.fu) := (H2.get 0 rfl).cell 2
  have HB2 := Lib.hid H2.be
  clear hbp hp0 hq H1 H2 l1
  by_cases hz : x.fu = 0
  · have hq0 : (x.fu == 0) = true := by rw [hz]; rfl
    have W1 := Lib.hid B2.out.wide1
    clear hz
    go_wp2_with fail
    clear c2
    refine (blow_c _ W1.out.d).mono ?_
    rintro R w3 ⟨rfl, hp3, ht3⟩
    have B3 := Lib.hid ((W1.out.s1 hp3 (blow_ks _) ht3).wide2)
    clear hp3 ht3 W1
    go_wp2_with fail
    refine (rblow_c _ B3.out.r).mono ?_
    rintro R wc ⟨rfl, hp4, ht4⟩
    obtain ⟨p1, hp1⟩ : ∃ p1, p1 = p0.blow := ⟨_, rfl⟩
    have B4 := Lib.hid (B3.out.s2 hp4 (blow_ks _) ht4)
    rw [← hp1] at B4
    have BC := Lib.hid B4.out
    have HBC := Lib.hid (HB1.out.trans (B4.out.be.mono HB1.out.size))
    clear hp4 ht4 hp1 B4 B3 B2 HB2
    obtain ⟨s1, hs1⟩ : ∃ s, s = klS p1 f := ⟨_, rfl⟩
    obtain ⟨e1, he1⟩ : ∃ e, e = klE p1 f := ⟨_, rfl⟩
    obtain ⟨⟨s2, n2, e2⟩, hx2⟩ : ∃ x, x = knw p1 0 l := ⟨_, rfl⟩
    have K1 := Lib.hid (fun W (hW : Below wc.heap.size wc W) => kload_c f W (BC.out.d.new hW) HF.out (HT.out.lo (HBC.out.trans (hW.mono HBC.out.size))) (btab_lo HBT.out (HBC.out.trans (hW.mono HBC.out.size))))
    have K2 := Lib.hid (fun W (hW : Below wc.heap.size wc W) => rkload_c f W (BC.out.r.new hW) HF.out)
    have K3 := Lib.hid (fun W (hW : Below wc.heap.size wc W) => knew_c l la lac W (BC.out.d.new hW) (HU.out.to (HBC.out.trans (hW.mono HBC.out.size))) HL20.out (HT.out.lo (HBC.out.trans (hW.mono HBC.out.size))) (btab_lo HBT.out (HBC.out.trans (hW.mono HBC.out.size))))
    have K4 := Lib.hid (fun W (hW : Below wc.heap.size wc W) => rknew_c l la lac W (BC.out.r.new hW) (HU.out.to (HBC.out.trans (hW.mono HBC.out.size))) HL20.out)
    rw [← hs1, ← he1] at K1 K2
    rw [← hx2] at K3 K4
    have HS1 := Lib.hid (show s1.ss.length ≤ 8 from hs1 ▸ klS_few p1 f)
    have L0 := Loc.nil (B := wc.heap.size) (w := wc) (Nat.le_refl _)
    clear hs1 he1 hx2
    go_wp2_with fail
    refine (K1.out wc L0.be).mono ?_
    rintro R v1 ⟨ao1, cap1, rfl, hsh1, -, h81, -, hb1⟩
    have L1a := L0.to hb1
    obtain ⟨g1, u1, z1, st1, L1, q1⟩ := L1a.newA ty_state #[.int .u64 0, .int .u64 0, .int .i32 0, .int .i32 0, .int .i32 0, .int .i32 0, .int .u8 0, .int .u8 0, .int .u8 0, .int .i32 0, .int .i32 0, .int .i32 0, .int .i32 0, .int .u8 0, .int .u8 0, .int .u8 0, .slice none 0 0, .int .u16 0, .int .u16 0] (stc s1 ao1 cap1) rfl rfl rfl
    replace L1 : Loc _ _ _ [(g1, 34, stc s1 ao1 cap1)] := L1
    have A1_1 := Lib.hid (shs_to hsh1 (below_of_grown q1))
    clear hsh1 hb1 q1 L1a L0 K1 
    go_wp2_with fail
    clear st1 z1
    refine (K2.out u1 L1.be).mono ?_
    rintro R v2 ⟨ao2, cap2, rfl, hsh2, -, h82, -, hb2⟩
    have L2a := L1.to hb2
    obtain ⟨g2, u2, z2, st2, L2, q2⟩ := L2a.newA ty_state #[.int .u64 0, .int .u64 0, .int .i32 0, .int .i32 0, .int .i32 0, .int .i32 0, .int .u8 0, .int .u8 0, .int .u8 0, .int .i32 0, .int .i32 0, .int .i32 0, .int .i32 0, .int .u8 0, .int .u8 0, .int .u8 0, .slice none 0 0, .int .u16 0, .int .u16 0] (stc s1 ao2 cap2) rfl rfl rfl
    replace L2 : Loc _ _ _ [(g1, 34, stc s1 ao1 cap1), (g2, 34, stc s1 ao2 cap2)] := L2
    have A1_2 := Lib.hid (shs_to (shs_to A1_1.out hb2) (below_of_grown q2))
    have A2_2 := Lib.hid (shs_to hsh2 (below_of_grown q2))
    clear hsh2 hb2 q2 L2a L1 K2 A1_1
    go_wp2_with fail
    clear st2 z2
    refine (K3.out u2 L2.be).mono ?_
    rintro R v3 ⟨ao3, cap3, rfl, hsh3, -, h83, hb3⟩
    have L3a := L2.to hb3
    obtain ⟨g3, u3, z3, st3, L3, q3⟩ := L3a.newA ty_state #[.int .u64 0, .int .u64 0, .int .i32 0, .int .i32 0, .int .i32 0, .int .i32 0, .int .u8 0, .int .u8 0, .int .u8 0, .int .i32 0, .int .i32 0, .int .i32 0, .int .i32 0, .int .u8 0, .int .u8 0, .int .u8 0, .slice none 0 0, .int .u16 0, .int .u16 0] (stc s2 ao3 cap3) rfl rfl rfl
    replace L3 : Loc _ _ _ [(g1, 34, stc s1 ao1 cap1), (g2, 34, stc s1 ao2 cap2), (g3, 34, stc s2 ao3 cap3)] := L3
    have A1_3 := Lib.hid (shs_to (shs_to A1_2.out hb3) (below_of_grown q3))
    have A2_3 := Lib.hid (shs_to (shs_to A2_2.out hb3) (below_of_grown q3))
    have A3_3 := Lib.hid (shs_to hsh3 (below_of_grown q3))
    clear hsh3 hb3 q3 L3a L2 K3 A1_2 A2_2
    have HS2 := Lib.hid h83
    go_wp2_with fail
    clear st3 z3
    refine (K4.out u3 L3.be).mono ?_
    rintro R v4 ⟨ao4, cap4, rfl, hsh4, -, h84, hb4⟩
    have L4a := L3.to hb4
    obtain ⟨g4, u4, z4, st4, L4, q4⟩ := L4a.newA ty_state #[.int .u64 0, .int .u64 0, .int .i32 0, .int .i32 0, .int .i32 0, .int .i32 0, .int .u8 0, .int .u8 0, .int .u8 0, .int .i32 0, .int .i32 0, .int .i32 0, .int .i32 0, .int .u8 0, .int .u8 0, .int .u8 0, .slice none 0 0, .int .u16 0, .int .u16 0] (stc s2 ao4 cap4) rfl rfl rfl
    replace L4 : Loc _ _ _ [(g1, 34, stc s1 ao1 cap1), (g2, 34, stc s1 ao2 cap2), (g3, 34, stc s2 ao3 cap3), (g4, 34, stc s2 ao4 cap4)] := L4
    have A1_4 := Lib.hid (shs_to (shs_to A1_3.out hb4) (below_of_grown q4))
    have A2_4 := Lib.hid (shs_to (shs_to A2_3.out hb4) (below_of_grown q4))
    have A3_4 := Lib.hid (shs_to (shs_to A3_3.out hb4) (below_of_grown q4))
    have A4_4 := Lib.hid (shs_to hsh4 (below_of_grown q4))
    clear hsh4 hb4 q4 L4a L3 K4 A1_3 A2_3 A3_3
    have HB9 := Lib.hid (HBC.out.trans (L4.be.mono HBC.out.size))
    have ld1 := L4.ldA ty_state 0 rfl 0 (vs := stc s1 ao1 cap1) rfl (Nat.le_of_ble_eq_true rfl)
    have ld2 := L4.ldA ty_state 1 rfl 0 (vs := stc s1 ao2 cap2) rfl (Nat.le_of_ble_eq_true rfl)
    have ld3 := L4.ldA ty_state 2 rfl 0 (vs := stc s2 ao3 cap3) rfl (Nat.le_of_ble_eq_true rfl)
    have ld4 := L4.ldA ty_state 3 rfl 0 (vs := stc s2 ao4 cap4) rfl (Nat.le_of_ble_eq_true rfl)
    have HL4 := Lib.hid L4
    have hee : (e1 == e1) = true := beq_self_eq_true _
    have hkk : (e2 == e2) = true := beq_self_eq_true _
    have hnn : ((n2 : Int) == (n2 : Int)) = true := beq_self_eq_true _
    have KS1 : Hid (Calls Tryz.prog 13 #[sv s1 ao1 cap1, sv s1 ao2 cap2] u4 fun E w' => E = .returned (.bool true) ∧ u4.grownBy w' none) := by
      have := refSame_c s1 s1 ao1 ao2 cap1 cap2 u4 A1_4.out A2_4.out (by have := HS1.out; simp only [maxLen]; omega) (by have := HS1.out; simp only [maxLen]; omega)
      rw [sm_self] at this
      exact this
    clear L4
    go_wp2_with fail
    clear st4 z4
    refine KS1.out.mono ?_
    rintro R x5 ⟨rfl, hb5⟩
    have L5 := HL4.out.grown hb5
    have le3 := L5.ldA ty_state 2 rfl 0 (vs := stc s2 ao3 cap3) rfl (Nat.le_of_ble_eq_true rfl)
    have le4 := L5.ldA ty_state 3 rfl 0 (vs := stc s2 ao4 cap4) rfl (Nat.le_of_ble_eq_true rfl)
    have KS2 : Hid (Calls Tryz.prog 13 #[sv s2 ao3 cap3, sv s2 ao4 cap4] x5 fun E w' => E = .returned (.bool true) ∧ x5.grownBy w' none) := by
      have := refSame_c s2 s2 ao3 ao4 cap3 cap4 x5 (shs_to A3_4.out (below_of_grown hb5)) (shs_to A4_4.out (below_of_grown hb5)) (by have := HS2.out; simp only [maxLen]; omega) (by have := HS2.out; simp only [maxLen]; omega)
      rw [sm_self] at this
      exact this
    have HB10 := Lib.hid (HB9.out.trans ((below_of_grown hb5).mono HB9.out.size))
    clear ld1 ld2 ld3 ld4 L5 hb5 KS1 HB9 HL4
    go_wp2_with fail
    clear le3 le4
    refine KS2.out.mono ?_
    rintro R x6 ⟨rfl, hb6⟩
    have HB11 := Lib.hid (HB10.out.trans ((below_of_grown hb6).mono HB10.out.size))
    clear hb6 KS2 HB10
    go_wp2_with fail
    refine (works18_c x6 (HT.out.lo HB11.out) (btab_lo HBT.out HB11.out)).mono ?_
    rintro R wz ⟨rfl, hbz⟩
    go_wp2
    go_ret
    exact ⟨rfl, HB11.out.trans (hbz.mono HB11.out.size)⟩
  · have hq0 : (x.fu == 0) = false := beq_eq_false_iff_ne.2 hz
    obtain ⟨p1, hp1⟩ : ∃ p1, p1 = p0 := ⟨_, rfl⟩
    rw [← hp1] at B2
    obtain ⟨wc, hwc⟩ : ∃ wc, wc = w2 := ⟨_, rfl⟩
    rw [← hwc] at B2 c2 HB2 ⊢
    have BC := Lib.hid B2.out
    have HBC := Lib.hid HB2.out
    clear hz hp1 hwc B2 HB2
    obtain ⟨s1, hs1⟩ : ∃ s, s = klS p1 f := ⟨_, rfl⟩
    obtain ⟨e1, he1⟩ : ∃ e, e = klE p1 f := ⟨_, rfl⟩
    obtain ⟨⟨s2, n2, e2⟩, hx2⟩ : ∃ x, x = knw p1 0 l := ⟨_, rfl⟩
    have K1 := Lib.hid (fun W (hW : Below wc.heap.size wc W) => kload_c f W (BC.out.d.new hW) HF.out (HT.out.lo (HBC.out.trans (hW.mono HBC.out.size))) (btab_lo HBT.out (HBC.out.trans (hW.mono HBC.out.size))))
    have K2 := Lib.hid (fun W (hW : Below wc.heap.size wc W) => rkload_c f W (BC.out.r.new hW) HF.out)
    have K3 := Lib.hid (fun W (hW : Below wc.heap.size wc W) => knew_c l la lac W (BC.out.d.new hW) (HU.out.to (HBC.out.trans (hW.mono HBC.out.size))) HL20.out (HT.out.lo (HBC.out.trans (hW.mono HBC.out.size))) (btab_lo HBT.out (HBC.out.trans (hW.mono HBC.out.size))))
    have K4 := Lib.hid (fun W (hW : Below wc.heap.size wc W) => rknew_c l la lac W (BC.out.r.new hW) (HU.out.to (HBC.out.trans (hW.mono HBC.out.size))) HL20.out)
    rw [← hs1, ← he1] at K1 K2
    rw [← hx2] at K3 K4
    have HS1 := Lib.hid (show s1.ss.length ≤ 8 from hs1 ▸ klS_few p1 f)
    have L0 := Loc.nil (B := wc.heap.size) (w := wc) (Nat.le_refl _)
    clear hs1 he1 hx2
    go_wp2_with fail
    refine (K1.out wc L0.be).mono ?_
    rintro R v1 ⟨ao1, cap1, rfl, hsh1, -, h81, -, hb1⟩
    have L1a := L0.to hb1
    obtain ⟨g1, u1, z1, st1, L1, q1⟩ := L1a.newA ty_state #[.int .u64 0, .int .u64 0, .int .i32 0, .int .i32 0, .int .i32 0, .int .i32 0, .int .u8 0, .int .u8 0, .int .u8 0, .int .i32 0, .int .i32 0, .int .i32 0, .int .i32 0, .int .u8 0, .int .u8 0, .int .u8 0, .slice none 0 0, .int .u16 0, .int .u16 0] (stc s1 ao1 cap1) rfl rfl rfl
    replace L1 : Loc _ _ _ [(g1, 34, stc s1 ao1 cap1)] := L1
    have A1_1 := Lib.hid (shs_to hsh1 (below_of_grown q1))
    clear hsh1 hb1 q1 L1a L0 K1 
    go_wp2_with fail
    clear st1 z1
    refine (K2.out u1 L1.be).mono ?_
    rintro R v2 ⟨ao2, cap2, rfl, hsh2, -, h82, -, hb2⟩
    have L2a := L1.to hb2
    obtain ⟨g2, u2, z2, st2, L2, q2⟩ := L2a.newA ty_state #[.int .u64 0, .int .u64 0, .int .i32 0, .int .i32 0, .int .i32 0, .int .i32 0, .int .u8 0, .int .u8 0, .int .u8 0, .int .i32 0, .int .i32 0, .int .i32 0, .int .i32 0, .int .u8 0, .int .u8 0, .int .u8 0, .slice none 0 0, .int .u16 0, .int .u16 0] (stc s1 ao2 cap2) rfl rfl rfl
    replace L2 : Loc _ _ _ [(g1, 34, stc s1 ao1 cap1), (g2, 34, stc s1 ao2 cap2)] := L2
    have A1_2 := Lib.hid (shs_to (shs_to A1_1.out hb2) (below_of_grown q2))
    have A2_2 := Lib.hid (shs_to hsh2 (below_of_grown q2))
    clear hsh2 hb2 q2 L2a L1 K2 A1_1
    go_wp2_with fail
    clear st2 z2
    refine (K3.out u2 L2.be).mono ?_
    rintro R v3 ⟨ao3, cap3, rfl, hsh3, -, h83, hb3⟩
    have L3a := L2.to hb3
    obtain ⟨g3, u3, z3, st3, L3, q3⟩ := L3a.newA ty_state #[.int .u64 0, .int .u64 0, .int .i32 0, .int .i32 0, .int .i32 0, .int .i32 0, .int .u8 0, .int .u8 0, .int .u8 0, .int .i32 0, .int .i32 0, .int .i32 0, .int .i32 0, .int .u8 0, .int .u8 0, .int .u8 0, .slice none 0 0, .int .u16 0, .int .u16 0] (stc s2 ao3 cap3) rfl rfl rfl
    replace L3 : Loc _ _ _ [(g1, 34, stc s1 ao1 cap1), (g2, 34, stc s1 ao2 cap2), (g3, 34, stc s2 ao3 cap3)] := L3
    have A1_3 := Lib.hid (shs_to (shs_to A1_2.out hb3) (below_of_grown q3))
    have A2_3 := Lib.hid (shs_to (shs_to A2_2.out hb3) (below_of_grown q3))
    have A3_3 := Lib.hid (shs_to hsh3 (below_of_grown q3))
    clear hsh3 hb3 q3 L3a L2 K3 A1_2 A2_2
    have HS2 := Lib.hid h83
    go_wp2_with fail
    clear st3 z3
    refine (K4.out u3 L3.be).mono ?_
    rintro R v4 ⟨ao4, cap4, rfl, hsh4, -, h84, hb4⟩
    have L4a := L3.to hb4
    obtain ⟨g4, u4, z4, st4, L4, q4⟩ := L4a.newA ty_state #[.int .u64 0, .int .u64 0, .int .i32 0, .int .i32 0, .int .i32 0, .int .i32 0, .int .u8 0, .int .u8 0, .int .u8 0, .int .i32 0, .int .i32 0, .int .i32 0, .int .i32 0, .int .u8 0, .int .u8 0, .int .u8 0, .slice none 0 0, .int .u16 0, .int .u16 0] (stc s2 ao4 cap4) rfl rfl rfl
    replace L4 : Loc _ _ _ [(g1, 34, stc s1 ao1 cap1), (g2, 34, stc s1 ao2 cap2), (g3, 34, stc s2 ao3 cap3), (g4, 34, stc s2 ao4 cap4)] := L4
    have A1_4 := Lib.hid (shs_to (shs_to A1_3.out hb4) (below_of_grown q4))
    have A2_4 := Lib.hid (shs_to (shs_to A2_3.out hb4) (below_of_grown q4))
    have A3_4 := Lib.hid (shs_to (shs_to A3_3.out hb4) (below_of_grown q4))
    have A4_4 := Lib.hid (shs_to hsh4 (below_of_grown q4))
    clear hsh4 hb4 q4 L4a L3 K4 A1_3 A2_3 A3_3
    have HB9 := Lib.hid (HBC.out.trans (L4.be.mono HBC.out.size))
    have ld1 := L4.ldA ty_state 0 rfl 0 (vs := stc s1 ao1 cap1) rfl (Nat.le_of_ble_eq_true rfl)
    have ld2 := L4.ldA ty_state 1 rfl 0 (vs := stc s1 ao2 cap2) rfl (Nat.le_of_ble_eq_true rfl)
    have ld3 := L4.ldA ty_state 2 rfl 0 (vs := stc s2 ao3 cap3) rfl (Nat.le_of_ble_eq_true rfl)
    have ld4 := L4.ldA ty_state 3 rfl 0 (vs := stc s2 ao4 cap4) rfl (Nat.le_of_ble_eq_true rfl)
    have HL4 := Lib.hid L4
    have hee : (e1 == e1) = true := beq_self_eq_true _
    have hkk : (e2 == e2) = true := beq_self_eq_true _
    have hnn : ((n2 : Int) == (n2 : Int)) = true := beq_self_eq_true _
    have KS1 : Hid (Calls Tryz.prog 13 #[sv s1 ao1 cap1, sv s1 ao2 cap2] u4 fun E w' => E = .returned (.bool true) ∧ u4.grownBy w' none) := by
      have := refSame_c s1 s1 ao1 ao2 cap1 cap2 u4 A1_4.out A2_4.out (by have := HS1.out; simp only [maxLen]; omega) (by have := HS1.out; simp only [maxLen]; omega)
      rw [sm_self] at this
      exact this
    clear L4
    go_wp2_with fail
    clear st4 z4
    refine KS1.out.mono ?_
    rintro R x5 ⟨rfl, hb5⟩
    have L5 := HL4.out.grown hb5
    have le3 := L5.ldA ty_state 2 rfl 0 (vs := stc s2 ao3 cap3) rfl (Nat.le_of_ble_eq_true rfl)
    have le4 := L5.ldA ty_state 3 rfl 0 (vs := stc s2 ao4 cap4) rfl (Nat.le_of_ble_eq_true rfl)
    have KS2 : Hid (Calls Tryz.prog 13 #[sv s2 ao3 cap3, sv s2 ao4 cap4] x5 fun E w' => E = .returned (.bool true) ∧ x5.grownBy w' none) := by
      have := refSame_c s2 s2 ao3 ao4 cap3 cap4 x5 (shs_to A3_4.out (below_of_grown hb5)) (shs_to A4_4.out (below_of_grown hb5)) (by have := HS2.out; simp only [maxLen]; omega) (by have := HS2.out; simp only [maxLen]; omega)
      rw [sm_self] at this
      exact this
    have HB10 := Lib.hid (HB9.out.trans ((below_of_grown hb5).mono HB9.out.size))
    clear ld1 ld2 ld3 ld4 L5 hb5 KS1 HB9 HL4
    go_wp2_with fail
    clear le3 le4
    refine KS2.out.mono ?_
    rintro R x6 ⟨rfl, hb6⟩
    have HB11 := Lib.hid (HB10.out.trans ((below_of_grown hb6).mono HB10.out.size))
    clear hb6 KS2 HB10
    go_wp2_with fail
    refine (works18_c x6 (HT.out.lo HB11.out) (btab_lo HBT.out HB11.out)).mono ?_
    rintro R wz ⟨rfl, hbz⟩
    go_wp2
    go_ret
    exact ⟨rfl, HB11.out.trans (hbz.mono HB11.out.size)⟩
end Go.Proofs.YtacgmadgkmcmoaaGreatDoor
