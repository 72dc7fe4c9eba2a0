/- CheckpointWrites: the walk. Conditions: the two listed variables lie as they are laid. -/
import Derived.Test.YtacgmadgkmcmoaaGreatDoorJk
import Derived.Test.YtacgmadgkmcmoaaGreatDoorJg
import Derived.Test.YtacgmadgkmcmoaaGreatDoorJn
namespace Go.Proofs.YtacgmadgkmcmoaaGreatDoor
open Go.RowKit
set_option linter.unusedVariables false
set_option linter.unusedSimpArgs false
set_option maxRecDepth 20000
/-- Two states in an array. -/
def wcs (s t : St) (ao : Option Addr) (ac : Nat) (bo : Option Addr) (bc : Nat) : Array Value := ((stc s ao ac).toList ++ (stc t bo bc).toList).toArray
theorem ty_two18 : TyA 35 38 := tya_array Tryz.underlying35 (by kernel_rfl)
/-- Two blocks that stay. -/
def Stay2 (wd : World) (b3 g8 : Nat) (W : World) : Prop := W.heap[b3]? = wd.heap[b3]? ∧ W.heap[g8]? = wd.heap[g8]?
theorem nm_len {q : Nat} {E : List Ent} (h : DGood q E) {k : Nat} (hk : k < (E.map Ent.nm).length) : ((E.map Ent.nm)[k]'hk).length ≤ maxLen := by
  rw [List.getElem_map]
  have := h.nms (E[k]'(by simpa using hk)) (List.getElem_mem _)
  unfold isNm at this
  simp only [Bool.and_eq_true, decide_eq_true_eq] at this
  have h2 := this.1.2
  simp only [maxLen]
  omega
attribute [local go_sem ↓] ld_su18 ld_state st_state ld_shots
set_option maxHeartbeats 16000000 in
theorem law_writes (x : Stu) (lo : Option Addr) (lc : Nat) (ko : Option Addr) (kc : Nat) (s t : St) (ao bo : Option Addr) (ac bc : Nat) (w : World) (h : SuAt w x lo ko) (hs1 : Shs w ao s.ss) (hs2 : Shs w bo t.ss) (hf1 : s.fit) (hf2 : t.fit) (hn1 : ao = none → ac = 0) (hn2 : bo = none → bc = 0) (hl1 : s.ss.length ≤ maxLen) (hl2 : t.ss.length ≤ maxLen) (ht : Tab w) (hb : BTab w) :
    Calls Tryz.prog 3 #[.agg (scs x lo lc ko kc), .agg (wcs s t ao ac bo bc)] w fun E w' => E = .returned (.bool true) ∧ Below w.heap.size w w' := by
  have H0 := Loc.two w 26 35 (scs x lo lc ko kc) (wcs s t ao ac bo bc)
  have HA := Lib.hid h
  have HT := Lib.hid ht
  have HBT := Lib.hid hb
  have HS1 := Lib.hid hs1
  have HS2 := Lib.hid hs2
  have HF1 := Lib.hid hf1
  have HF2 := Lib.hid hf2
  have HN1 := Lib.hid hn1
  have HN2 := Lib.hid hn2
  simp only [maxLen] at hl1 hl2
  clear h ht hb hs1 hs2 hf1 hf2 hn1 hn2
  go_enter Tryz.func3, Tryz.ntmps3
  go_upto_region 1 with fail
  generalize (w.alloc (.cells (scs x lo lc ko kc) 26)).alloc (.cells (wcs s t ao ac bo bc) 35) = wa at *
  have l0 := H0.ldA ty_su18 0 rfl 0 (vs := scs x lo lc ko kc) rfl (Nat.le_of_ble_eq_true rfl)
  go_wp2_with fail
  refine (few18_c x lo lc ko kc wa (HA.out.to H0.be)).mono ?_
  rintro R w1 ⟨hb1, (rfl | ⟨rfl, hfw⟩)⟩
  · have HB1 := Lib.hid (H0.to hb1).be
    clear l0 H0 hb1
    go_wp2_with fail
    refine (works18_c w1 (HT.out.lo HB1.out) (btab_lo HBT.out HB1.out)).mono ?_
    rintro R wz ⟨rfl, hbz⟩
    go_wp2
    go_ret
    exact ⟨rfl, HB1.out.trans (hbz.mono HB1.out.size)⟩
  have HFW := Lib.hid hfw
  have H1 := H0.to hb1
  have HB1 := Lib.hid H1.be
  have m1 := H1.ldO ty_shots 1 rfl 16 (v := .slice ao s.ss.length ac) rfl
  have m2 := H1.ldO ty_shots 1 rfl 35 (v := .slice bo t.ss.length bc) rfl
  clear l0 H0 hb1 hfw
  by_cases h1 : 100 < s.ss.length
  · have i1 : (100 : Int) < (s.ss.length : Int) := by omega
    clear h1 H1 m2
    go_wp2_with fail
    clear m1
    refine (works18_c w1 (HT.out.lo HB1.out) (btab_lo HBT.out HB1.out)).mono ?_
    rintro R wz ⟨rfl, hbz⟩
    go_wp2
    go_ret
    exact ⟨rfl, HB1.out.trans (hbz.mono HB1.out.size)⟩
  have i1 : ¬ (100 : Int) < (s.ss.length : Int) := by omega
  by_cases h2 : 100 < t.ss.length
  · have i2 : (100 : Int) < (t.ss.length : Int) := by omega
    clear h1 h2 H1
    go_wp2_with fail
    clear m1 m2
    refine (works18_c w1 (HT.out.lo HB1.out) (btab_lo HBT.out HB1.out)).mono ?_
    rintro R wz ⟨rfl, hbz⟩
    go_wp2
    go_ret
    exact ⟨rfl, HB1.out.trans (hbz.mono HB1.out.size)⟩
  have i2 : ¬ (100 : Int) < (t.ss.length : Int) := by omega
  have HLS := Lib.hid (show s.ss.length ≤ 100 ∧ t.ss.length ≤ 100 by omega)
  have l1 := H1.ldA ty_su18 0 rfl 0 (vs := scs x lo lc ko kc) rfl (Nat.le_of_ble_eq_true rfl)
  clear h1 h2
  go_wp2_with fail
  clear i1 i2 m1 m2
  refine (made18_c x lo lc ko kc w1 (HA.out.to HB1.out) HFW.out).mono ?_
  rintro R w2 ⟨g, gd, hh, gr, ko6, kc6, S1, S2, rfl, hbp⟩
  obtain ⟨p0, hp0⟩ : ∃ p0 : Pw, p0 = ⟨x.fu, x.ks, 0, false, mkE (1 + x.q) [] x.L⟩ := ⟨_, rfl⟩
  obtain ⟨q, hq⟩ : ∃ q, q = 1 + x.q := ⟨_, rfl⟩
  have B2 := Lib.hid hbp
  rw [← hp0, ← hq] at B2
  have HL2 := Lib.hid (show Loc w.heap.size w w2 [(w.heap.size + 1, 35, wcs s t ao ac bo bc)] from (H1.to hbp.be).sub (by simp))
  have HN0 := Lib.hid (show p0.n ≤ 0 from by rw [hp0]; exact Nat.le_refl _)
  have HW1 := Lib.hid (show w.heap.size + 1 < w1.heap.size from H1.low (e := (w.heap.size + 1, 35, wcs s t ao ac bo bc)) (by simp))
  have HPX : Hid (∃ S1 S2 p, p.n ≤ 0 ∧ BothP w1 w2 g gd hh gr q ko6 ko kc6 kc p p S1 S2) := ⟨S1, S2, p0, HN0.out, B2.out⟩
  clear hbp hp0 hq H1 l1 B2 HN0
  go_wp2
  go_loopw [7] (fun iv wr => ∃ k : Nat, k ≤ 2 ∧ iv = .int .i64 (k : Int) ∧ Hid (∃ S1 S2 p, p.n ≤ 5 * k ∧ BothP w1 wr g gd hh gr q ko6 ko kc6 kc p p S1 S2) ∧ Hid (Loc w.heap.size w wr [(w.heap.size + 1, 35, wcs s t ao ac bo bc)])) (fun iv _ => 2 - (intOf iv).toNat)
  case atStart => exact ⟨0, by omega, rfl, HPX.out, HL2.out⟩
  case round =>
    obtain ⟨k, hk, rfl, HPP, HL⟩ := hrel
    clear HPX HL2
    have hk3 : k = 0 ∨ k = 1 ∨ k = 2 := by omega
    rcases hk3 with rfl | rfl | rfl
    · obtain ⟨R1, R2, p, hpn, hbp⟩ := HPP.out
      have HPN := Lib.hid hpn
      have BT := Lib.hid hbp.trim
      have HLOW := Lib.hid (show w1.heap.size ≤ wr.heap.size from hbp.be.size)
      have l3 := HL.out.ldA ty_state 0 rfl 0 (vs := stc s ao ac) rfl (Nat.le_of_ble_eq_true rfl)
      have HSR := Lib.hid (shs_to HS1.out HL.out.be)
      have HGW := Lib.hid (show g < wr.heap.size ∧ hh < wr.heap.size from ⟨hbp.d.lt, hbp.r.blk.lt⟩)
      clear hbp hpn HPP
      go_wp2_with fail
      clear l3
      refine (refCopy_c s ao ac wr HSR.out HN1.out (by have := HLS.out.1; omega)).mono ?_
      rintro R w3 ⟨eo, ec, rfl, hown, -, hb3⟩
      have HSO := Lib.hid (show Shs w3 eo s.ss from shs_own hown rfl HF1.out.2.2.2.2.1)
      have HEO := Lib.hid (show ∀ a, eo = some a → wr.heap.size ≤ a.block from fun a e => (hown.lt a.block (by rw [e]; rfl)).1)
      have L3 := HL.out.grown hb3
      obtain ⟨g8, w4, z4, s4, L4, q4⟩ := L3.newA ty_state #[.int .u64 0, .int .u64 0, .int .i32 0, .int .i32 0, .int .i32 0, .int .i32 0, .int .u8 0, .int .u8 0, .int .u8 0, .int .i32 0, .int .i32 0, .int .i32 0, .int .i32 0, .int .u8 0, .int .u8 0, .int .u8 0, .slice none 0 0, .int .u16 0, .int .u16 0] (stc s eo ec) rfl rfl rfl
      replace L4 : Loc _ _ _ [(w.heap.size + 1, 35, wcs s t ao ac bo bc), (g8, 34, stc s eo ec)] := L4
      have HL4 := Lib.hid L4
      have HG8 := Lib.hid (show wr.heap.size ≤ g8 from z4 ▸ hb3.size)
      have B4 := Lib.hid ((BT.out.new (below_of_grown hb3)).new (below_of_grown q4))
      have HO4 := Lib.hid (shs_to HSO.out (below_of_grown q4))
      have HR4 := Lib.hid (shs_to (shs_to HSR.out (below_of_grown hb3)) (below_of_grown q4))
      have HGL := Lib.hid (show g8 < w4.heap.size from L4.low (e := (g8, 34, stc s eo ec)) (by simp))
      clear hown hb3 L3 L4 q4 BT HSO HSR HL
      go_upto_region 10 with fail
      clear s4 z4
      obtain ⟨wd, hwd⟩ : ∃ wd, wd = w4.drew := ⟨_, rfl⟩
      have b4 : Below w4.heap.size w4 wd := hwd ▸ (Below.refl _ w4).drew
      have W1 := Lib.hid ((B4.out.new b4).wide1)
      have Ld := Lib.hid (HL4.out.to b4)
      have HOd := Lib.hid (shs_to HO4.out b4)
      have HRd := Lib.hid (shs_to HR4.out b4)
      have HGd := Lib.hid (show g8 < wd.heap.size from Nat.lt_of_lt_of_le HGL.out b4.size)
      have C0 := Ld.out.get 0 rfl
      have C1 := Ld.out.get 1 rfl
      have t0 : Stay2 wd (w.heap.size + 1) g8 wd := ⟨rfl, rfl⟩
      have a1 : ∀ W, Stay2 wd (w.heap.size + 1) g8 W → (ldT 34 (.pointer (some ⟨w.heap.size + 1, 0, none⟩))).run Tryz.prog W = .ok (.agg (stc s ao ac)) W := fun W hW => run_ldA ty_state (hW.1.trans C0) 0 (Nat.le_of_ble_eq_true rfl)
      have a2 : ∀ W, Stay2 wd (w.heap.size + 1) g8 W → (ldT 34 (.pointer (some ⟨g8, 0, none⟩))).run Tryz.prog W = .ok (.agg (stc s eo ec)) W := fun W hW => run_ldA ty_state (hW.2.trans C1) 0 (Nat.le_of_ble_eq_true rfl)
      -- what stays of the two blocks and of the two rows, whatever the powers turn
      have HKP : Hid (∀ (W W' : World) (T : Nat → Prop), wd.heap.size ≤ W.heap.size → Tu T W W' → (∀ z, T z → w1.heap.size ≤ z ∧ (z < wr.heap.size ∨ wd.heap.size ≤ z)) → (Stay2 wd (w.heap.size + 1) g8 W → Stay2 wd (w.heap.size + 1) g8 W') ∧ (Shs W eo s.ss ∧ (∀ a, eo = some a → s.ss ≠ [] → a.block < wd.heap.size) → Shs W' eo s.ss) ∧ (Shs W ao s.ss → Shs W' ao s.ss)) := fun W W' T hsz hT hTT => by
        have e1 := HW1.out
        have e2 := HGd.out
        have e3 := HG8.out
        have e4 := HLOW.out
        refine ⟨fun h => ⟨(hT.block _ (by omega) (fun hx => by have := hTT _ hx; omega)).trans h.1, (hT.block _ (by omega) (fun hx => by have := hTT _ hx; omega)).trans h.2⟩, fun h => shs_tu h.1 hT (fun a e hn hx => ?_), fun h => shs_tu h hT (fun a e hn hx => ?_)⟩
        · have h1 := hTT _ hx
          have h2 := HEO.out a e
          have h3 := h.2 a e hn
          omega
        · have h1 := hTT _ hx
          have h2 := shs_lt HS1.out a e hn
          omega
      have HB1T := Lib.hid (show ∀ z, (z = g ∨ ((R1 z ∧ z < wr.heap.size) ∨ wd.heap.size ≤ z)) → w1.heap.size ≤ z ∧ (z < wr.heap.size ∨ wd.heap.size ≤ z) from fun z hz => ⟨W1.out.lo1 z hz, by
        rcases hz with rfl | ⟨_, h⟩ | h
        · exact .inl HGW.out.1
        · exact .inl h
        · exact .inr h⟩)
      have HB2T := Lib.hid (show ∀ (W : World), wd.heap.size ≤ W.heap.size → ∀ z, (z = hh ∨ (((R2 z ∧ z < wr.heap.size) ∧ z < wd.heap.size) ∨ W.heap.size ≤ z)) → w1.heap.size ≤ z ∧ (z < wr.heap.size ∨ wd.heap.size ≤ z) from fun W hW z hz => by
        rcases hz with rfl | ⟨⟨h1, h2⟩, h3⟩ | h
        · exact ⟨W1.out.lo2 _ (.inl rfl), .inl HGW.out.2⟩
        · exact ⟨W1.out.lo2 z (.inr ⟨⟨h1, h2⟩, h3⟩), .inl h2⟩
        · exact ⟨by have h1 := HLOW.out; have h2 := HG8.out; have h3 := HGd.out; omega, .inr (by omega)⟩)
      have HEL := Lib.hid (shs_lt HOd.out)
      have KW := Lib.hid (kwrite_c s eo ec wd W1.out.d (fun x hx => .inr hx) HOd.out HF1.out (by have := HPN.out; omega) (HT.out.lo Ld.out.be) (btab_lo HBT.out Ld.out.be))
      obtain ⟨e, he⟩ : ∃ e : Int, e = ((kwE q s p : Nat) : Int) := ⟨_, rfl⟩
      have KV : Hid (∀ (W : World) (T : Nat → Prop), QwC T W hh gr q ko kc p → (∀ x, W.heap.size ≤ x → T x) → Shs W ao s.ss → Calls Tryz.prog 12 #[.pointer (some ⟨hh, 0, none⟩), sv s ao ac] W fun R w' => R = .returned (.int .i64 e) ∧ QwC T w' hh gr q ko kc (kwP q s p) ∧ Tu (fun x => x = hh ∨ T x) W w') := fun W T h1 h2 h3 => by
        have := rkwrite_c s ao ac W h1 h2 h3 HF1.out (by have := HPN.out; omega)
        unfold KvPost at this
        rw [← he] at this
        exact this
      unfold KwPost at KW
      rw [← he] at KW
      have HKS : Hid ((kwP q s p).ks = p.ks) := kwP_ks _ _ _
      have HKN : Hid ((kwP q s p).n ≤ 5 * (0 + 1)) := by show _ ≤ _; have h1 := kwP_n q s p; have h2 := HPN.out; omega
      obtain ⟨p1, hp1⟩ : ∃ p1, p1 = kwP q s p := ⟨_, rfl⟩
      rw [← hp1] at KW KV HKS HKN
      have hee : (e != e) = false := bne_self_eq_false e
      clear hp1 he HL4 HGL HO4 HR4 B4
      go_cut [64] (fun v wx => v = .bool false ∧ Hid (∃ S1 S2 p, p.n ≤ 5 * (0 + 1) ∧ BothP w1 wx g gd hh gr q ko6 ko kc6 kc p p S1 S2) ∧ Hid (Loc w.heap.size w wx [(w.heap.size + 1, 35, wcs s t ao ac bo bc)]))
      case first =>
        refine wp_region_till (S := Stay2 wd (w.heap.size + 1) g8) (by kernel_rfl) ?_
        rw [← hwd]
        clear hwd b4
        refine wpTill_take (i := 0) (v := ?vq7) rfl (by kernel_rfl) (fun _ _ _ h => h) (Or.inl ⟨by rfl, ?hq7⟩) t0 ?rq7
        case hq7 => (intro W hW; (try dsimp only at hW); go_simp; try with_reducible rfl)
        simp only [Act.put, List.setIfInBounds_toArray, List.set_cons_zero, List.set_cons_succ, List.getElem_toArray, List.getElem_cons_succ, List.getElem_cons_zero]
        refine wpTill_take (i := 1) (v := ?vq8) rfl (by kernel_rfl) (fun _ _ _ h => h) (Or.inl ⟨by rfl, ?hq8⟩) t0 ?rq8
        case hq8 => (intro W hW; (try dsimp only at hW); go_simp; try with_reducible rfl)
        simp only [Act.put, List.setIfInBounds_toArray, List.set_cons_zero, List.set_cons_succ, List.getElem_toArray, List.getElem_cons_succ, List.getElem_cons_zero]
        refine wpTill_take (i := 3) (v := ?vq9) rfl (by kernel_rfl) (fun _ _ _ h => h) (Or.inl ⟨by rfl, ?hq9⟩) t0 ?rq9
        case hq9 => (intro W hW; (try dsimp only at hW); go_simp; try with_reducible rfl)
        simp only [Act.put, List.setIfInBounds_toArray, List.set_cons_zero, List.set_cons_succ, List.getElem_toArray, List.getElem_cons_succ, List.getElem_cons_zero]
        refine wpTill_take (i := 4) (v := ?vq10) rfl (by kernel_rfl) (fun _ _ _ h => h) (Or.inl ⟨by rfl, ?hq10⟩) t0 ?rq10
        case hq10 => (intro W hW; (try dsimp only at hW); go_simp; try with_reducible rfl)
        simp only [Act.put, List.setIfInBounds_toArray, List.set_cons_zero, List.set_cons_succ, List.getElem_toArray, List.getElem_cons_succ, List.getElem_cons_zero]
        refine wpTill_take (i := 5) (v := ?vq11) rfl (by kernel_rfl) (fun _ _ _ h => h) (Or.inl ⟨by rfl, ?hq11⟩) t0 ?rq11
        case hq11 => (intro W hW; (try dsimp only at hW); go_simp; try with_reducible rfl)
        simp only [Act.put, List.setIfInBounds_toArray, List.set_cons_zero, List.set_cons_succ, List.getElem_toArray, List.getElem_cons_succ, List.getElem_cons_zero]
        refine wpTill_take (i := 6) (v := ?vq12) rfl (by kernel_rfl) (fun _ _ _ h => h) (Or.inl ⟨by rfl, ?hq12⟩) t0 ?rq12
        case hq12 => (intro W hW; (try dsimp only at hW); go_simp; try with_reducible rfl)
        simp only [Act.put, List.setIfInBounds_toArray, List.set_cons_zero, List.set_cons_succ, List.getElem_toArray, List.getElem_cons_succ, List.getElem_cons_zero]
        refine wpTill_run (i := 2) (by kernel_rfl) rfl t0 (fun K hK => ?_)
        go_simp
        go_at_call 11
        refine KW.out.mono ?_
        rintro R w5 ⟨rfl, hp5, ht5⟩
        obtain ⟨k1, k2, k3⟩ := HKP.out wd w5 _ (Nat.le_refl _) ht5 HB1T.out
        have B5 := Lib.hid ((W1.out.s1 hp5 HKS.out ht5).wide2)
        have t1 := k1 t0
        have HO5 := Lib.hid (k2 ⟨HOd.out, HEL.out⟩)
        have HR5 := Lib.hid (k3 HRd.out)
        have HSZ5 := Lib.hid ht5.size
        clear hp5 ht5 k1 k2 k3 KW
        refine hK _ _ ?_
        clear hK K
        refine wpTill_run (i := 7) (by kernel_rfl) rfl t1 (fun K hK => ?_)
        go_simp
        go_at_call 12
        refine (KV.out w5 _ B5.out.r (fun x hx => .inr hx) HR5.out).mono ?_
        rintro R w6 ⟨rfl, hq6, ht6⟩
        obtain ⟨k1, k2, k3⟩ := HKP.out w5 w6 _ HSZ5.out ht6 (fun z hz => HB2T.out w5 HSZ5.out z hz)
        have B6 := Lib.hid (B5.out.s2 hq6 HKS.out ht6)
        have t2 := k1 t1
        have HO6 := Lib.hid (k2 ⟨HO5.out, HEL.out⟩)
        have HR6 := Lib.hid (k3 HR5.out)
        have HSZ6 := Lib.hid (Nat.le_trans HSZ5.out ht6.size)
        clear hq6 ht6 k1 k2 k3 KV B5 HO5 HR5 t1
        refine hK _ _ ?_
        clear hK K
        refine wpTill_take (i := 8) (v := ?vq13) rfl (by kernel_rfl) (fun _ _ _ h => h) (Or.inl ⟨by rfl, ?hq13⟩) t2 ?rq13
        case hq13 => (intro W hW; (try dsimp only at hW); go_simp; try with_reducible rfl)
        simp only [Act.put, List.setIfInBounds_toArray, List.set_cons_zero, List.set_cons_succ, List.getElem_toArray, List.getElem_cons_succ, List.getElem_cons_zero]
        refine wpTill_take (i := 9) (v := ?vq14) rfl (by kernel_rfl) (fun _ _ _ h => h) (Or.inl ⟨by rfl, ?hq14⟩) t2 ?rq14
        case hq14 => (intro W hW; (try dsimp only at hW); go_simp; try with_reducible rfl)
        simp only [Act.put, List.setIfInBounds_toArray, List.set_cons_zero, List.set_cons_succ, List.getElem_toArray, List.getElem_cons_succ, List.getElem_cons_zero]
        refine wpTill_take (i := 10) (v := ?vq15) rfl (by kernel_rfl) (fun _ _ _ h => h) (Or.inl ⟨by rfl, ?hq15⟩) t2 ?rq15
        case hq15 => (intro W hW; (try dsimp only at hW); go_simp; try with_reducible rfl)
        simp only [Act.put, List.setIfInBounds_toArray, List.set_cons_zero, List.set_cons_succ, List.getElem_toArray, List.getElem_cons_succ, List.getElem_cons_zero]
        refine wpTill_take (i := 11) (v := ?vq16) rfl (by kernel_rfl) (fun _ _ _ h => h) (Or.inl ⟨by rfl, ?hq16⟩) t2 ?rq16
        case hq16 => (intro W hW; (try dsimp only at hW); go_simp; try with_reducible rfl)
        simp only [Act.put, List.setIfInBounds_toArray, List.set_cons_zero, List.set_cons_succ, List.getElem_toArray, List.getElem_cons_succ, List.getElem_cons_zero]
        refine wpTill_take (i := 12) (v := ?vq17) rfl (by kernel_rfl) (fun _ _ _ h => h) (Or.inl ⟨by rfl, ?hq17⟩) t2 ?rq17
        case hq17 => (intro W hW; (try dsimp only at hW); go_simp; try with_reducible rfl)
        simp only [Act.put, List.setIfInBounds_toArray, List.set_cons_zero, List.set_cons_succ, List.getElem_toArray, List.getElem_cons_succ, List.getElem_cons_zero]
        refine wpTill_take (i := 13) (v := ?vq18) rfl (by kernel_rfl) (fun _ _ _ h => h) (Or.inl ⟨by rfl, ?hq18⟩) t2 ?rq18
        case hq18 => (intro W hW; (try dsimp only at hW); go_simp; try with_reducible rfl)
        simp only [Act.put, List.setIfInBounds_toArray, List.set_cons_zero, List.set_cons_succ, List.getElem_toArray, List.getElem_cons_succ, List.getElem_cons_zero]
        refine wpTill_run (i := 14) (by kernel_rfl) rfl t2 (fun K hK => ?_)
        go_simp
        go_at_call 13
        refine (refSame_c s s eo ao ec ac w6 HO6.out HR6.out (by have := HLS.out.1; simp only [maxLen]; omega) (by have := HLS.out.1; simp only [maxLen]; omega)).mono ?_
        rintro R w7 ⟨rfl, hb7⟩
        rw [sm_self]
        have B7 := Lib.hid (B6.out.new (below_of_grown hb7))
        have t3 : Stay2 wd (w.heap.size + 1) g8 w7 := ⟨(hb7.block _ (by have h1 := HW1.out; have h2 := HLOW.out; have h3 := HG8.out; have h4 := HGd.out; have h5 := HSZ6.out; omega) (by simp)).trans t2.1, (hb7.block _ (by have h4 := HGd.out; have h5 := HSZ6.out; omega) (by simp)).trans t2.2⟩
        clear hb7 HO6 HR6
        refine hK _ _ ?_
        clear hK K
        refine wpTill_take (i := 15) (v := ?vq19) rfl (by kernel_rfl) (fun _ _ _ h => h) (Or.inl ⟨by rfl, ?hq19⟩) t3 ?rq19
        case hq19 => (intro W hW; (try dsimp only at hW); go_simp; try with_reducible rfl)
        simp only [Act.put, List.setIfInBounds_toArray, List.set_cons_zero, List.set_cons_succ, List.getElem_toArray, List.getElem_cons_succ, List.getElem_cons_zero]
        refine wpTill_run (i := 16) (by kernel_rfl) rfl t3 (fun K hK => ?_)
        go_simp
        refine hK _ _ ?_
        clear hK K
        refine wpTill_done (by kernel_rfl) ?_
        have LX := Lib.hid (show Loc w.heap.size w w7 [(w.heap.size + 1, 35, wcs s t ao ac bo bc)] from ⟨Nat.le_refl _, HB1.out.trans (B7.out.be.mono HB1.out.size), fun e he => by rw [List.mem_singleton] at he; subst he; show w.heap.size ≤ w.heap.size + 1; omega, by simp, fun e he => by rw [List.mem_singleton] at he; subst he; exact t3.1.trans C0⟩)
        go_wp2_with fail
        go_meet
        exact ⟨rfl, ⟨_, _, p1, HKN.out, B7.out⟩, LX.out⟩
      case rest =>
      obtain ⟨rfl, HPY, HLX⟩ := hcut
      clear a1 a2 t0 hee KW KV C0 C1 hwd b4
      go_wp2
      go_roundw
      case rel => exact ⟨0 + 1, by omega, by first | rfl | go_num, HPY.out, HLX.out⟩
      case measure => simp [intOf]
    · obtain ⟨R1, R2, p, hpn, hbp⟩ := HPP.out
      have HPN := Lib.hid hpn
      have BT := Lib.hid hbp.trim
      have HLOW := Lib.hid (show w1.heap.size ≤ wr.heap.size from hbp.be.size)
      have l3 := HL.out.ldA ty_state 0 rfl 19 (vs := stc t bo bc) rfl (Nat.le_of_ble_eq_true rfl)
      have HSR := Lib.hid (shs_to HS2.out HL.out.be)
      have HGW := Lib.hid (show g < wr.heap.size ∧ hh < wr.heap.size from ⟨hbp.d.lt, hbp.r.blk.lt⟩)
      clear hbp hpn HPP
      go_wp2_with fail
      clear l3
      refine (refCopy_c t bo bc wr HSR.out HN2.out (by have := HLS.out.2; omega)).mono ?_
      rintro R w3 ⟨eo, ec, rfl, hown, -, hb3⟩
      have HSO := Lib.hid (show Shs w3 eo t.ss from shs_own hown rfl HF2.out.2.2.2.2.1)
      have HEO := Lib.hid (show ∀ a, eo = some a → wr.heap.size ≤ a.block from fun a e => (hown.lt a.block (by rw [e]; rfl)).1)
      have L3 := HL.out.grown hb3
      obtain ⟨g8, w4, z4, s4, L4, q4⟩ := L3.newA ty_state #[.int .u64 0, .int .u64 0, .int .i32 0, .int .i32 0, .int .i32 0, .int .i32 0, .int .u8 0, .int .u8 0, .int .u8 0, .int .i32 0, .int .i32 0, .int .i32 0, .int .i32 0, .int .u8 0, .int .u8 0, .int .u8 0, .slice none 0 0, .int .u16 0, .int .u16 0] (stc t eo ec) rfl rfl rfl
      replace L4 : Loc _ _ _ [(w.heap.size + 1, 35, wcs s t ao ac bo bc), (g8, 34, stc t eo ec)] := L4
      have HL4 := Lib.hid L4
      have HG8 := Lib.hid (show wr.heap.size ≤ g8 from z4 ▸ hb3.size)
      have B4 := Lib.hid ((BT.out.new (below_of_grown hb3)).new (below_of_grown q4))
      have HO4 := Lib.hid (shs_to HSO.out (below_of_grown q4))
      have HR4 := Lib.hid (shs_to (shs_to HSR.out (below_of_grown hb3)) (below_of_grown q4))
      have HGL := Lib.hid (show g8 < w4.heap.size from L4.low (e := (g8, 34, stc t eo ec)) (by simp))
      clear hown hb3 L3 L4 q4 BT HSO HSR HL
      go_upto_region 10 with fail
      clear s4 z4
      obtain ⟨wd, hwd⟩ : ∃ wd, wd = w4.drew := ⟨_, rfl⟩
      have b4 : Below w4.heap.size w4 wd := hwd ▸ (Below.refl _ w4).drew
      have W1 := Lib.hid ((B4.out.new b4).wide1)
      have Ld := Lib.hid (HL4.out.to b4)
      have HOd := Lib.hid (shs_to HO4.out b4)
      have HRd := Lib.hid (shs_to HR4.out b4)
      have HGd := Lib.hid (show g8 < wd.heap.size from Nat.lt_of_lt_of_le HGL.out b4.size)
      have C0 := Ld.out.get 0 rfl
      have C1 := Ld.out.get 1 rfl
      have t0 : Stay2 wd (w.heap.size + 1) g8 wd := ⟨rfl, rfl⟩
      have a1 : ∀ W, Stay2 wd (w.heap.size + 1) g8 W → (ldT 34 (.pointer (some ⟨w.heap.size + 1, 19, none⟩))).run Tryz.prog W = .ok (.agg (stc t bo bc)) W := fun W hW => run_ldA ty_state (hW.1.trans C0) 19 (Nat.le_of_ble_eq_true rfl)
      have a2 : ∀ W, Stay2 wd (w.heap.size + 1) g8 W → (ldT 34 (.pointer (some ⟨g8, 0, none⟩))).run Tryz.prog W = .ok (.agg (stc t eo ec)) W := fun W hW => run_ldA ty_state (hW.2.trans C1) 0 (Nat.le_of_ble_eq_true rfl)
      -- what stays of the two blocks and of the two rows, whatever the powers turn
      have HKP : Hid (∀ (W W' : World) (T : Nat → Prop), wd.heap.size ≤ W.heap.size → Tu T W W' → (∀ z, T z → w1.heap.size ≤ z ∧ (z < wr.heap.size ∨ wd.heap.size ≤ z)) → (Stay2 wd (w.heap.size + 1) g8 W → Stay2 wd (w.heap.size + 1) g8 W') ∧ (Shs W eo t.ss ∧ (∀ a, eo = some a → t.ss ≠ [] → a.block < wd.heap.size) → Shs W' eo t.ss) ∧ (Shs W bo t.ss → Shs W' bo t.ss)) := fun W W' T hsz hT hTT => by
        have e1 := HW1.out
        have e2 := HGd.out
        have e3 := HG8.out
        have e4 := HLOW.out
        refine ⟨fun h => ⟨(hT.block _ (by omega) (fun hx => by have := hTT _ hx; omega)).trans h.1, (hT.block _ (by omega) (fun hx => by have := hTT _ hx; omega)).trans h.2⟩, fun h => shs_tu h.1 hT (fun a e hn hx => ?_), fun h => shs_tu h hT (fun a e hn hx => ?_)⟩
        · have h1 := hTT _ hx
          have h2 := HEO.out a e
          have h3 := h.2 a e hn
          omega
        · have h1 := hTT _ hx
          have h2 := shs_lt HS2.out a e hn
          omega
      have HB1T := Lib.hid (show ∀ z, (z = g ∨ ((R1 z ∧ z < wr.heap.size) ∨ wd.heap.size ≤ z)) → w1.heap.size ≤ z ∧ (z < wr.heap.size ∨ wd.heap.size ≤ z) from fun z hz => ⟨W1.out.lo1 z hz, by
        rcases hz with rfl | ⟨_, h⟩ | h
        · exact .inl HGW.out.1
        · exact .inl h
        · exact .inr h⟩)
      have HB2T := Lib.hid (show ∀ (W : World), wd.heap.size ≤ W.heap.size → ∀ z, (z = hh ∨ (((R2 z ∧ z < wr.heap.size) ∧ z < wd.heap.size) ∨ W.heap.size ≤ z)) → w1.heap.size ≤ z ∧ (z < wr.heap.size ∨ wd.heap.size ≤ z) from fun W hW z hz => by
        rcases hz with rfl | ⟨⟨h1, h2⟩, h3⟩ | h
        · exact ⟨W1.out.lo2 _ (.inl rfl), .inl HGW.out.2⟩
        · exact ⟨W1.out.lo2 z (.inr ⟨⟨h1, h2⟩, h3⟩), .inl h2⟩
        · exact ⟨by have h1 := HLOW.out; have h2 := HG8.out; have h3 := HGd.out; omega, .inr (by omega)⟩)
      have HEL := Lib.hid (shs_lt HOd.out)
      have KW := Lib.hid (kwrite_c t eo ec wd W1.out.d (fun x hx => .inr hx) HOd.out HF2.out (by have := HPN.out; omega) (HT.out.lo Ld.out.be) (btab_lo HBT.out Ld.out.be))
      obtain ⟨e, he⟩ : ∃ e : Int, e = ((kwE q t p : Nat) : Int) := ⟨_, rfl⟩
      have KV : Hid (∀ (W : World) (T : Nat → Prop), QwC T W hh gr q ko kc p → (∀ x, W.heap.size ≤ x → T x) → Shs W bo t.ss → Calls Tryz.prog 12 #[.pointer (some ⟨hh, 0, none⟩), sv t bo bc] W fun R w' => R = .returned (.int .i64 e) ∧ QwC T w' hh gr q ko kc (kwP q t p) ∧ Tu (fun x => x = hh ∨ T x) W w') := fun W T h1 h2 h3 => by
        have := rkwrite_c t bo bc W h1 h2 h3 HF2.out (by have := HPN.out; omega)
        unfold KvPost at this
        rw [← he] at this
        exact this
      unfold KwPost at KW
      rw [← he] at KW
      have HKS : Hid ((kwP q t p).ks = p.ks) := kwP_ks _ _ _
      have HKN : Hid ((kwP q t p).n ≤ 5 * (1 + 1)) := by show _ ≤ _; have h1 := kwP_n q t p; have h2 := HPN.out; omega
      obtain ⟨p1, hp1⟩ : ∃ p1, p1 = kwP q t p := ⟨_, rfl⟩
      rw [← hp1] at KW KV HKS HKN
      have hee : (e != e) = false := bne_self_eq_false e
      clear hp1 he HL4 HGL HO4 HR4 B4
      go_cut [64] (fun v wx => v = .bool false ∧ Hid (∃ S1 S2 p, p.n ≤ 5 * (1 + 1) ∧ BothP w1 wx g gd hh gr q ko6 ko kc6 kc p p S1 S2) ∧ Hid (Loc w.heap.size w wx [(w.heap.size + 1, 35, wcs s t ao ac bo bc)]))
      case first =>
        refine wp_region_till (S := Stay2 wd (w.heap.size + 1) g8) (by kernel_rfl) ?_
        rw [← hwd]
        clear hwd b4
        refine wpTill_take (i := 0) (v := ?vq26) rfl (by kernel_rfl) (fun _ _ _ h => h) (Or.inl ⟨by rfl, ?hq26⟩) t0 ?rq26
        case hq26 => (intro W hW; (try dsimp only at hW); go_simp; try with_reducible rfl)
        simp only [Act.put, List.setIfInBounds_toArray, List.set_cons_zero, List.set_cons_succ, List.getElem_toArray, List.getElem_cons_succ, List.getElem_cons_zero]
        refine wpTill_take (i := 1) (v := ?vq27) rfl (by kernel_rfl) (fun _ _ _ h => h) (Or.inl ⟨by rfl, ?hq27⟩) t0 ?rq27
        case hq27 => (intro W hW; (try dsimp only at hW); go_simp; try with_reducible rfl)
        simp only [Act.put, List.setIfInBounds_toArray, List.set_cons_zero, List.set_cons_succ, List.getElem_toArray, List.getElem_cons_succ, List.getElem_cons_zero]
        refine wpTill_take (i := 3) (v := ?vq28) rfl (by kernel_rfl) (fun _ _ _ h => h) (Or.inl ⟨by rfl, ?hq28⟩) t0 ?rq28
        case hq28 => (intro W hW; (try dsimp only at hW); go_simp; try with_reducible rfl)
        simp only [Act.put, List.setIfInBounds_toArray, List.set_cons_zero, List.set_cons_succ, List.getElem_toArray, List.getElem_cons_succ, List.getElem_cons_zero]
        refine wpTill_take (i := 4) (v := ?vq29) rfl (by kernel_rfl) (fun _ _ _ h => h) (Or.inl ⟨by rfl, ?hq29⟩) t0 ?rq29
        case hq29 => (intro W hW; (try dsimp only at hW); go_simp; try with_reducible rfl)
        simp only [Act.put, List.setIfInBounds_toArray, List.set_cons_zero, List.set_cons_succ, List.getElem_toArray, List.getElem_cons_succ, List.getElem_cons_zero]
        refine wpTill_take (i := 5) (v := ?vq30) rfl (by kernel_rfl) (fun _ _ _ h => h) (Or.inl ⟨by rfl, ?hq30⟩) t0 ?rq30
        case hq30 => (intro W hW; (try dsimp only at hW); go_simp; try with_reducible rfl)
        simp only [Act.put, List.setIfInBounds_toArray, List.set_cons_zero, List.set_cons_succ, List.getElem_toArray, List.getElem_cons_succ, List.getElem_cons_zero]
        refine wpTill_take (i := 6) (v := ?vq31) rfl (by kernel_rfl) (fun _ _ _ h => h) (Or.inl ⟨by rfl, ?hq31⟩) t0 ?rq31
        case hq31 => (intro W hW; (try dsimp only at hW); go_simp; try with_reducible rfl)
        simp only [Act.put, List.setIfInBounds_toArray, List.set_cons_zero, List.set_cons_succ, List.getElem_toArray, List.getElem_cons_succ, List.getElem_cons_zero]
        refine wpTill_run (i := 2) (by kernel_rfl) rfl t0 (fun K hK => ?_)
        go_simp
        go_at_call 11
        refine KW.out.mono ?_
        rintro R w5 ⟨rfl, hp5, ht5⟩
        obtain ⟨k1, k2, k3⟩ := HKP.out wd w5 _ (Nat.le_refl _) ht5 HB1T.out
        have B5 := Lib.hid ((W1.out.s1 hp5 HKS.out ht5).wide2)
        have t1 := k1 t0
        have HO5 := Lib.hid (k2 ⟨HOd.out, HEL.out⟩)
        have HR5 := Lib.hid (k3 HRd.out)
        have HSZ5 := Lib.hid ht5.size
        clear hp5 ht5 k1 k2 k3 KW
        refine hK _ _ ?_
        clear hK K
        refine wpTill_run (i := 7) (by kernel_rfl) rfl t1 (fun K hK => ?_)
        go_simp
        go_at_call 12
        refine (KV.out w5 _ B5.out.r (fun x hx => .inr hx) HR5.out).mono ?_
        rintro R w6 ⟨rfl, hq6, ht6⟩
        obtain ⟨k1, k2, k3⟩ := HKP.out w5 w6 _ HSZ5.out ht6 (fun z hz => HB2T.out w5 HSZ5.out z hz)
        have B6 := Lib.hid (B5.out.s2 hq6 HKS.out ht6)
        have t2 := k1 t1
        have HO6 := Lib.hid (k2 ⟨HO5.out, HEL.out⟩)
        have HR6 := Lib.hid (k3 HR5.out)
        have HSZ6 := Lib.hid (Nat.le_trans HSZ5.out ht6.size)
        clear hq6 ht6 k1 k2 k3 KV B5 HO5 HR5 t1
        refine hK _ _ ?_
        clear hK K
        refine wpTill_take (i := 8) (v := ?vq32) rfl (by kernel_rfl) (fun _ _ _ h => h) (Or.inl ⟨by rfl, ?hq32⟩) t2 ?rq32
        case hq32 => (intro W hW; (try dsimp only at hW); go_simp; try with_reducible rfl)
        simp only [Act.put, List.setIfInBounds_toArray, List.set_cons_zero, List.set_cons_succ, List.getElem_toArray, List.getElem_cons_succ, List.getElem_cons_zero]
        refine wpTill_take (i := 9) (v := ?vq33) rfl (by kernel_rfl) (fun _ _ _ h => h) (Or.inl ⟨by rfl, ?hq33⟩) t2 ?rq33
        case hq33 => (intro W hW; (try dsimp only at hW); go_simp; try with_reducible rfl)
        simp only [Act.put, List.setIfInBounds_toArray, List.set_cons_zero, List.set_cons_succ, List.getElem_toArray, List.getElem_cons_succ, List.getElem_cons_zero]
        refine wpTill_take (i := 10) (v := ?vq34) rfl (by kernel_rfl) (fun _ _ _ h => h) (Or.inl ⟨by rfl, ?hq34⟩) t2 ?rq34
        case hq34 => (intro W hW; (try dsimp only at hW); go_simp; try with_reducible rfl)
        simp only [Act.put, List.setIfInBounds_toArray, List.set_cons_zero, List.set_cons_succ, List.getElem_toArray, List.getElem_cons_succ, List.getElem_cons_zero]
        refine wpTill_take (i := 11) (v := ?vq35) rfl (by kernel_rfl) (fun _ _ _ h => h) (Or.inl ⟨by rfl, ?hq35⟩) t2 ?rq35
        case hq35 => (intro W hW; (try dsimp only at hW); go_simp; try with_reducible rfl)
        simp only [Act.put, List.setIfInBounds_toArray, List.set_cons_zero, List.set_cons_succ, List.getElem_toArray, List.getElem_cons_succ, List.getElem_cons_zero]
        refine wpTill_take (i := 12) (v := ?vq36) rfl (by kernel_rfl) (fun _ _ _ h => h) (Or.inl ⟨by rfl, ?hq36⟩) t2 ?rq36
        case hq36 => (intro W hW; (try dsimp only at hW); go_simp; try with_reducible rfl)
        simp only [Act.put, List.setIfInBounds_toArray, List.set_cons_zero, List.set_cons_succ, List.getElem_toArray, List.getElem_cons_succ, List.getElem_cons_zero]
        refine wpTill_take (i := 13) (v := ?vq37) rfl (by kernel_rfl) (fun _ _ _ h => h) (Or.inl ⟨by rfl, ?hq37⟩) t2 ?rq37
        case hq37 => (intro W hW; (try dsimp only at hW); go_simp; try with_reducible rfl)
        simp only [Act.put, List.setIfInBounds_toArray, List.set_cons_zero, List.set_cons_succ, List.getElem_toArray, List.getElem_cons_succ, List.getElem_cons_zero]
        refine wpTill_run (i := 14) (by kernel_rfl) rfl t2 (fun K hK => ?_)
        go_simp
        go_at_call 13
        refine (refSame_c t t eo bo ec bc w6 HO6.out HR6.out (by have := HLS.out.2; simp only [maxLen]; omega) (by have := HLS.out.2; simp only [maxLen]; omega)).mono ?_
        rintro R w7 ⟨rfl, hb7⟩
        rw [sm_self]
        have B7 := Lib.hid (B6.out.new (below_of_grown hb7))
        have t3 : Stay2 wd (w.heap.size + 1) g8 w7 := ⟨(hb7.block _ (by have h1 := HW1.out; have h2 := HLOW.out; have h3 := HG8.out; have h4 := HGd.out; have h5 := HSZ6.out; omega) (by simp)).trans t2.1, (hb7.block _ (by have h4 := HGd.out; have h5 := HSZ6.out; omega) (by simp)).trans t2.2⟩
        clear hb7 HO6 HR6
        refine hK _ _ ?_
        clear hK K
        refine wpTill_take (i := 15) (v := ?vq38) rfl (by kernel_rfl) (fun _ _ _ h => h) (Or.inl ⟨by rfl, ?hq38⟩) t3 ?rq38
        case hq38 => (intro W hW; (try dsimp only at hW); go_simp; try with_reducible rfl)
        simp only [Act.put, List.setIfInBounds_toArray, List.set_cons_zero, List.set_cons_succ, List.getElem_toArray, List.getElem_cons_succ, List.getElem_cons_zero]
        refine wpTill_run (i := 16) (by kernel_rfl) rfl t3 (fun K hK => ?_)
        go_simp
        refine hK _ _ ?_
        clear hK K
        refine wpTill_done (by kernel_rfl) ?_
        have LX := Lib.hid (show Loc w.heap.size w w7 [(w.heap.size + 1, 35, wcs s t ao ac bo bc)] from ⟨Nat.le_refl _, HB1.out.trans (B7.out.be.mono HB1.out.size), fun e he => by rw [List.mem_singleton] at he; subst he; show w.heap.size ≤ w.heap.size + 1; omega, by simp, fun e he => by rw [List.mem_singleton] at he; subst he; exact t3.1.trans C0⟩)
        go_wp2_with fail
        go_meet
        exact ⟨rfl, ⟨_, _, p1, HKN.out, B7.out⟩, LX.out⟩
      case rest =>
      obtain ⟨rfl, HPY, HLX⟩ := hcut
      clear a1 a2 t0 hee KW KV C0 C1 hwd b4
      go_wp2
      go_roundw
      case rel => exact ⟨1 + 1, by omega, by first | rfl | go_num, HPY.out, HLX.out⟩
      case measure => simp [intOf]
    · have hlast : ¬ ((2 : Nat) : Int) < 2 := by omega
      obtain ⟨R1, R2, p, -, hbp⟩ := HPP.out
      have BP := Lib.hid hbp
      have HBW := Lib.hid HL.out.be
      clear hbp HPP HL
      go_wp2_with fail
      refine (pdisk_c wr BP.out.d).mono ?_
      rintro R w' ⟨rfl, rfl⟩
      go_wp2_with fail
      refine (list_s wr BP.out.d.dk).mono ?_
      rintro R w3 ⟨u, rfl, hu, hb3⟩
      obtain ⟨uo, uc, rfl⟩ := hu.sl
      have HU := Lib.hid hu
      have B3 := Lib.hid (BP.out.new hb3)
      have HBW3 := Lib.hid (HBW.out.trans (hb3.mono HBW.out.size))
      have HNL := Lib.hid (show (p.E.map Ent.nm).length ≤ 1000 from by have := BP.out.d.dk.good.len; rw [List.length_map]; omega)
      have HNM := Lib.hid (fun (k : Nat) (hk : k < (p.E.map Ent.nm).length) => nm_len BP.out.d.dk.good hk)
      obtain ⟨NN, hNN⟩ : ∃ NN, NN = p.E.map Ent.nm := ⟨_, rfl⟩
      have LR : Hid (∀ W, Below w3.heap.size w3 W → Calls Tryz.prog 17 #[.pointer (some ⟨gr, 0, none⟩)] W fun R w' => ∃ u, R = .returned u ∧ Lst w' W.heap.size u NN ∧ Below W.heap.size W w') := fun W hW => by
        obtain ⟨ao, cp, hk⟩ := RkS.of (B3.out.new hW).r.rk
        rw [hNN]
        exact rlist_c hk
      rw [← hNN] at HU HNL HNM ⊢
      clear hNN hu hb3 BP HBW
      go_upto_region 13 with fail
      have c0 := fun W (hW : Below w3.heap.size w3 W) => (B3.out.r.new hW).c0
      have c3 := fun W (hW : Below w3.heap.size w3 W) => (B3.out.r.new hW).c3
      have c4 := fun W (hW : Below w3.heap.size w3 W) => (B3.out.r.new hW).c4
      have hnn : ((p.n : Int) != (p.n : Int)) = false := bne_self_eq_false _
      have hoo : (p.off != p.off) = false := bne_self_eq_false _
      have o0 : G.On w3.heap.size w3 w3.drew := (Below.refl _ w3).drew
      go_cut [93] (fun v wx => v = .bool false ∧ Hid (Below w3.heap.size w3 wx))
      case first =>
        refine wp_region_till (S := fun W => Below w3.heap.size w3 W) (by kernel_rfl) ?_
        refine wpTill_take (i := 0) (v := ?vq39) rfl (by kernel_rfl) (fun _ _ _ h => h) (Or.inl ⟨by rfl, ?hq39⟩) o0 ?rq39
        case hq39 => (intro W hW; (try dsimp only at hW); go_simp; try with_reducible rfl)
        simp only [Act.put, List.setIfInBounds_toArray, List.set_cons_zero, List.set_cons_succ, List.getElem_toArray, List.getElem_cons_succ, List.getElem_cons_zero]
        refine wpTill_take (i := 1) (v := ?vq40) rfl (by kernel_rfl) (fun _ _ _ h => h) (Or.inl ⟨by rfl, ?hq40⟩) o0 ?rq40
        case hq40 => (intro W hW; (try dsimp only at hW); go_simp; try with_reducible rfl)
        simp only [Act.put, List.setIfInBounds_toArray, List.set_cons_zero, List.set_cons_succ, List.getElem_toArray, List.getElem_cons_succ, List.getElem_cons_zero]
        refine wpTill_take (i := 2) (v := ?vq41) rfl (by kernel_rfl) (fun _ _ _ h => h) (Or.inl ⟨by rfl, ?hq41⟩) o0 ?rq41
        case hq41 => (intro W hW; (try dsimp only at hW); go_simp; try with_reducible rfl)
        simp only [Act.put, List.setIfInBounds_toArray, List.set_cons_zero, List.set_cons_succ, List.getElem_toArray, List.getElem_cons_succ, List.getElem_cons_zero]
        refine wpTill_take (i := 3) (v := ?vq42) rfl (by kernel_rfl) (fun _ _ _ h => h) (Or.inl ⟨by rfl, ?hq42⟩) o0 ?rq42
        case hq42 => (intro W hW; (try dsimp only at hW); go_simp; try with_reducible rfl)
        simp only [Act.put, List.setIfInBounds_toArray, List.set_cons_zero, List.set_cons_succ, List.getElem_toArray, List.getElem_cons_succ, List.getElem_cons_zero]
        refine wpTill_take (i := 4) (v := ?vq43) rfl (by kernel_rfl) (fun _ _ _ h => h) (Or.inl ⟨by rfl, ?hq43⟩) o0 ?rq43
        case hq43 => (intro W hW; (try dsimp only at hW); go_simp; try with_reducible rfl)
        simp only [Act.put, List.setIfInBounds_toArray, List.set_cons_zero, List.set_cons_succ, List.getElem_toArray, List.getElem_cons_succ, List.getElem_cons_zero]
        refine wpTill_run (i := 5) (by kernel_rfl) rfl o0 (fun K hK => ?_)
        go_simp
        go_at_call 17
        refine (LR.out _ o0).mono ?_
        rintro R w4 ⟨u2, rfl, hu2, hb4⟩
        have HU2 := Lib.hid hu2
        have o1 : Below w3.heap.size w3 w4 := Below.trans o0 (hb4.mono (Below.size o0))
        have HU1 := Lib.hid (HU.out.new o1)
        clear hu2 hb4
        refine hK _ _ ?_
        clear hK K
        refine wpTill_run (i := 6) (by kernel_rfl) rfl o1 (fun K hK => ?_)
        go_simp
        go_at_call 16
        refine (rsame_c HU1.out HU2.out HNL.out).mono ?_
        rintro R w5 ⟨rfl, hb5⟩
        have o2 : Below w3.heap.size w3 w5 := o1.trans (hb5.mono o1.size)
        clear hb5
        refine hK _ _ ?_
        clear hK K
        refine wpTill_take (i := 7) (v := ?vq44) rfl (by kernel_rfl) (fun _ _ _ h => h) (Or.inl ⟨by rfl, ?hq44⟩) o2 ?rq44
        case hq44 => (intro W hW; (try dsimp only at hW); go_simp; try with_reducible rfl)
        simp only [Act.put, List.setIfInBounds_toArray, List.set_cons_zero, List.set_cons_succ, List.getElem_toArray, List.getElem_cons_succ, List.getElem_cons_zero]
        refine wpTill_take (i := 8) (v := ?vq45) rfl (by kernel_rfl) (fun _ _ _ h => h) (Or.inl ⟨by rfl, ?hq45⟩) o2 ?rq45
        case hq45 => (intro W hW; (try dsimp only at hW); go_simp; try with_reducible rfl)
        simp only [Act.put, List.setIfInBounds_toArray, List.set_cons_zero, List.set_cons_succ, List.getElem_toArray, List.getElem_cons_succ, List.getElem_cons_zero]
        refine wpTill_take (i := 9) (v := ?vq46) rfl (by kernel_rfl) (fun _ _ _ h => h) (Or.inl ⟨by rfl, ?hq46⟩) o2 ?rq46
        case hq46 => (intro W hW; (try dsimp only at hW); go_simp; try with_reducible rfl)
        simp only [Act.put, List.setIfInBounds_toArray, List.set_cons_zero, List.set_cons_succ, List.getElem_toArray, List.getElem_cons_succ, List.getElem_cons_zero]
        refine wpTill_take (i := 11) (v := ?vq47) rfl (by kernel_rfl) (fun _ _ _ h => h) (Or.inl ⟨by rfl, ?hq47⟩) o2 ?rq47
        case hq47 => (intro W hW; (try dsimp only at hW); go_simp; try with_reducible rfl)
        simp only [Act.put, List.setIfInBounds_toArray, List.set_cons_zero, List.set_cons_succ, List.getElem_toArray, List.getElem_cons_succ, List.getElem_cons_zero]
        refine wpTill_take (i := 12) (v := ?vq48) rfl (by kernel_rfl) (fun _ _ _ h => h) (Or.inl ⟨by rfl, ?hq48⟩) o2 ?rq48
        case hq48 => (intro W hW; (try dsimp only at hW); go_simp; try with_reducible rfl)
        simp only [Act.put, List.setIfInBounds_toArray, List.set_cons_zero, List.set_cons_succ, List.getElem_toArray, List.getElem_cons_succ, List.getElem_cons_zero]
        refine wpTill_take (i := 13) (v := ?vq49) rfl (by kernel_rfl) (fun _ _ _ h => h) (Or.inl ⟨by rfl, ?hq49⟩) o2 ?rq49
        case hq49 => (intro W hW; (try dsimp only at hW); go_simp; try with_reducible rfl)
        simp only [Act.put, List.setIfInBounds_toArray, List.set_cons_zero, List.set_cons_succ, List.getElem_toArray, List.getElem_cons_succ, List.getElem_cons_zero]
        refine wpTill_take (i := 14) (v := ?vq50) rfl (by kernel_rfl) (fun _ _ _ h => h) (Or.inl ⟨by rfl, ?hq50⟩) o2 ?rq50
        case hq50 => (intro W hW; (try dsimp only at hW); go_simp; try with_reducible rfl)
        simp only [Act.put, List.setIfInBounds_toArray, List.set_cons_zero, List.set_cons_succ, List.getElem_toArray, List.getElem_cons_succ, List.getElem_cons_zero]
        refine wpTill_run (i := 10) (by kernel_rfl) rfl o2 (fun K hK => ?_)
        go_simp
        go_at_call 18
        refine (pdown_c w5 (B3.out.new o2).d).mono ?_
        rintro R w' ⟨rfl, rfl⟩
        refine hK _ _ ?_
        clear hK K
        refine wpTill_take (i := 15) (v := ?vq51) rfl (by kernel_rfl) (fun _ _ _ h => h) (Or.inl ⟨by rfl, ?hq51⟩) o2 ?rq51
        case hq51 => (intro W hW; (try dsimp only at hW); go_simp; try with_reducible rfl)
        simp only [Act.put, List.setIfInBounds_toArray, List.set_cons_zero, List.set_cons_succ, List.getElem_toArray, List.getElem_cons_succ, List.getElem_cons_zero]
        refine wpTill_take (i := 16) (v := ?vq52) rfl (by kernel_rfl) (fun _ _ _ h => h) (Or.inl ⟨by rfl, ?hq52⟩) o2 ?rq52
        case hq52 => (intro W hW; (try dsimp only at hW); go_simp; try with_reducible rfl)
        simp only [Act.put, List.setIfInBounds_toArray, List.set_cons_zero, List.set_cons_succ, List.getElem_toArray, List.getElem_cons_succ, List.getElem_cons_zero]
        refine wpTill_take (i := 17) (v := ?vq53) rfl (by kernel_rfl) (fun _ _ _ h => h) (Or.inl ⟨by rfl, ?hq53⟩) o2 ?rq53
        case hq53 => (intro W hW; (try dsimp only at hW); go_simp; try with_reducible rfl)
        simp only [Act.put, List.setIfInBounds_toArray, List.set_cons_zero, List.set_cons_succ, List.getElem_toArray, List.getElem_cons_succ, List.getElem_cons_zero]
        refine wpTill_take (i := 18) (v := ?vq54) rfl (by kernel_rfl) (fun _ _ _ h => h) (Or.inl ⟨by rfl, ?hq54⟩) o2 ?rq54
        case hq54 => (intro W hW; (try dsimp only at hW); go_simp; try with_reducible rfl)
        simp only [Act.put, List.setIfInBounds_toArray, List.set_cons_zero, List.set_cons_succ, List.getElem_toArray, List.getElem_cons_succ, List.getElem_cons_zero]
        refine wpTill_take (i := 20) (v := ?vq55) rfl (by kernel_rfl) (fun _ _ _ h => h) (Or.inl ⟨by rfl, ?hq55⟩) o2 ?rq55
        case hq55 => (intro W hW; (try dsimp only at hW); go_simp; try with_reducible rfl)
        simp only [Act.put, List.setIfInBounds_toArray, List.set_cons_zero, List.set_cons_succ, List.getElem_toArray, List.getElem_cons_succ, List.getElem_cons_zero]
        refine wpTill_take (i := 21) (v := ?vq56) rfl (by kernel_rfl) (fun _ _ _ h => h) (Or.inl ⟨by rfl, ?hq56⟩) o2 ?rq56
        case hq56 => (intro W hW; (try dsimp only at hW); go_simp; try with_reducible rfl)
        simp only [Act.put, List.setIfInBounds_toArray, List.set_cons_zero, List.set_cons_succ, List.getElem_toArray, List.getElem_cons_succ, List.getElem_cons_zero]
        refine wpTill_take (i := 22) (v := ?vq57) rfl (by kernel_rfl) (fun _ _ _ h => h) (Or.inl ⟨by rfl, ?hq57⟩) o2 ?rq57
        case hq57 => (intro W hW; (try dsimp only at hW); go_simp; try with_reducible rfl)
        simp only [Act.put, List.setIfInBounds_toArray, List.set_cons_zero, List.set_cons_succ, List.getElem_toArray, List.getElem_cons_succ, List.getElem_cons_zero]
        refine wpTill_take (i := 23) (v := ?vq58) rfl (by kernel_rfl) (fun _ _ _ h => h) (Or.inl ⟨by rfl, ?hq58⟩) o2 ?rq58
        case hq58 => (intro W hW; (try dsimp only at hW); go_simp; try with_reducible rfl)
        simp only [Act.put, List.setIfInBounds_toArray, List.set_cons_zero, List.set_cons_succ, List.getElem_toArray, List.getElem_cons_succ, List.getElem_cons_zero]
        refine wpTill_run (i := 19) (by kernel_rfl) rfl o2 (fun K hK => ?_)
        go_simp
        go_at_call 19
        refine (pwrites_c w5 (B3.out.new o2).d).mono ?_
        rintro R w' ⟨rfl, rfl⟩
        refine hK _ _ ?_
        clear hK K
        refine wpTill_take (i := 24) (v := ?vq59) rfl (by kernel_rfl) (fun _ _ _ h => h) (Or.inl ⟨by rfl, ?hq59⟩) o2 ?rq59
        case hq59 => (intro W hW; (try dsimp only at hW); go_simp; try with_reducible rfl)
        simp only [Act.put, List.setIfInBounds_toArray, List.set_cons_zero, List.set_cons_succ, List.getElem_toArray, List.getElem_cons_succ, List.getElem_cons_zero]
        refine wpTill_run (i := 25) (by kernel_rfl) rfl o2 (fun K hK => ?_)
        go_simp
        refine hK _ _ ?_
        clear hK K
        refine wpTill_done (by kernel_rfl) ?_
        go_wp2_with fail
        go_meet
        exact ⟨rfl, o2⟩
      case rest =>
      obtain ⟨rfl, HBE⟩ := hcut
      clear o0 c0 c3 c4 hnn hoo LR
      go_wp2
      go_loopw [10] (fun iv wr => ∃ k : Nat, k ≤ NN.length ∧ iv = .int .i64 (k : Int) ∧ Hid (Below w3.heap.size w3 wr)) (fun iv _ => NN.length - (intOf iv).toNat)
      case atStart => exact ⟨0, Nat.zero_le _, rfl, HBE.out⟩
      case round =>
        obtain ⟨k, hk, rfl, HB⟩ := hrel
        clear HBE
        by_cases hlt : k < NN.length
        · have hlt1 : (k : Int) < (NN.length : Int) := by omega
          obtain ⟨gu, cpu, eu, hcu⟩ := HU.out.at hlt
          have e1 : uo = some ⟨gu, 0, none⟩ := by injection eu
          subst e1
          rw [Nat.zero_add] at hcu
          have HM := Lib.hid (HNM.out k hlt)
          obtain ⟨n, hn⟩ : ∃ n, n = NN[k]'hlt := ⟨_, rfl⟩
          rw [← hn] at hcu HM
          have f1 : ∀ W, Below w3.heap.size w3 W → W.cell? ⟨gu, k, none⟩ = some (.string (str n)) := fun W hW => (hW.cell (p := ⟨gu, k, none⟩) (World.block_lt_of_cell? w3 _ hcu)).trans hcu
          have o0 : Below w3.heap.size w3 wr.drew := HB.out.drew
          have KD := Lib.hid (fun W (hW : Below w3.heap.size w3 W) => pdisk_c W (B3.out.new hW).d)
          have KR := Lib.hid (fun W (hW : Below w3.heap.size w3 W) => read_c n W (B3.out.new hW).d.dk HM.out)
          have KS : Hid (∀ W, Below w3.heap.size w3 W → Calls Tryz.prog 21 #[.pointer (some ⟨gr, 0, none⟩), .string (str n)] W fun R w' => R = .returned (.tuple #[.string (str (rd p.E n)), .int .i64 (eFind p.E n)]) ∧ W = w') := fun W hW => by
            obtain ⟨ao, cp, hk⟩ := RkS.of (B3.out.new hW).r.rk
            exact rread_c hk n HM.out
          obtain ⟨r, hr⟩ : ∃ r, r = rd p.E n := ⟨_, rfl⟩
          obtain ⟨c, hc⟩ : ∃ c : Int, c = ((eFind p.E n : Nat) : Int) := ⟨_, rfl⟩
          rw [← hr, ← hc] at KR KS
          clear hn hcu hr hc HM eu
          go_upto_region 18 with fail
          refine wp_region_till (S := fun W => Below w3.heap.size w3 W) (by kernel_rfl) ?_
          refine wpTill_take (i := 0) (v := ?vq60) rfl (by kernel_rfl) (fun _ _ _ h => h) (Or.inl ⟨by rfl, ?hq60⟩) o0 ?rq60
          case hq60 => (intro W hW; (try dsimp only at hW); go_simp; try with_reducible rfl)
          simp only [Act.put, List.setIfInBounds_toArray, List.set_cons_zero, List.set_cons_succ, List.getElem_toArray, List.getElem_cons_succ, List.getElem_cons_zero]
          refine wpTill_take (i := 2) (v := ?vq61) rfl (by kernel_rfl) (fun _ _ _ h => h) (Or.inl ⟨by rfl, ?hq61⟩) o0 ?rq61
          case hq61 => (intro W hW; (try dsimp only at hW); go_simp; try with_reducible rfl)
          simp only [Act.put, List.setIfInBounds_toArray, List.set_cons_zero, List.set_cons_succ, List.getElem_toArray, List.getElem_cons_succ, List.getElem_cons_zero]
          refine wpTill_take (i := 3) (v := ?vq62) rfl (by kernel_rfl) (fun _ _ _ h => h) (Or.inl ⟨by rfl, ?hq62⟩) o0 ?rq62
          case hq62 => (intro W hW; (try dsimp only at hW); go_simp; try with_reducible rfl)
          simp only [Act.put, List.setIfInBounds_toArray, List.set_cons_zero, List.set_cons_succ, List.getElem_toArray, List.getElem_cons_succ, List.getElem_cons_zero]
          refine wpTill_take (i := 4) (v := ?vq63) rfl (by kernel_rfl) (fun _ _ _ h => h) (Or.inl ⟨by rfl, ?hq63⟩) o0 ?rq63
          case hq63 => (intro W hW; (try dsimp only at hW); go_simp; try with_reducible rfl)
          simp only [Act.put, List.setIfInBounds_toArray, List.set_cons_zero, List.set_cons_succ, List.getElem_toArray, List.getElem_cons_succ, List.getElem_cons_zero]
          refine wpTill_take (i := 5) (v := ?vq64) rfl (by kernel_rfl) (fun _ _ _ h => h) (Or.inl ⟨by rfl, ?hq64⟩) o0 ?rq64
          case hq64 => (intro W hW; (try dsimp only at hW); go_simp; try with_reducible rfl)
          simp only [Act.put, List.setIfInBounds_toArray, List.set_cons_zero, List.set_cons_succ, List.getElem_toArray, List.getElem_cons_succ, List.getElem_cons_zero]
          refine wpTill_run (i := 1) (by kernel_rfl) rfl o0 (fun K hK => ?_)
          go_simp
          go_at_call 14
          refine (KD.out _ o0).mono ?_
          rintro R w' ⟨rfl, rfl⟩
          refine hK _ _ ?_
          clear hK K
          refine wpTill_run (i := 6) (by kernel_rfl) rfl o0 (fun K hK => ?_)
          go_simp
          go_at_call 20
          refine (KR.out _ o0).mono ?_
          rintro R w4 ⟨rfl, hb4⟩
          have o1 : Below w3.heap.size w3 w4 := o0.trans (hb4.mono o0.size)
          clear hb4
          refine hK _ _ ?_
          clear hK K
          refine wpTill_take (i := 7) (v := ?vq65) rfl (by kernel_rfl) (fun _ _ _ h => h) (Or.inl ⟨by rfl, ?hq65⟩) o1 ?rq65
          case hq65 => (intro W hW; (try dsimp only at hW); go_simp; try with_reducible rfl)
          simp only [Act.put, List.setIfInBounds_toArray, List.set_cons_zero, List.set_cons_succ, List.getElem_toArray, List.getElem_cons_succ, List.getElem_cons_zero]
          refine wpTill_take (i := 8) (v := ?vq66) rfl (by kernel_rfl) (fun _ _ _ h => h) (Or.inl ⟨by rfl, ?hq66⟩) o1 ?rq66
          case hq66 => (intro W hW; (try dsimp only at hW); go_simp; try with_reducible rfl)
          simp only [Act.put, List.setIfInBounds_toArray, List.set_cons_zero, List.set_cons_succ, List.getElem_toArray, List.getElem_cons_succ, List.getElem_cons_zero]
          refine wpTill_take (i := 9) (v := ?vq67) rfl (by kernel_rfl) (fun _ _ _ h => h) (Or.inl ⟨by rfl, ?hq67⟩) o1 ?rq67
          case hq67 => (intro W hW; (try dsimp only at hW); go_simp; try with_reducible rfl)
          simp only [Act.put, List.setIfInBounds_toArray, List.set_cons_zero, List.set_cons_succ, List.getElem_toArray, List.getElem_cons_succ, List.getElem_cons_zero]
          refine wpTill_take (i := 10) (v := ?vq68) rfl (by kernel_rfl) (fun _ _ _ h => h) (Or.inl ⟨by rfl, ?hq68⟩) o1 ?rq68
          case hq68 => (intro W hW; (try dsimp only at hW); go_simp; try with_reducible rfl)
          simp only [Act.put, List.setIfInBounds_toArray, List.set_cons_zero, List.set_cons_succ, List.getElem_toArray, List.getElem_cons_succ, List.getElem_cons_zero]
          refine wpTill_run (i := 11) (by kernel_rfl) rfl o1 (fun K hK => ?_)
          go_simp
          refine hK _ _ ?_
          clear hK K
          refine wpTill_done (by kernel_rfl) ?_
          have c0 := fun W (hW : Below w3.heap.size w3 W) => (B3.out.r.new hW).c0
          have o2 : Below w3.heap.size w3 w4.drew := o1.drew
          clear o0 KD KR
          go_upto_region 19 with fail
          refine wp_region_till (S := fun W => Below w3.heap.size w3 W) (by kernel_rfl) ?_
          refine wpTill_take (i := 0) (v := ?vq69) rfl (by kernel_rfl) (fun _ _ _ h => h) (Or.inl ⟨by rfl, ?hq69⟩) o2 ?rq69
          case hq69 => (intro W hW; (try dsimp only at hW); go_simp; try with_reducible rfl)
          simp only [Act.put, List.setIfInBounds_toArray, List.set_cons_zero, List.set_cons_succ, List.getElem_toArray, List.getElem_cons_succ, List.getElem_cons_zero]
          refine wpTill_take (i := 1) (v := ?vq70) rfl (by kernel_rfl) (fun _ _ _ h => h) (Or.inl ⟨by rfl, ?hq70⟩) o2 ?rq70
          case hq70 => (intro W hW; (try dsimp only at hW); go_simp; try with_reducible rfl)
          simp only [Act.put, List.setIfInBounds_toArray, List.set_cons_zero, List.set_cons_succ, List.getElem_toArray, List.getElem_cons_succ, List.getElem_cons_zero]
          refine wpTill_take (i := 2) (v := ?vq71) rfl (by kernel_rfl) (fun _ _ _ h => h) (Or.inl ⟨by rfl, ?hq71⟩) o2 ?rq71
          case hq71 => (intro W hW; (try dsimp only at hW); go_simp; try with_reducible rfl)
          simp only [Act.put, List.setIfInBounds_toArray, List.set_cons_zero, List.set_cons_succ, List.getElem_toArray, List.getElem_cons_succ, List.getElem_cons_zero]
          refine wpTill_take (i := 3) (v := ?vq72) rfl (by kernel_rfl) (fun _ _ _ h => h) (Or.inl ⟨by rfl, ?hq72⟩) o2 ?rq72
          case hq72 => (intro W hW; (try dsimp only at hW); go_simp; try with_reducible rfl)
          simp only [Act.put, List.setIfInBounds_toArray, List.set_cons_zero, List.set_cons_succ, List.getElem_toArray, List.getElem_cons_succ, List.getElem_cons_zero]
          refine wpTill_take (i := 4) (v := ?vq73) rfl (by kernel_rfl) (fun _ _ _ h => h) (Or.inl ⟨by rfl, ?hq73⟩) o2 ?rq73
          case hq73 => (intro W hW; (try dsimp only at hW); go_simp; try with_reducible rfl)
          simp only [Act.put, List.setIfInBounds_toArray, List.set_cons_zero, List.set_cons_succ, List.getElem_toArray, List.getElem_cons_succ, List.getElem_cons_zero]
          refine wpTill_take (i := 5) (v := ?vq74) rfl (by kernel_rfl) (fun _ _ _ h => h) (Or.inl ⟨by rfl, ?hq74⟩) o2 ?rq74
          case hq74 => (intro W hW; (try dsimp only at hW); go_simp; try with_reducible rfl)
          simp only [Act.put, List.setIfInBounds_toArray, List.set_cons_zero, List.set_cons_succ, List.getElem_toArray, List.getElem_cons_succ, List.getElem_cons_zero]
          refine wpTill_take (i := 6) (v := ?vq75) rfl (by kernel_rfl) (fun _ _ _ h => h) (Or.inl ⟨by rfl, ?hq75⟩) o2 ?rq75
          case hq75 => (intro W hW; (try dsimp only at hW); go_simp; try with_reducible rfl)
          simp only [Act.put, List.setIfInBounds_toArray, List.set_cons_zero, List.set_cons_succ, List.getElem_toArray, List.getElem_cons_succ, List.getElem_cons_zero]
          refine wpTill_take (i := 7) (v := ?vq76) rfl (by kernel_rfl) (fun _ _ _ h => h) (Or.inl ⟨by rfl, ?hq76⟩) o2 ?rq76
          case hq76 => (intro W hW; (try dsimp only at hW); go_simp; try with_reducible rfl)
          simp only [Act.put, List.setIfInBounds_toArray, List.set_cons_zero, List.set_cons_succ, List.getElem_toArray, List.getElem_cons_succ, List.getElem_cons_zero]
          refine wpTill_run (i := 8) (by kernel_rfl) rfl o2 (fun K hK => ?_)
          go_simp
          go_at_call 21
          refine (KS.out _ o2).mono ?_
          rintro R w' ⟨rfl, rfl⟩
          refine hK _ _ ?_
          clear hK K
          refine wpTill_take (i := 9) (v := ?vq77) rfl (by kernel_rfl) (fun _ _ _ h => h) (Or.inl ⟨by rfl, ?hq77⟩) o2 ?rq77
          case hq77 => (intro W hW; (try dsimp only at hW); go_simp; try with_reducible rfl)
          simp only [Act.put, List.setIfInBounds_toArray, List.set_cons_zero, List.set_cons_succ, List.getElem_toArray, List.getElem_cons_succ, List.getElem_cons_zero]
          refine wpTill_take (i := 10) (v := ?vq78) rfl (by kernel_rfl) (fun _ _ _ h => h) (Or.inl ⟨by rfl, ?hq78⟩) o2 ?rq78
          case hq78 => (intro W hW; (try dsimp only at hW); go_simp; try with_reducible rfl)
          simp only [Act.put, List.setIfInBounds_toArray, List.set_cons_zero, List.set_cons_succ, List.getElem_toArray, List.getElem_cons_succ, List.getElem_cons_zero]
          refine wpTill_take (i := 11) (v := ?vq79) rfl (by kernel_rfl) (fun _ _ _ h => h) (Or.inl ⟨by rfl, ?hq79⟩) o2 ?rq79
          case hq79 => (intro W hW; (try dsimp only at hW); go_simp; try with_reducible rfl)
          simp only [Act.put, List.setIfInBounds_toArray, List.set_cons_zero, List.set_cons_succ, List.getElem_toArray, List.getElem_cons_succ, List.getElem_cons_zero]
          refine wpTill_take (i := 12) (v := ?vq80) rfl (by kernel_rfl) (fun _ _ _ h => h) (Or.inl ⟨by rfl, ?hq80⟩) o2 ?rq80
          case hq80 => (intro W hW; (try dsimp only at hW); go_simp; try with_reducible rfl)
          simp only [Act.put, List.setIfInBounds_toArray, List.set_cons_zero, List.set_cons_succ, List.getElem_toArray, List.getElem_cons_succ, List.getElem_cons_zero]
          refine wpTill_run (i := 13) (by kernel_rfl) rfl o2 (fun K hK => ?_)
          go_simp
          refine hK _ _ ?_
          clear hK K
          refine wpTill_done (by kernel_rfl) ?_
          have hss := str_yes3 r
          have hnl := HNL.out
          have HB5 := Lib.hid o2
          clear o1 o2 c0 KS f1 HB
          go_wp2
          go_roundw
          case rel => exact ⟨k + 1, by omega, by go_num, HB5.out⟩
          case measure => simp [intOf]; omega
        · have hlt1 : ¬ (k : Int) < (NN.length : Int) := by omega
          have HBF := Lib.hid (HBW3.out.trans (HB.out.mono HBW3.out.size))
          go_wp2_with fail
          refine (works18_c wr (HT.out.lo HBF.out) (btab_lo HBT.out HBF.out)).mono ?_
          rintro R wz ⟨rfl, hbz⟩
          go_wp2
          go_ret
          exact ⟨rfl, HBF.out.trans (hbz.mono HBF.out.size)⟩
end Go.Proofs.YtacgmadgkmcmoaaGreatDoor
