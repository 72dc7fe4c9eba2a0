/- Texts of the walk. -/
import Derived.Test.YtgeaacabpnepmaaGreatDoorKr9
/- Sync. -/
namespace Go.Proofs.YtgeaacabpnepmaaGreatDoor
open Go.RowKit
set_option linter.unusedVariables false
set_option linter.unusedSimpArgs false
set_option maxRecDepth 20000

section
variable {V : Nat → Prop} {w : World} {gj gp q kc : Nat} {dv : Value} {ko : Option Addr} {p : Pw} {j : Jn}
attribute [local go_sem ↓] ld_pw ld_man ld_int st_int ld_u64 st_u64 ld_u8 ld_bool
set_option maxHeartbeats 4000000 in
theorem jsync_c (w : World) (h : JC V w gj gp q dv ko kc p j) (hn : p.n < 1000000) :
    Calls Tryz.prog 21 #[.pointer (some ⟨gj, 0, none⟩)] w (JPost V w gj gp q dv ko kc (jSync q p j).e (jSync q p j).p (jSync q p j).j) := by
  have hh := h
  have HW := Lib.hid (works_c w h)
  obtain ⟨S, ao, ac, so, sc, co, cc, hx⟩ := h
  have HN := Lib.hid hn
  have HX := Lib.hid hx
  obtain ⟨Q, hQ⟩ : ∃ Q : Ending → World → Prop, Q = JPost V w gj gp q dv ko kc (jSync q p j).e (jSync q p j).p (jSync q p j).j := ⟨_, rfl⟩
  rw [← hQ]
  have HQ := Lib.hid hQ
  clear hx hn hQ
  cases hb : j.br
  case true =>
    have HFin : Hid (Q (.returned (.int .i64 13)) w) := by
      show Q _ _
      rw [HQ.out, show jSync q p j = ⟨13, p, j⟩ from if_pos hb]
      exact ⟨rfl, V, hh, JTo.refl _ _⟩
    clear hh
    rw [hb] at HW
    have hnot : ∀ W : World, (Op.unary .not (.bool (!true))).run Tryz.prog W = .ok (.bool true) W := fun _ => rfl
    go_enter Tryz.func21, Tryz.ntmps21
    go_wp2_with fail
    refine HW.out.mono ?_
    rintro R w' ⟨rfl, rfl⟩
    go_wp2
    exact HFin.out
  case false =>
    have HJ0 : Hid (jSync q p j = if p.wrc 2 q (sgn (lastS j.m.sg).1) [] = 0 then ⟨0, p.wr 2 q (sgn (lastS j.m.sg).1) [], { j.hold 0 with sy := j.c, os := j.ow }⟩ else ⟨(p.wrc 2 q (sgn (lastS j.m.sg).1) [] : Nat), p.wr 2 q (sgn (lastS j.m.sg).1) [], j.hold (p.wrc 2 q (sgn (lastS j.m.sg).1) [] : Nat)⟩) := if_neg (by rw [hb]; exact Bool.false_ne_true)
    clear hh
    rw [hb] at HW
    go_enter Tryz.func21, Tryz.ntmps21
    go_wp2_with fail
    refine HW.out.mono ?_
    rintro R w' ⟨rfl, rfl⟩
    go_upto_region 3 with fail
    have HXd := Lib.hid (HX.out.new (Below.refl _ w).drew)
    have HBd := Lib.hid ((Below.refl w.heap.size w).drew)
    generalize hwd : w.drew = wd at *
    have hs0 : JS gj gp j so sc co cc wd := js_of HXd.out.jn.blk
    have hfd := fld_part ((lastS j.m.sg).1 : Int) ((lastS j.m.sg).2 : Int)
    refine wp_region_till (S := fun W => JS gj gp j so sc co cc W) (by kernel_rfl) ?_
    rw [hwd]
    clear hwd
    refine wpTill_take (i := 0) (v := ?va0) rfl (by kernel_rfl) (fun _ _ _ h => h) (Or.inl ⟨by rfl, ?hya0⟩) hs0 ?resta0
    case hya0 => (rintro W ⟨hW1, hW2⟩; go_simp; try with_reducible rfl)
    simp only [Act.put, List.setIfInBounds_toArray, List.set_cons_zero, List.set_cons_succ, List.getElem_toArray, List.getElem_cons_succ, List.getElem_cons_zero]
    refine wpTill_take (i := 1) (v := ?va1) rfl (by kernel_rfl) (fun _ _ _ h => h) (Or.inl ⟨by rfl, ?hya1⟩) hs0 ?resta1
    case hya1 => (rintro W ⟨hW1, hW2⟩; go_simp; try with_reducible rfl)
    simp only [Act.put, List.setIfInBounds_toArray, List.set_cons_zero, List.set_cons_succ, List.getElem_toArray, List.getElem_cons_succ, List.getElem_cons_zero]
    refine wpTill_take (i := 2) (v := ?va2) rfl (by kernel_rfl) (fun _ _ _ h => h) (Or.inl ⟨by rfl, ?hya2⟩) hs0 ?resta2
    case hya2 => (rintro W ⟨hW1, hW2⟩; go_simp; try with_reducible rfl)
    simp only [Act.put, List.setIfInBounds_toArray, List.set_cons_zero, List.set_cons_succ, List.getElem_toArray, List.getElem_cons_succ, List.getElem_cons_zero]
    refine wpTill_take (i := 3) (v := ?va3) rfl (by kernel_rfl) (fun _ _ _ h => h) (Or.inl ⟨by rfl, ?hya3⟩) hs0 ?resta3
    case hya3 => (rintro W ⟨hW1, hW2⟩; go_simp; try with_reducible rfl)
    simp only [Act.put, List.setIfInBounds_toArray, List.set_cons_zero, List.set_cons_succ, List.getElem_toArray, List.getElem_cons_succ, List.getElem_cons_zero]
    refine wpTill_take (i := 4) (v := ?va4) rfl (by kernel_rfl) (fun _ _ _ h => h) (Or.inl ⟨by rfl, ?hya4⟩) hs0 ?resta4
    case hya4 => (rintro W ⟨hW1, hW2⟩; go_simp; try with_reducible rfl)
    simp only [Act.put, List.setIfInBounds_toArray, List.set_cons_zero, List.set_cons_succ, List.getElem_toArray, List.getElem_cons_succ, List.getElem_cons_zero]
    refine wpTill_take (i := 5) (v := ?va5) rfl (by kernel_rfl) (fun _ _ _ h => h) (Or.inl ⟨by rfl, ?hya5⟩) hs0 ?resta5
    case hya5 => (rintro W ⟨hW1, hW2⟩; go_simp; try with_reducible rfl)
    simp only [Act.put, List.setIfInBounds_toArray, List.set_cons_zero, List.set_cons_succ, List.getElem_toArray, List.getElem_cons_succ, List.getElem_cons_zero]
    refine wpTill_take (i := 6) (v := ?va6) rfl (by kernel_rfl) (fun _ _ _ h => h) (Or.inl ⟨by rfl, ?hya6⟩) hs0 ?resta6
    case hya6 => (rintro W ⟨hW1, hW2⟩; go_simp; try with_reducible rfl)
    simp only [Act.put, List.setIfInBounds_toArray, List.set_cons_zero, List.set_cons_succ, List.getElem_toArray, List.getElem_cons_succ, List.getElem_cons_zero]
    refine wpTill_take (i := 7) (v := ?va7) rfl (by kernel_rfl) (fun _ _ _ h => h) (Or.inl ⟨by rfl, ?hya7⟩) hs0 ?resta7
    case hya7 => (rintro W ⟨hW1, hW2⟩; go_simp; try with_reducible rfl)
    simp only [Act.put, List.setIfInBounds_toArray, List.set_cons_zero, List.set_cons_succ, List.getElem_toArray, List.getElem_cons_succ, List.getElem_cons_zero]
    refine wpTill_take (i := 8) (v := ?va8) rfl (by kernel_rfl) (fun _ _ _ h => h) (Or.inl ⟨by rfl, ?hya8⟩) hs0 ?resta8
    case hya8 => (rintro W ⟨hW1, hW2⟩; go_simp; try with_reducible rfl)
    simp only [Act.put, List.setIfInBounds_toArray, List.set_cons_zero, List.set_cons_succ, List.getElem_toArray, List.getElem_cons_succ, List.getElem_cons_zero]
    refine wpTill_run (i := 9) (by kernel_rfl) rfl hs0 (fun K hK => ?_)
    go_simp
    go_at_call 66
    refine (newest_c j.m so sc co cc wd HXd.out.jn.man HXd.out.jn.scap).mono ?_
    rintro R w1 ⟨rfl, hb1⟩
    have HX1 := Lib.hid (HXd.out.new hb1)
    have HB1 := Lib.hid (HBd.out.trans (hb1.mono HBd.out.size))
    have hs1 : JS gj gp j so sc co cc w1 := js_of HX1.out.jn.blk
    refine hK _ _ ?_
    clear hK K
    refine wpTill_take (i := 10) (v := ?va10) rfl (by kernel_rfl) (fun _ _ _ h => h) (Or.inl ⟨by rfl, ?hya10⟩) hs1 ?resta10
    case hya10 => (rintro W ⟨hW1, hW2⟩; go_simp; try with_reducible rfl)
    simp only [Act.put, List.setIfInBounds_toArray, List.set_cons_zero, List.set_cons_succ, List.getElem_toArray, List.getElem_cons_succ, List.getElem_cons_zero]
    refine wpTill_run (i := 11) (by kernel_rfl) rfl hs1 (fun K hK => ?_)
    go_simp
    go_at_call 65
    refine (seg_c (lastS j.m.sg).1 w1 (lastS_fit HX1.out.jn.man.fit.sg).1).mono ?_
    rintro R w2 ⟨rfl, hb2⟩
    rw [show str (115 :: hex (lastS j.m.sg).1) = str (sgn (lastS j.m.sg).1) from rfl]
    have HX2 := Lib.hid (HX1.out.new hb2)
    have HB2 := Lib.hid (HB1.out.trans (hb2.mono HB1.out.size))
    have hs2 : JS gj gp j so sc co cc w2 := js_of HX2.out.jn.blk
    refine hK _ _ ?_
    clear hK K
    refine wpTill_run (i := 12) (by kernel_rfl) rfl hs2 (fun K hK => ?_)
    obtain ⟨S1, hp1, hS1, hb3⟩ := HX2.out.open
    go_simp
    go_at_call 64
    refine (psync_c (sgn (lastS j.m.sg).1) [] w2 hp1 hS1 (by rw [sgn_len]; simp [maxLen]) (by simp) HN.out).mono ?_
    rintro R w3 ⟨rfl, hp2, ht2⟩
    rw [show p.code (wrR 2 q p.E (sgn (lastS j.m.sg).1) []) = p.wrc 2 q (sgn (lastS j.m.sg).1) [] from rfl]
    obtain ⟨V2, S2, hx2, hj2⟩ := hb3 w3 _ hp2 (swa_ks p _) ht2
    have HX3 := Lib.hid hx2
    have HJ3 := Lib.hid hj2
    have hs3 : JS gj gp j so sc co cc w3 := js_of hx2.jn.blk
    clear hx2 hj2 hp2 ht2 hp1 hS1 hb3
    refine hK _ _ ?_
    clear hK K
    refine wpTill_run (i := 13) (by kernel_rfl) rfl hs3 (fun K hK => ?_)
    go_simp
    go_at_call 63
    refine (hold_x (p.wrc 2 q (sgn (lastS j.m.sg).1) [] : Nat) w3 HX3.out.jn.blk).mono ?_
    rintro R w4 ⟨rfl, hc4, hg4⟩
    have HJ4 := Lib.hid (HX3.out.held hc4 hg4)
    have hs4 : JS gj gp j so sc co cc w4 := js_of (j := j.hold (p.wrc 2 q (sgn (lastS j.m.sg).1) [] : Nat)) hc4
    clear hc4 hg4
    refine hK _ _ ?_
    clear hK K
    refine wpTill_run (i := 14) (by kernel_rfl) rfl hs4 (fun K hK => ?_)
    go_simp
    refine hK _ _ ?_
    clear hK K
    refine wpTill_done (by kernel_rfl) ?_
    clear hs0 hs1 hs2 hs3 hs4 HX2 HXd HBd HX1 HX3
    obtain ⟨V4, hjc4, hto4⟩ := HJ4.out
    have HTO := Lib.hid (((JTo.new HB2.out).trans HJ3.out).trans hto4)
    obtain ⟨P, hP⟩ : ∃ P, P = p.wr 2 q (sgn (lastS j.m.sg).1) [] := ⟨_, rfl⟩
    rw [← hP] at HJ0
    have hP' : p.after (wrE 2 q p.E (sgn (lastS j.m.sg).1) []) = P := hP.symm
    rw [hP'] at hjc4
    clear HJ4 HJ3 hto4 hP hP'
    generalize p.wrc 2 q (sgn (lastS j.m.sg).1) [] = e at *
    have HJC := Lib.hid hjc4
    clear hjc4
    by_cases he : e = 0
    · have hq : ((e : Int) != 0) = false := by rw [he]; rfl
      have HE := Lib.hid he
      clear he
      go_upto_region 6 with fail
      have HJd := Lib.hid (HJC.out.new (Below.refl _ w4).drew)
      have HTd := Lib.hid (HTO.out.trans (JTo.new (V := V4) (Below.refl _ w4).drew))
      generalize hwd : w4.drew = wd at *
      have hs0 : (ldT 37 (.pointer (some ⟨gj, 2, none⟩))).run Tryz.prog wd = .ok (.int .u64 (j.c : Int)) wd := by
        obtain ⟨_, _, _, _, _, _, _, hx⟩ := HJd.out
        exact run_ldO ty_u64 hx.jn.blk 2 rfl
      refine wp_region_till (S := fun W => (ldT 37 (.pointer (some ⟨gj, 2, none⟩))).run Tryz.prog W = .ok (.int .u64 (j.c : Int)) W) (by kernel_rfl) ?_
      rw [hwd]
      clear hwd
      refine wpTill_take (i := 0) (v := ?vb0) rfl (by kernel_rfl) (fun _ _ _ h => h) (Or.inl ⟨by rfl, ?hyb0⟩) hs0 ?restb0
      case hyb0 => (rintro W hW; go_simp; try with_reducible rfl)
      simp only [Act.put, List.setIfInBounds_toArray, List.set_cons_zero, List.set_cons_succ, List.getElem_toArray, List.getElem_cons_succ, List.getElem_cons_zero]
      refine wpTill_take (i := 1) (v := ?vb1) rfl (by kernel_rfl) (fun _ _ _ h => h) (Or.inl ⟨by rfl, ?hyb1⟩) hs0 ?restb1
      case hyb1 => (rintro W hW; go_simp; try with_reducible rfl)
      simp only [Act.put, List.setIfInBounds_toArray, List.set_cons_zero, List.set_cons_succ, List.getElem_toArray, List.getElem_cons_succ, List.getElem_cons_zero]
      refine wpTill_take (i := 2) (v := ?vb2) rfl (by kernel_rfl) (fun _ _ _ h => h) (Or.inl ⟨by rfl, ?hyb2⟩) hs0 ?restb2
      case hyb2 => (rintro W hW; go_simp; try with_reducible rfl)
      simp only [Act.put, List.setIfInBounds_toArray, List.set_cons_zero, List.set_cons_succ, List.getElem_toArray, List.getElem_cons_succ, List.getElem_cons_zero]
      refine wpTill_take (i := 3) (v := ?vb3) rfl (by kernel_rfl) (fun _ _ _ h => h) (Or.inl ⟨by rfl, ?hyb3⟩) hs0 ?restb3
      case hyb3 => (rintro W hW; go_simp; try with_reducible rfl)
      simp only [Act.put, List.setIfInBounds_toArray, List.set_cons_zero, List.set_cons_succ, List.getElem_toArray, List.getElem_cons_succ, List.getElem_cons_zero]
      refine wpTill_take (i := 4) (v := ?vb4) rfl (by kernel_rfl) (fun _ _ _ h => h) (Or.inl ⟨by rfl, ?hyb4⟩) hs0 ?restb4
      case hyb4 => (rintro W hW; go_simp; try with_reducible rfl)
      simp only [Act.put, List.setIfInBounds_toArray, List.set_cons_zero, List.set_cons_succ, List.getElem_toArray, List.getElem_cons_succ, List.getElem_cons_zero]
      refine wpTill_take (i := 5) (v := ?vb5) rfl (by kernel_rfl) (fun _ _ _ h => h) (Or.inl ⟨by rfl, ?hyb5⟩) hs0 ?restb5
      case hyb5 => (rintro W hW; go_simp; try with_reducible rfl)
      simp only [Act.put, List.setIfInBounds_toArray, List.set_cons_zero, List.set_cons_succ, List.getElem_toArray, List.getElem_cons_succ, List.getElem_cons_zero]
      refine wpTill_take (i := 6) (v := ?vb6) rfl (by kernel_rfl) (fun _ _ _ h => h) (Or.inl ⟨by rfl, ?hyb6⟩) hs0 ?restb6
      case hyb6 => (rintro W hW; go_simp; try with_reducible rfl)
      simp only [Act.put, List.setIfInBounds_toArray, List.set_cons_zero, List.set_cons_succ, List.getElem_toArray, List.getElem_cons_succ, List.getElem_cons_zero]
      refine wpTill_take (i := 7) (v := ?vb7) rfl (by kernel_rfl) (fun _ _ _ h => h) (Or.inl ⟨by rfl, ?hyb7⟩) hs0 ?restb7
      case hyb7 => (rintro W hW; go_simp; try with_reducible rfl)
      simp only [Act.put, List.setIfInBounds_toArray, List.set_cons_zero, List.set_cons_succ, List.getElem_toArray, List.getElem_cons_succ, List.getElem_cons_zero]
      refine wpTill_take (i := 8) (v := ?vb8) rfl (by kernel_rfl) (fun _ _ _ h => h) (Or.inl ⟨by rfl, ?hyb8⟩) hs0 ?restb8
      case hyb8 => (rintro W hW; go_simp; try with_reducible rfl)
      simp only [Act.put, List.setIfInBounds_toArray, List.set_cons_zero, List.set_cons_succ, List.getElem_toArray, List.getElem_cons_succ, List.getElem_cons_zero]
      refine wpTill_take (i := 9) (v := ?vb9) rfl (by kernel_rfl) (fun _ _ _ h => h) (Or.inl ⟨by rfl, ?hyb9⟩) hs0 ?restb9
      case hyb9 => (rintro W hW; go_simp; try with_reducible rfl)
      simp only [Act.put, List.setIfInBounds_toArray, List.set_cons_zero, List.set_cons_succ, List.getElem_toArray, List.getElem_cons_succ, List.getElem_cons_zero]
      refine wpTill_run (i := 10) (by kernel_rfl) rfl hs0 (fun K hK => ?_)
      go_simp
      go_at_call 57
      refine (HJd.out.owned wd).mono ?_
      rintro R w5 ⟨rfl, k, rfl⟩
      have HJ5 := Lib.hid (HJd.out.new (below_drewN (Below.refl _ wd) k))
      have HT5 := Lib.hid (HTd.out.trans (JTo.new (V := V4) (below_drewN (Below.refl wd.heap.size wd) k)))
      clear HJd HTd
      generalize wd.drewN k = w5 at *
      rw [show (j.hold (e : Nat)).ow = j.ow from rfl]
      obtain ⟨S5, ao5, ac5, so5, sc5, co5, cc5, hx5⟩ := HJ5.out
      have hs5 : (ldT 37 (.pointer (some ⟨gj, 2, none⟩))).run Tryz.prog w5 = .ok (.int .u64 (j.c : Int)) w5 := run_ldO ty_u64 hx5.jn.blk 2 rfl
      obtain ⟨w6, s6, c6, q6, z6⟩ := cells_st ty_u64 hx5.jn.blk 4 (Nat.le_of_ble_eq_true rfl) (.int .u64 (j.c : Int)) rfl rfl (cs' := jcs gp { j.hold (e : Nat) with sy := j.c } ao5 ac5 so5 sc5 co5 cc5) rfl
      have hs6 : (ldT 37 (.pointer (some ⟨gj, 2, none⟩))).run Tryz.prog w6 = .ok (.int .u64 (j.c : Int)) w6 := run_ldO ty_u64 c6 2 rfl
      obtain ⟨w7, s7, c7, q7, z7⟩ := cells_st ty_u64 c6 5 (Nat.le_of_ble_eq_true rfl) (.int .u64 (j.ow : Int)) rfl rfl (cs' := jcs gp { j.hold (e : Nat) with sy := j.c, os := j.ow } ao5 ac5 so5 sc5 co5 cc5) rfl
      have hs7 : (ldT 37 (.pointer (some ⟨gj, 2, none⟩))).run Tryz.prog w7 = .ok (.int .u64 (j.c : Int)) w7 := run_ldO ty_u64 c7 2 rfl
      have hf := hx5.jn.fit
      obtain ⟨V7, hj7, ht7⟩ := hx5.cell (j' := { j.hold (e : Nat) with sy := j.c, os := j.ow }) (q6.trans q7) c7 ⟨hf.o, hf.ah, hf.ahl, (by have : j.c + j.ah.length < 18446744073709551616 := hf.o; show j.c < _; omega), hf.o, hf.ap, hf.rows, hf.pl, hf.sgl, hf.ckl⟩ rfl rfl
      have HFin : Hid (Q (.returned (.int .i64 0)) w7) := by
        show Q _ _
        rw [HQ.out, HJ0.out, if_pos HE.out]
        have h7 := hj7
        rw [HE.out] at h7
        exact ⟨rfl, V7, h7, HT5.out.trans ht7⟩
      clear hx5 c6 q6 z6 c7 q7 z7 hf hj7 ht7
      refine hK _ _ ?_
      clear hK K
      refine wpTill_take (i := 11) (v := ?vb11) rfl (by kernel_rfl) (fun _ _ _ h => h) (Or.inl ⟨by rfl, ?hyb11⟩) hs5 ?restb11
      case hyb11 => (rintro W hW; go_simp; try with_reducible rfl)
      simp only [Act.put, List.setIfInBounds_toArray, List.set_cons_zero, List.set_cons_succ, List.getElem_toArray, List.getElem_cons_succ, List.getElem_cons_zero]
      refine wpTill_take (i := 12) (v := ?vb12) rfl (by kernel_rfl) (fun _ _ _ h => h) (Or.inl ⟨by rfl, ?hyb12⟩) hs5 ?restb12
      case hyb12 => (rintro W hW; go_simp; try with_reducible rfl)
      simp only [Act.put, List.setIfInBounds_toArray, List.set_cons_zero, List.set_cons_succ, List.getElem_toArray, List.getElem_cons_succ, List.getElem_cons_zero]
      refine wpTill_run (i := 13) (by kernel_rfl) rfl hs5 (fun K hK => ?_)
      go_simp
      refine hK _ _ ?_
      clear hK K
      refine wpTill_take (i := 14) (v := ?vb14) rfl (by kernel_rfl) (fun _ _ _ h => h) (Or.inl ⟨by rfl, ?hyb14⟩) hs6 ?restb14
      case hyb14 => (rintro W hW; go_simp; try with_reducible rfl)
      simp only [Act.put, List.setIfInBounds_toArray, List.set_cons_zero, List.set_cons_succ, List.getElem_toArray, List.getElem_cons_succ, List.getElem_cons_zero]
      refine wpTill_take (i := 15) (v := ?vb15) rfl (by kernel_rfl) (fun _ _ _ h => h) (Or.inl ⟨by rfl, ?hyb15⟩) hs6 ?restb15
      case hyb15 => (rintro W hW; go_simp; try with_reducible rfl)
      simp only [Act.put, List.setIfInBounds_toArray, List.set_cons_zero, List.set_cons_succ, List.getElem_toArray, List.getElem_cons_succ, List.getElem_cons_zero]
      refine wpTill_run (i := 16) (by kernel_rfl) rfl hs6 (fun K hK => ?_)
      go_simp
      refine hK _ _ ?_
      clear hK K
      refine wpTill_done (by kernel_rfl) ?_
      clear hs0 hs5 hs6 hs7
      go_wp2
      exact HFin.out
    · have hq : ((e : Int) != 0) = true := by rw [bne_iff_ne]; omega
      have HFin : Hid (Q (.returned (.int .i64 (e : Int))) w4) := by
        show Q _ _
        rw [HQ.out, HJ0.out, if_neg he]
        exact ⟨rfl, V4, HJC.out, HTO.out⟩
      go_wp2
      exact HFin.out
end
end Go.Proofs.YtgeaacabpnepmaaGreatDoor
/- Own, Sure. -/
namespace Go.Proofs.YtgeaacabpnepmaaGreatDoor
open Go.RowKit
set_option linter.unusedVariables false
set_option linter.unusedSimpArgs false
set_option maxRecDepth 20000

section
variable {V : Nat → Prop} {w w1 : World} {gj gp q kc : Nat} {dv : Value} {ko : Option Addr} {p : Pw} {j : Jn} {S : Nat → Prop} {ao so co : Option Addr} {ac sc cc : Nat} {R : Ending}
theorem JX.cman (hx : JX V w gj gp q dv ko kc p j S ao ac so sc co cc) (k : Tu (fun x => x = gj) w w1) : MfAt w1 j.m so co :=
  have hn : ∀ x, jsl j ao so co x → x ≠ gj := hx.jn.nj
  ⟨hx.jn.man.fit, hx.jn.man.ps.tuS k fun h0 a e => hn _ (.inr (.inl ⟨h0, a, e, rfl⟩)), hx.jn.man.ns.tuS k fun h0 a e => hn _ (.inr (.inr ⟨h0, a, e, rfl⟩)), hx.jn.man.l1, hx.jn.man.l2⟩
theorem JX.owns {i : Nat} (hx : JX V w gj gp q dv ko kc p j S ao ac so sc co cc) (hp : OwnPost w gj 69 (jcs gp j ao ac so sc co cc) 2 (j.ah ++ [i]) R w1) (hi : i < 64) (ho : j.c + j.ah.length + 1 < 18446744073709551616) (hl : j.ah.length ≤ 131071) :
    R = .returned (.tuple #[]) ∧ ∃ V', JC V' w1 gj gp q dv ko kc p { j with ah := j.ah ++ [i] } ∧ JTo V w V' w1 := by
  obtain ⟨rfl, ao2, ac2, h1, h2, h3, h4, h5, h6, h7⟩ := hp
  refine ⟨rfl, ?_⟩
  have kt : Tu (fun x => x = gj) w w1 := Tu.of_same h7
  have hf := hx.jn.fit
  refine hx.turn (j' := { j with ah := j.ah ++ [i] }) (ao := ao2) (ac := ac2) (so := so) (sc := sc) (co := co) (cc := cc) kt h1 ⟨?_, ?_, ?_, hf.sy, hf.os, hf.ap, hf.rows, hf.pl, hf.sgl, hf.ckl⟩ h2 (hx.cman kt) ⟨h4, h5⟩ hx.jn.scap fun x hx => ?_
  · show j.c + (j.ah ++ [i]).length < _
    simp; omega
  · intro x hx
    rcases List.mem_append.1 hx with hx | hx
    · exact hf.ah x hx
    · rw [List.mem_singleton] at hx; omega
  · show (j.ah ++ [i]).length ≤ _
    simp; omega
  · rcases hx with ⟨h0, a, e, rfl⟩ | h | h
    · exact .inr (h3 a e)
    · exact .inl (.inr (.inl h))
    · exact .inl (.inr (.inr h))
theorem JX.sures {b k : Nat} (hx : JX V w gj gp q dv ko kc p j S (some ⟨b, k, none⟩) ac so sc co cc) (hp : CfPost w gj 69 (jcs gp j (some ⟨b, k, none⟩) ac so sc co cc) 2 j.c (some ⟨b, k, none⟩) j.ah.length ac R w1) (h0 : j.ah ≠ []) :
    R = .returned (.tuple #[]) ∧ ∃ V', JC V' w1 gj gp q dv ko kc p { j with c := j.c + 1, ah := j.ah.tail } ∧ JTo V w V' w1 := by
  obtain ⟨rfl, ao2, h1, h2, h7⟩ := hp
  refine ⟨rfl, ?_⟩
  have kt : Tu (fun x => x = gj) w w1 := Tu.of_same h7
  have hf := hx.jn.fit
  have hfo := hf.o
  have hfl := hf.ahl
  have hc := hx.jn.cap
  have hi := hx.jn.ins.tu kt fun h0 a e => hx.jn.nj _ (.inl ⟨h0, a, e, rfl⟩)
  have hfa := hf.ah
  have hjs := hx.jn.nj
  obtain ⟨r, c, ah, sy, os, m, ap, br⟩ := j
  dsimp only at *
  obtain ⟨x, l, rfl⟩ := List.exists_cons_of_ne_nil h0
  simp only [List.length_cons] at hc hfo hfl
  have hb : l ≠ [] → ao2 = some ⟨b, k + 1, none⟩ := fun hl => by
    have := List.length_pos_iff.2 hl
    rcases h2 b k rfl with ⟨e, _⟩ | ⟨_, e⟩
    · omega
    · exact e
  refine hx.turn (j' := ⟨r, c + 1, l, sy, os, m, ap, br⟩) (ao := ao2) (ac := ac - 1) (so := so) (sc := sc) (co := co) (cc := cc) kt h1 ⟨?_, fun x hx => hfa x (List.mem_cons_of_mem _ hx), ?_, hf.sy, hf.os, hf.ap, hf.rows, hf.pl, hf.sgl, hf.ckl⟩ ?_ (hx.cman kt) ⟨?_, ?_⟩ hx.jn.scap fun x hx => ?_
  · show c + 1 + l.length < _
    omega
  · show l.length ≤ _
    omega
  · by_cases hl : l = []
    · show InAt w1 ao2 l
      rw [hl]; exact InAt.nil _ _
    · rw [hb hl]; exact hi.tail
  · show l.length ≤ _
    omega
  · omega
  · rcases hx with ⟨h0, a, e, rfl⟩ | h | h
    · rw [hb h0] at e
      cases e
      exact .inl (.inl ⟨by simp, _, rfl, rfl⟩)
    · exact .inl (.inr (.inl h))
    · exact .inl (.inr (.inr h))
attribute [local go_sem ↓] ld_pw ld_man ld_inps ld_int st_int ld_u64 st_u64 ld_u8 ld_bool
set_option maxHeartbeats 4000000 in
theorem jown_c (f i : Nat) (w : World) (h : JC V w gj gp q dv ko kc p j) (hn : p.n < 1000000) (hap : j.ap < 1000000) (ht : Tab w) (hfi : f < 18446744073709551616) :
    Calls Tryz.prog 16 #[.pointer (some ⟨gj, 0, none⟩), .int .u64 (f : Int), .int .u8 (i : Int)] w (JPost V w gj gp q dv ko kc (jOwn q p j f i).e (jOwn q p j f i).p (jOwn q p j f i).j) := by
  have HW := Lib.hid (works_c w h)
  have HO := Lib.hid (h.owned w)
  have HJ := Lib.hid h
  have HN := Lib.hid hn
  have HAP := Lib.hid hap
  have HT := Lib.hid ht
  have HFI := Lib.hid hfi
  obtain ⟨Q, hQ⟩ : ∃ Q : Ending → World → Prop, Q = JPost V w gj gp q dv ko kc (jOwn q p j f i).e (jOwn q p j f i).p (jOwn q p j f i).j := ⟨_, rfl⟩
  rw [← hQ]
  have HQ := Lib.hid hQ
  clear h hn hap ht hfi hQ
  cases hb : j.br
  case true =>
    have HFin : Hid (Q (.returned (.int .i64 13)) w) := by
      show Q _ _
      rw [HQ.out, show jOwn q p j f i = ⟨13, p, j⟩ from if_pos hb]
      exact ⟨rfl, V, HJ.out, JTo.refl _ _⟩
    rw [hb] at HW
    go_enter Tryz.func16, Tryz.ntmps16
    go_wp2_with fail
    refine HW.out.mono ?_
    rintro R w' ⟨rfl, rfl⟩
    go_wp2
    exact HFin.out
  case false =>
    have HJ0 : Hid (jOwn q p j f i = if 64 ≤ i then ⟨2, p, j⟩ else if f ≠ j.ow ∨ f = 18446744073709551615 then ⟨11, p, j⟩ else if 12 ≤ j.ah.length then ⟨7, p, j⟩ else if wrE' q p j (rO f i) = 0 then ⟨0, wrP q p j (rO f i), { j.wrote 0 with ah := j.ah ++ [i] }⟩ else ⟨wrE' q p j (rO f i), wrP q p j (rO f i), j.wrote (wrE' q p j (rO f i))⟩) := if_neg (by rw [hb]; exact Bool.false_ne_true)
    rw [hb] at HW
    by_cases hi : i < 64
    case neg =>
      have HL := Lib.hid (jlegal_c i w)
      rw [decide_eq_false hi] at HL
      have HFin : Hid (Q (.returned (.int .i64 2)) w) := by
        show Q _ _
        rw [HQ.out, HJ0.out, if_pos (by omega)]
        exact ⟨rfl, V, HJ.out, JTo.refl _ _⟩
      clear hi
      go_enter Tryz.func16, Tryz.ntmps16
      go_wp2_with fail
      refine HW.out.mono ?_
      rintro R w' ⟨rfl, rfl⟩
      go_wp2_with fail
      refine HL.out.mono ?_
      rintro R w' ⟨rfl, rfl⟩
      go_wp2
      exact HFin.out
    case pos =>
      have HL := Lib.hid (jlegal_c i w)
      rw [decide_eq_true hi] at HL
      have HI := Lib.hid hi
      clear hi
      by_cases hf : f ≠ j.ow ∨ f = 18446744073709551615
      case pos =>
        have HFin : Hid (∀ k, Q (.returned (.int .i64 11)) (w.drewN k)) := fun k => by
          show Q _ _
          rw [HQ.out, HJ0.out, if_neg (by have := HI.out; omega), if_pos hf]
          exact ⟨rfl, V, HJ.out.new (below_drewN (Below.refl _ _) k), JTo.new (below_drewN (Below.refl _ _) k)⟩
        obtain ⟨b1, hb1⟩ : ∃ b1, ((f : Int) != (j.ow : Int)) = b1 := ⟨_, rfl⟩
        obtain ⟨b2, hb2⟩ : ∃ b2, ((f : Int) == 18446744073709551615) = b2 := ⟨_, rfl⟩
        have hbb : b1 = true ∨ (b1 = false ∧ b2 = true) := by
          subst hb1 hb2
          rcases hf with h | h
          · left; rw [bne_iff_ne]; omega
          · by_cases h1 : f = j.ow
            · right; refine ⟨?_, by rw [beq_iff_eq]; omega⟩
              rw [← h1]; simp
            · left; rw [bne_iff_ne]; omega
        clear hf
        rcases hbb with rfl | ⟨rfl, rfl⟩
        all_goals
          go_enter Tryz.func16, Tryz.ntmps16
          go_wp2_with fail
          refine HW.out.mono ?_
          rintro R w' ⟨rfl, rfl⟩
          go_wp2_with fail
          refine HL.out.mono ?_
          rintro R w' ⟨rfl, rfl⟩
          go_wp2_with fail
          refine HO.out.mono ?_
          rintro R w' ⟨rfl, k, rfl⟩
          go_wp2
          exact HFin.out k
      case neg =>
        have hfo : f = j.ow := by omega
        have hfm : f ≠ 18446744073709551615 := by omega
        have hb1 : ((f : Int) != (j.ow : Int)) = false := by rw [hfo]; simp
        have hb2 : ((f : Int) == 18446744073709551615) = false := beq_eq_false_iff_ne.2 (by omega)
        have HJ1 : Hid (jOwn q p j f i = if 12 ≤ j.ah.length then ⟨7, p, j⟩ else if wrE' q p j (rO f i) = 0 then ⟨0, wrP q p j (rO f i), { j.wrote 0 with ah := j.ah ++ [i] }⟩ else ⟨wrE' q p j (rO f i), wrP q p j (rO f i), j.wrote (wrE' q p j (rO f i))⟩) := by
          show _ = _
          rw [HJ0.out, if_neg (by have := HI.out; omega), if_neg hf]
        have HFO := Lib.hid hfo
        have HFM := Lib.hid hfm
        clear hf hfo hfm HJ0
        go_enter Tryz.func16, Tryz.ntmps16
        go_wp2_with fail
        refine HW.out.mono ?_
        rintro R w' ⟨rfl, rfl⟩
        go_wp2_with fail
        refine HL.out.mono ?_
        rintro R w' ⟨rfl, rfl⟩
        go_wp2_with fail
        refine HO.out.mono ?_
        rintro R w' ⟨rfl, k, rfl⟩
        have HJ2 := Lib.hid (HJ.out.new (below_drewN (Below.refl _ _) k))
        have HTO2 := Lib.hid (JTo.new (V := V) (below_drewN (Below.refl w.heap.size w) k))
        have HT2 := Lib.hid (tab_below HT.out (below_drewN (Below.refl _ _) k))
        generalize w.drewN k = w2 at *
        obtain ⟨S, ao, ac, so, sc, co, cc, hx⟩ := HJ2.out
        have l1 := run_ldO ty_inps hx.jn.blk 3 (v := .slice ao j.ah.length ac) rfl
        clear hx
        by_cases h12 : 12 ≤ j.ah.length
        case pos =>
          have hle : (12 : Int) ≤ (j.ah.length : Int) := by omega
          have HFin : Hid (Q (.returned (.int .i64 7)) w2) := by
            show Q _ _
            rw [HQ.out, HJ1.out, if_pos h12]
            exact ⟨rfl, V, HJ2.out, HTO2.out⟩
          clear h12
          go_wp2
          exact HFin.out
        case neg =>
          have hle : ¬ (12 : Int) ≤ (j.ah.length : Int) := by omega
          have HLE := Lib.hid h12
          clear h12
          go_wp2_with fail
          refine (ownRec_c f i w2).mono ?_
          rintro R w3 ⟨rfl, hb3⟩
          have HJ3 := Lib.hid (HJ2.out.new hb3)
          have HT3 := Lib.hid (tab_below HT2.out hb3)
          have HTO3 := Lib.hid (HTO2.out.trans (JTo.new (V := V) hb3))
          clear hb3 l1 HJ2 HTO2 HT2
          go_wp2_with fail
          refine (jwrite_c (rO f i) w3 HJ3.out (rO_fit HFI.out HI.out) HN.out HAP.out HT3.out).mono ?_
          rintro R w4 ⟨rfl, V4, hj4, ht4⟩
          rw [if_neg HLE.out] at HJ1
          have HTO4 := Lib.hid (HTO3.out.trans ht4)
          generalize wrE' q p j (rO f i) = e at *
          clear ht4 HTO3 HJ3 HT3
          have HJ4 := Lib.hid hj4
          clear hj4
          by_cases he : e = 0
          · have hq : (e != 0) = false := by rw [he]; rfl
            subst he
            obtain ⟨S4, ao4, ac4, so4, sc4, co4, cc4, hx4⟩ := HJ4.out
            have HX4 := Lib.hid hx4
            have hcp := hx4.jn.cap
            have HC4 := Lib.hid hcp
            clear hx4 hcp
            go_wp2_with fail
            refine (town_c gj 2 j.ah.length ac4 i 69 (jcs gp (j.wrote 0) ao4 ac4 so4 sc4 co4 cc4) ao4 j.ah w4 HX4.out.jn.blk rfl HX4.out.jn.ins rfl HC4.out.1 (by have := HLE.out; omega) (fun e => by
              by_cases h0 : j.ah = []
              · rw [h0]; rfl
              · obtain ⟨b, o, e2⟩ := HX4.out.jn.ins.ptr h0
                rw [e] at e2; cases e2)).mono ?_
            rintro R w5 hp5
            obtain ⟨rfl, V5, hj5, ht5⟩ := HX4.out.owns hp5 HI.out (by have h1 := HFO.out; have h2 := HFM.out; have h3 := HFI.out; unfold Jn.ow at h1; show j.c + j.ah.length + 1 < _; omega) (by have := HLE.out; show j.ah.length ≤ _; omega)
            have HFin : Hid (Q (.returned (.int .i64 0)) w5) := by
              show Q _ _
              rw [HQ.out, HJ1.out, if_pos trivial]
              exact ⟨rfl, V5, hj5, HTO4.out.trans ht5⟩
            clear hp5 hj5 ht5
            go_wp2
            exact HFin.out
          · have hq : (e != 0) = true := by rw [bne_iff_ne]; exact he
            have HFin : Hid (Q (.returned (.int .i64 e)) w4) := by
              show Q _ _
              rw [HQ.out, HJ1.out, if_neg he]
              exact ⟨rfl, V4, HJ4.out, HTO4.out⟩
            clear he
            go_wp2
            exact HFin.out
end
end Go.Proofs.YtgeaacabpnepmaaGreatDoor
