/- The records that a play makes, by the statements' own function: its contract. -/
import Derived.Test.YthnelnfefllhpaaGreatDoorBz
import Derived.Deep.DeepCutAuto
namespace Go.Proofs.YthnelnfefllhpaaGreatDoor
open Go.RowKit
set_option linter.unusedVariables false
set_option linter.unusedSimpArgs false
set_option maxRecDepth 20000

/-- What 'made' answers. -/
def MadePost (w : World) (n : Nat) (E : Ending) (w' : World) : Prop := ∃ (l : List Rc) (ao : Option Addr) (cap : Nat), E = .returned (.slice ao l.length cap) ∧ RcsAt w' ao l ∧ Goes 1 sg0 l ∧ 0 < l.length ∧ l.length ≤ 1 + 2 * n ∧ Below w.heap.size w w'
attribute [local go_sem ↓] ld_rec st_rec ld_play ld_u16s ld_u64 ld_u8 ld_u16 ld_input st_input ld_pair st_pair bs_m
attribute [local go_sem] bs_rec
set_option maxHeartbeats 8000000 in
theorem made_c (pl fi : Nat) (L : List Nat) (a : Option Addr) (acap : Nat) (w : World) (hp : pl < 256) (hfi : fi < 18446744073709551616) (hU : U16s w a L) (hL : L.length ≤ 100) :
    Calls Tryz.prog 6 #[.agg #[.int .u8 (pl : Int), .int .u64 (fi : Int), .slice a L.length acap]] w (MadePost w L.length) := by
  have HU := Lib.hid hU
  obtain ⟨Q, hQ⟩ : ∃ Q, Q = MadePost w L.length := ⟨_, rfl⟩
  rw [← hQ]
  have HQ := Lib.hid hQ
  have H0 := Lib.hid (Loc.one w 25 #[.int .u8 (pl : Int), .int .u64 (fi : Int), .slice a L.length acap])
  obtain ⟨f, hf, hfv⟩ : ∃ f : Nat, (fi : Int) % 1152921504606846976 = (f : Int) ∧ f < 1152921504606846976 := ⟨fi % 1152921504606846976, by omega, by omega⟩
  obtain ⟨y, hy, hyv⟩ : ∃ y : Nat, (pl : Int) % 2 = (y : Int) ∧ y < 2 := ⟨pl % 2, by omega, by omega⟩
  clear hU hQ
  go_enter Tryz.func6, Tryz.ntmps6
  go_upto_region 1 with fail
  generalize w.alloc (.cells #[.int .u8 (pl : Int), .int .u64 (fi : Int), .slice a L.length acap] 25) = wa at *
  have l1 := H0.out.ldO ty_u64 0 rfl 1 (v := .int .u64 (fi : Int)) rfl
  have l0 := H0.out.ldO ty_u8 0 rfl 0 (v := .int .u8 (pl : Int)) rfl
  obtain ⟨g4, wb, z4, s4, h4, q4⟩ := H0.out.newA ty_rec #[.int .i64 0, .int .u64 0, .int .u8 0, .int .u8 0, .int .u8 0, .int .u64 0, .int .u64 0, .int .u64 0, .int .u8 0] #[.int .i64 3, .int .u64 0, .int .u8 0, .int .u8 0, .int .u8 0, .int .u64 1, .int .u64 (f : Int), .int .u64 1, .int .u8 (y : Int)] rfl rfl (by simp [Value.oneCell'])
  have H4 : Hid (Loc w.heap.size w wb [(w.heap.size, 25, #[.int .u8 (pl : Int), .int .u64 (fi : Int), .slice a L.length acap]), (g4, 43, rcs (hd f y))]) := h4
  go_upto_region 3 with fail
  have HFE := Lib.hid hf
  clear l1 l0 s4 z4 h4 q4 H0 hf hy
  have l4 := H4.out.ldA ty_rec 1 rfl 0 (vs := rcs (hd f y)) (by simp [rcs]) (Nat.le_of_ble_eq_true rfl)
  have HR0 : Hid (Rcr 43 w.heap.size (wb.alloc (.cells (rcs (hd f y)) 43)) [w.heap.size, g4] (some ⟨wb.heap.size, 0, none⟩) 1 1 [hd f y]) := Rcr.first H4.out.size (fun b hb => by
    simp only [List.mem_cons, List.not_mem_nil, or_false] at hb
    rcases hb with rfl | rfl
    · exact (H4.out.get 0 rfl).lt
    · exact (H4.out.get 1 rfl).lt)
  have H5 := Lib.hid (H4.out.to (below_alloc wb (.cells (rcs (hd f y)) 43)))
  have HM0 := Lib.hid (made_start (f := f) (y := y) (by omega) hyv)
  go_wp2
  clear l4 H4
  go_loopw [5, 6, 7, 8] (fun lv cv mv iv wr => ∃ j : Nat, j ≤ L.length ∧ iv = .int .i64 (j : Int) ∧ ∃ (l : List Rc) (x : Sg) (m cp lc : Nat) (ao2 la : Option Addr), lv = .slice la l.length lc ∧ cv = .int .u64 (x.c : Int) ∧ mv = .slice ao2 m cp ∧ Hid (MadeI f j y l x m) ∧ Hid (Rcr 43 w.heap.size wr [w.heap.size, g4] la l.length lc l) ∧ Hid (QRow w.heap.size wr [w.heap.size, g4] ao2 m cp (win x)) ∧ Hid (Loc w.heap.size w wr [(w.heap.size, 25, #[.int .u8 (pl : Int), .int .u64 (fi : Int), .slice a L.length acap]), (g4, 43, rcs (hd f y))])) (fun _ _ _ iv _ => L.length - (intOf iv).toNat)
  case atStart => exact ⟨0, Nat.zero_le _, rfl, [hd f y], ⟨true, hd f y, [], f, f⟩, 0, 0, 1, none, some ⟨wb.heap.size, 0, none⟩, rfl, congrArg (Value.int .u64) HFE.out, rfl, HM0.out, HR0.out, by show QRow _ _ _ _ _ _ _; rw [show win ⟨true, hd f y, [], f, f⟩ = [] by simp [win]]; exact QRow.nil _ _ _ HR0.out.lo, H5.out⟩
  case round =>
    clear HM0 HR0 H5
    obtain ⟨j, hj, rfl, l, x, m, cp, lc, ao2, la, rfl, rfl, rfl, HM, HR, HQr, HL⟩ := hrel
    by_cases hlt : j < L.length
    · obtain ⟨hu, b, o, ea, hcell⟩ := HU.out j hlt
      have HCA : Hid (∀ W, Below w.heap.size w W → W.cell? ⟨b, o + j, none⟩ = some (.int .u16 ((L[j]'hlt : Nat) : Int))) := fun W hb => by
        rw [World.cell?_of_block (w := w) (hb.block b (World.block_lt_of_cell? w _ hcell))]
        exact hcell
      have HLT := Lib.hid hlt
      generalize L[j]'hlt = u at *
      have lS := HL.out.ldO ty_u16s 0 rfl 2 (v := .slice (some ⟨b, o, none⟩) L.length acap) (by rw [ea]; rfl)
      have EA := Lib.hid ea
      clear ea
      have lU := run_ldC ty_u16 (HCA.out wr HL.out.be)
      have HM' := HM.out
      have hm := HM'.num
      have ho := HM'.of
      have hc := HM'.co
      have hfc := HM'.fc
      obtain ⟨u6, hu6, hu6v⟩ : ∃ k : Nat, (u : Int) % 64 = (k : Int) ∧ k < 64 := ⟨u % 64, by omega, by omega⟩
      obtain ⟨o1, ho1, ho1v⟩ : ∃ o1 : Nat, IntKind.u64.wrap ((x.c : Int) + (m : Int)) = (o1 : Int) ∧ o1 = x.o := ⟨x.o, by rw [IntWalk.u64_in _ (by omega)]; omega, rfl⟩
      have HO1 := Lib.hid ho1v
      have hcnt := Lib.hid HM'.cnt
      have hll : l.length ≤ 300 := by have := HM'.cnt; omega
      have hm12 := HM'.m12
      have hij : (j : Int) < (L.length : Int) := by omega
      clear HM' hm ho hc ho1v hcell hfc
      go_upto_if 30 with fail
      go_cut [5, 7] (fun lv mv wx => ∃ (l : List Rc) (x2 : Sg) (m cp lc : Nat) (ao2 la : Option Addr), lv = .slice la l.length lc ∧ mv = .slice ao2 m cp ∧ x2.c = x.c ∧ Hid (MadeI f (j + 1) y l x2 m) ∧ Hid (Rcr 43 w.heap.size wx [w.heap.size, g4] la l.length lc l) ∧ Hid (QRow w.heap.size wx [w.heap.size, g4] ao2 m cp (win x2)) ∧ Hid (Loc w.heap.size w wx [(w.heap.size, 25, #[.int .u8 (pl : Int), .int .u64 (fi : Int), .slice a L.length acap]), (g4, 43, rcs (hd f y))]))
      case first =>
        by_cases hm2 : m < 12
        · have i2 : (m : Int) < 12 := by omega
          have HMW := Lib.hid (made_own HM.out hm2 (by omega) hu6v)
          rw [← HO1.out] at HMW
          clear hm2
          go_wp2_with fail
          refine (own_c o1 u6 _).mono ?_
          rintro E w1 ⟨rfl, hb1⟩
          have HL1 := Lib.hid (HL.out.to hb1)
          have HR1 := Lib.hid (HR.out.to hb1)
          have HQ1 := Lib.hid (HQr.out.to hb1)
          clear hb1 lS lU
          go_upto_region 11 with (at_builtin; refine wpList_append_recG Tryz.underlying31 info_rec rfl _ _ rfl (by simp [Act.eval]) (rO o1 u6) (by simp [Act.eval]) HR1.out HL1.out (Nat.le_refl _) HL1.out.size (by simp) (by omega) ?_; intro r7 cap7 w7 hR7 hL7 hg7; have HR7 := Lib.hid hR7; have HL7 := Lib.hid hL7; have HG7 := Lib.hid hg7; clear hR7 hL7 hg7)
          have HQ7 := Lib.hid ((HQ1.out.to (below_alloc w1 (.cells (rcs (rO o1 u6)) 43))).keep HG7.out (fun g hg => (HR1.out.to (below_alloc w1 (.cells (rcs (rO o1 u6)) 43))).unlike (HQ1.out.to (below_alloc w1 (.cells (rcs (rO o1 u6)) 43))) (by decide) hg))
          have lS := HL7.out.ldO ty_u16s 0 rfl 2 (v := .slice (some ⟨b, o, none⟩) L.length acap) (by rw [EA.out]; rfl)
          have lU := run_ldC ty_u16 (HCA.out w7 HL7.out.be)
          have hm9 : m ≤ 1000000 := by omega
          clear HR1 HL1 HQ1 HG7
          go_wp2_with (at_builtin; refine wpList_append_q rfl _ _ 58 Tryz.underlying58 rfl (by simp [Act.eval]) u6 (by simp [Act.eval]) HQ7.out HL7.out (Nat.le_refl _) HL7.out.size (by simp) hm9 ?_; intro ao8 cp8 w8 hq8 hL8 hg8; have HQ8 := Lib.hid hq8; have HL8 := Lib.hid hL8; have HG8 := Lib.hid hg8; clear hq8 hL8 hg8)
          all_goals go_meet
          have HR8 := Lib.hid ((HR7.out.to (below_alloc w7 (.cells #[.int .u8 (u6 : Int)] 39))).keep HG8.out (by
            rcases Classical.em ((Value.slice (some ⟨r7, 0, none⟩) (l.length + 1) cap7).ownBlock = none) with h | h
            · exact .inl h
            · refine .inr fun e => ?_
              exact (HR7.out.to (below_alloc w7 (.cells #[.int .u8 (u6 : Int)] 39))).unlike (HQ7.out.to (below_alloc w7 (.cells #[.int .u8 (u6 : Int)] 39))) (by decide) (g := r7) rfl e.symm))
          have hl9 : l.length + 1 = (l ++ [rO o1 u6]).length := by simp
          rw [hl9] at HR8 ⊢
          exact ⟨l ++ [rO o1 u6], ⟨x.b, x.h, x.l ++ [rO o1 u6], x.c, o1 + 1⟩, m + 1, cp8, cap7, ao8, some ⟨r7, 0, none⟩, rfl, rfl, rfl, HMW.out.1, HR8, by show QRow _ _ _ _ _ _ _; rw [HMW.out.2]; exact HQ8.out, HL8⟩
        · have i2 : ¬ (m : Int) < 12 := by omega
          clear hm2
          go_wp2_with fail
          all_goals go_meet
          all_goals exact ⟨l, x, m, cp, lc, ao2, la, rfl, rfl, rfl, made_more HM.out, HR, HQr, HL⟩
      case rest =>
        clear lS lU HM HR HQr HL
        obtain ⟨l0, x0, m0, cp0, lc0, ao0, la0, rfl, rfl, hxc, HM0, HR0, HQ0, HL0⟩ := hcut
        have HXC := Lib.hid hxc
        clear hxc
        go_wp2
        go_loopw [5, 6, 7] (fun lv cv mv wr => ∃ (l : List Rc) (x : Sg) (m cp lc : Nat) (ao2 la : Option Addr), lv = .slice la l.length lc ∧ cv = .int .u64 (x.c : Int) ∧ mv = .slice ao2 m cp ∧ Hid (MadeI f (j + 1) y l x m) ∧ Hid (Rcr 43 w.heap.size wr [w.heap.size, g4] la l.length lc l) ∧ Hid (QRow w.heap.size wr [w.heap.size, g4] ao2 m cp (win x)) ∧ Hid (Loc w.heap.size w wr [(w.heap.size, 25, #[.int .u8 (pl : Int), .int .u64 (fi : Int), .slice a L.length acap]), (g4, 43, rcs (hd f y))])) (fun _ _ mv _ => match mv with | .slice _ n _ => n | _ => 0)
        case atStart => exact ⟨l0, x0, m0, cp0, lc0, ao0, la0, rfl, by rw [HXC.out], rfl, HM0, HR0, HQ0, HL0⟩
        case round =>
          clear HM0 HR0 HQ0 HL0 HXC
          obtain ⟨l, x, m, cp, lc, ao2, la, rfl, rfl, rfl, HM, HR, HQr, HL⟩ := hrel
          have lS := HL.out.ldO ty_u16s 0 rfl 2 (v := .slice (some ⟨b, o, none⟩) L.length acap) (by rw [EA.out]; rfl)
          have lU := run_ldC ty_u16 (HCA.out _ HL.out.be)
          obtain ⟨v, hv⟩ : ∃ v, bits BinOp.and IntKind.u16 (u : Int) 64 = v := ⟨_, rfl⟩
          by_cases hv0 : v = 0
          · have g0 : (v != 0) = false := by rw [hv0]; rfl
            clear hv0
            go_wp2
            go_roundw
            case rel => exact ⟨j + 1, HLT.out, by go_num, l, x, m, cp, lc, ao2, la, rfl, rfl, rfl, HM, HR, HQr, HL⟩
            case measure => have := HLT.out; simp [intOf]; omega
          · have g0 : (v != 0) = true := bne_iff_ne.2 hv0
            clear hv0
            by_cases hm0 : 0 < m
            · have i0 : (0 : Int) < (m : Int) := by omega
              go_upto_region 13 with fail
              have hyy : y = 0 ∨ y = 1 := by omega
              have HMM := HM.out
              have hll : l.length ≤ 300 := by have := HMM.cnt; have := HMM.of; have := HMM.co; have := HMM.fc; omega
              have hxo : x.o ≤ f + (j + 1) := HMM.of
              have hcm : m = x.o - x.c := HMM.num
              have hcap := HQr.out.caps
              have hwl := win_len x
              obtain ⟨c1, hc1, hc1v⟩ : ∃ c1 : Nat, IntKind.u64.wrap ((x.c : Int) + 1) = (c1 : Int) ∧ c1 = x.c + 1 := ⟨x.c + 1, by rw [IntWalk.u64_in _ (by omega)]; omega, rfl⟩
              have HWS := Lib.hid (win_sure (x := x) (r := rS 0 0 0) (by omega) (by decide))
              have hq0 := HQr.out
              rw [HWS.out] at hq0
              obtain ⟨gq, oq, rfl, hcell⟩ := hq0.at (j := 0) (by simp)
              have hk64 := HMM.lt x.c
              obtain ⟨k0, hk0⟩ : ∃ k0, k0 = inp x.l x.c := ⟨_, rfl⟩
              obtain ⟨g9, w9, z9, s9, h9, q9⟩ := HL.out.newA ty_pair #[.int .u8 0, .int .u8 0] #[.int .u8 0, .int .u8 0] rfl rfl (by simp [Value.oneCell'])
              have H9 := Lib.hid h9
              have HQ9 := Lib.hid (HQr.out.fresh (below_of_grown q9) (Nat.le_of_eq z9) (h9.get 2 rfl).lt)
              have HR9 := Lib.hid (HR.out.fresh (below_of_grown q9) (Nat.le_of_eq z9) (h9.get 2 rfl).lt)
              have HC9 : Hid (w9.cell? ⟨gq, oq, none⟩ = some (.int .u8 (k0 : Int))) := by
                show _ = _
                rw [hk0, World.cell?_of_block (w := wr) ((below_of_grown q9).block gq (World.block_lt_of_cell? wr _ hcell))]
                exact hcell
              go_upto_region 14 with fail
              have HK0 := Lib.hid hk0
              have HC1V := Lib.hid hc1v
              have HK64 := Lib.hid hk64
              have hcap2 : (m : Int) ≤ (cp : Int) := by omega
              have hcap3 : (1 : Int) ≤ (cp : Int) := by omega
              have hm1 : (1 : Int) ≤ (m : Int) := by omega
              clear hcm hwl hxo HMM hcap hc1v hk64
              clear s9 z9 h9 q9 hcell hk0 hq0 lS lU HL
              obtain ⟨wd, hwd⟩ : ∃ wd, ({ w9 with drawn := w9.drawn + 1 } : World) = wd := ⟨_, rfl⟩
              have HD : Hid (Loc w.heap.size w wd [(w.heap.size, 25, #[.int .u8 (pl : Int), .int .u64 (fi : Int), .slice a L.length acap]), (g4, 43, rcs (hd f y)), (g9, 41, #[.int .u8 0, .int .u8 0])]) := by show Loc _ _ _ _; rw [← hwd]; exact H9.out.drew
              have HQD : Hid (QRow w.heap.size wd ([w.heap.size, g4] ++ [g9]) (some ⟨gq, oq, none⟩) m cp (win x)) := by show QRow _ _ _ _ _ _ _; rw [← hwd]; exact HQ9.out.to (Below.refl _ w9).drew
              have HRD : Hid (Rcr 43 w.heap.size wd ([w.heap.size, g4] ++ [g9]) la l.length lc l) := by show Rcr _ _ _ _ _ _ _ _; rw [← hwd]; exact HR9.out.to (Below.refl _ w9).drew
              have l3 : (ldT 39 (.pointer (some ⟨gq, oq, none⟩))).run Tryz.prog wd = .ok (.int .u8 (k0 : Int)) wd := run_ldC ty_input (by rw [← hwd]; exact HC9.out)
              clear H9 HQ9 HR9 HC9
              rcases hyy with rfl | rfl
              · have l8 := HD.out.ldO ty_u8 1 rfl 8 (v := .int .u8 0) (by simp [rcs, hd])
                obtain ⟨we, se, he, qe⟩ := HD.out.stO ty_input 2 rfl 0 (.int .u8 (k0 : Int)) (cs' := #[.int .u8 (k0 : Int), .int .u8 0]) rfl (L' := [(w.heap.size, 25, #[.int .u8 (pl : Int), .int .u64 (fi : Int), .slice a L.length acap]), (g4, 43, rcs (hd f 0)), (g9, 41, #[.int .u8 (k0 : Int), .int .u8 0])]) rfl (Nat.le_of_ble_eq_true rfl) rfl rfl
                have HE := Lib.hid he
                have HQE := Lib.hid (HQD.out.turn (by simp) qe)
                have HRE := Lib.hid (HRD.out.turn (by simp) qe)
                clear he qe
                refine wp_region_still_tail 6 (by kernel_rfl) (by kernel_rfl) ?_
                simp only [List.take_succ_cons, List.take_zero, List.drop_succ_cons, List.drop_zero]
                rw [hwd]
                clear hwd
                repeat still_step
                refine wpStill_nil ?_
                go_upto_region 15 with fail
                clear l8 l3 se HD HQD HRD
                obtain ⟨wz, hwz⟩ : ∃ wz, ({ we with drawn := we.drawn + 1 } : World) = wz := ⟨_, rfl⟩
                have HZ : Hid (Loc w.heap.size w wz [(w.heap.size, 25, #[.int .u8 (pl : Int), .int .u64 (fi : Int), .slice a L.length acap]), (g4, 43, rcs (hd f 0)), (g9, 41, #[.int .u8 (k0 : Int), .int .u8 0])]) := by show Loc _ _ _ _; rw [← hwz]; exact HE.out.drew
                have HQZ : Hid (QRow w.heap.size wz ([w.heap.size, g4] ++ [g9]) (some ⟨gq, oq, none⟩) m cp (win x)) := by show QRow _ _ _ _ _ _ _; rw [← hwz]; exact HQE.out.to (Below.refl _ we).drew
                have HRZ : Hid (Rcr 43 w.heap.size wz ([w.heap.size, g4] ++ [g9]) la l.length lc l) := by show Rcr _ _ _ _ _ _ _ _; rw [← hwz]; exact HRE.out.to (Below.refl _ we).drew
                have l8 := HZ.out.ldO ty_u8 1 rfl 8 (v := .int .u8 0) (by simp [rcs, hd])
                have lS := HZ.out.ldO ty_u16s 0 rfl 2 (v := .slice (some ⟨b, o, none⟩) L.length acap) (by rw [EA.out]; rfl)
                have lU := run_ldC ty_u16 (HCA.out _ HZ.out.be)
                obtain ⟨k1, hk1, hk1v⟩ : ∃ k1 : Nat, ((u : Int) / 128).tmod 64 = (k1 : Int) ∧ k1 < 64 := ⟨u / 128 % 64, by rw [Int.tmod_eq_emod_of_nonneg (by omega)]; omega, by omega⟩
                have hw1 : IntKind.u8.wrap 1 = 1 := by decide
                have hw0 : IntKind.u8.wrap 0 = 0 := by decide
                have hk2 : ((u : Int) / 2 ^ 7).tmod 64 = (k1 : Int) := hk1
                obtain ⟨wy, sy, hy2, qy⟩ := HZ.out.stO ty_input 2 rfl 1 (.int .u8 (k1 : Int)) (cs' := #[.int .u8 (k0 : Int), .int .u8 (k1 : Int)]) rfl (L' := [(w.heap.size, 25, #[.int .u8 (pl : Int), .int .u64 (fi : Int), .slice a L.length acap]), (g4, 43, rcs (hd f 0)), (g9, 41, #[.int .u8 (k0 : Int), .int .u8 (k1 : Int)])]) rfl (Nat.le_of_ble_eq_true rfl) rfl rfl
                have HY := Lib.hid hy2
                have HQY := Lib.hid (HQZ.out.turn (by simp) qy)
                have HRY := Lib.hid (HRZ.out.turn (by simp) qy)
                clear hy2 qy HE HQE HRE
                refine wp_region_still_tail 12 (by kernel_rfl) (by kernel_rfl) ?_
                simp only [List.take_succ_cons, List.take_zero, List.drop_succ_cons, List.drop_zero]
                rw [hwz]
                clear hwz
                repeat still_step
                refine wpStill_nil ?_
                go_upto_region 16 with fail
                go_simp
                go_upto_region 16 with fail
                clear l8 lS lU sy HZ HQZ HRZ hk1 hk2 hw1 hw0
                have l9 := HY.out.ldA ty_pair 2 rfl 0 (vs := #[.int .u8 (k0 : Int), .int .u8 (k1 : Int)]) rfl (Nat.le_of_ble_eq_true rfl)
                have hbs : ∀ W : World, (bsM 31 #[(0, .agg #[.int .i64 2, .int .u64 (x.c : Int), .int .u8 0, .int .u8 (k0 : Int), .int .u8 (k1 : Int), .int .u64 0, .int .u64 0, .int .u64 0, .int .u8 0])]).run Tryz.prog W = .ok (.slice (some ⟨W.heap.size, 0, none⟩) 1 1) (W.alloc (.cells (rcs (rS x.c k0 k1)) 43)) := fun W => bs_rec (rS x.c k0 k1) W
                have hxc6 : x.c < 18446744073709551616 := by have := HM.out.co; have := HM.out.of; omega
                have HMS := Lib.hid (made_sure HM.out hm0 (r := rS x.c k0 k1) (rS_ok hxc6 (by first | exact hk1v | (rw [HK0.out]; exact HK64.out)) (by first | exact hk1v | (rw [HK0.out]; exact HK64.out))) rfl rfl (by show k0 = _; exact HK0.out))
                clear hxc6
                go_wp2_with (at_builtin; refine wpList_append_recG Tryz.underlying31 info_rec rfl _ _ rfl (by simp [Act.eval]) (rS x.c k0 k1) (by simp [Act.eval]) HRY.out HY.out (Nat.le_refl _) HY.out.size (by simp) (by omega) ?_; intro r7 cap7 w7 hR7 hL7 hg7; have HR7 := Lib.hid hR7; have HL7 := Lib.hid hL7; have HG7 := Lib.hid hg7; clear hR7 hL7 hg7)
                · have h1 : cp = 1 := by assumption
                  have HQ7 := Lib.hid ((HQY.out.to (below_alloc wy (.cells (rcs (rS x.c k0 k1)) 43))).keep HG7.out (fun g hg => (HRY.out.to (below_alloc wy (.cells (rcs (rS x.c k0 k1)) 43))).unlike (HQY.out.to (below_alloc wy (.cells (rcs (rS x.c k0 k1)) 43))) (by decide) hg))
                  have hq7 := HQ7.out
                  rw [HMS.out.2] at hq7
                  obtain ⟨gq', oq', he', htail⟩ := hq7.tail
                  cases he'
                  have hl9 : l.length + 1 = (l ++ [rS x.c k0 k1]).length := by simp
                  have HR8 := HR7.out.less (bs' := [w.heap.size, g4]) (fun b hb => by simp only [List.mem_append] at hb ⊢; exact .inl hb)
                  rw [hl9] at HR8
                  have h0 : cp - 1 = 0 := by omega
                  have hq8 := (htail (some ⟨gq, oq, none⟩) (.inl ⟨rfl, h1⟩)).less (bs' := [w.heap.size, g4]) (fun b hb => by simp only [List.mem_append] at hb ⊢; exact .inl hb)
                  rw [h0] at hq8
                  exact ⟨⟨.slice (some ⟨r7, 0, none⟩) (l.length + 1) cap7, .int .u64 (c1 : Int), .slice (some ⟨gq, oq, none⟩) (m - 1) 0, ⟨l ++ [rS x.c k0 k1], ⟨x.b, x.h, x.l ++ [rS x.c k0 k1], x.c + 1, x.o⟩, m - 1, 0, cap7, (some ⟨gq, oq, none⟩), some ⟨r7, 0, none⟩, by rw [hl9], by rw [HC1V.out], rfl, HMS.out.1, HR8, hq8, HL7.out.drop 2 rfl⟩, rfl, rfl, rfl⟩, by omega⟩
                · have h1 : cp ≠ 1 := by assumption
                  have HQ7 := Lib.hid ((HQY.out.to (below_alloc wy (.cells (rcs (rS x.c k0 k1)) 43))).keep HG7.out (fun g hg => (HRY.out.to (below_alloc wy (.cells (rcs (rS x.c k0 k1)) 43))).unlike (HQY.out.to (below_alloc wy (.cells (rcs (rS x.c k0 k1)) 43))) (by decide) hg))
                  have hq7 := HQ7.out
                  rw [HMS.out.2] at hq7
                  obtain ⟨gq', oq', he', htail⟩ := hq7.tail
                  cases he'
                  have hl9 : l.length + 1 = (l ++ [rS x.c k0 k1]).length := by simp
                  have HR8 := HR7.out.less (bs' := [w.heap.size, g4]) (fun b hb => by simp only [List.mem_append] at hb ⊢; exact .inl hb)
                  rw [hl9] at HR8
                  have hq8 := (htail (some ⟨gq, oq + 1, none⟩) (.inr ⟨rfl, h1⟩)).less (bs' := [w.heap.size, g4]) (fun b hb => by simp only [List.mem_append] at hb ⊢; exact .inl hb)
                  exact ⟨⟨.slice (some ⟨r7, 0, none⟩) (l.length + 1) cap7, .int .u64 (c1 : Int), .slice (some ⟨gq, oq + 1, none⟩) (m - 1) (cp - 1), ⟨l ++ [rS x.c k0 k1], ⟨x.b, x.h, x.l ++ [rS x.c k0 k1], x.c + 1, x.o⟩, m - 1, (cp - 1), cap7, (some ⟨gq, oq + 1, none⟩), some ⟨r7, 0, none⟩, by rw [hl9], by rw [HC1V.out], rfl, HMS.out.1, HR8, hq8, HL7.out.drop 2 rfl⟩, rfl, rfl, rfl⟩, by omega⟩
              · have l8 := HD.out.ldO ty_u8 1 rfl 8 (v := .int .u8 1) (by simp [rcs, hd])
                obtain ⟨we, se, he, qe⟩ := HD.out.stO ty_input 2 rfl 1 (.int .u8 (k0 : Int)) (cs' := #[.int .u8 0, .int .u8 (k0 : Int)]) rfl (L' := [(w.heap.size, 25, #[.int .u8 (pl : Int), .int .u64 (fi : Int), .slice a L.length acap]), (g4, 43, rcs (hd f 1)), (g9, 41, #[.int .u8 0, .int .u8 (k0 : Int)])]) rfl (Nat.le_of_ble_eq_true rfl) rfl rfl
                have HE := Lib.hid he
                have HQE := Lib.hid (HQD.out.turn (by simp) qe)
                have HRE := Lib.hid (HRD.out.turn (by simp) qe)
                clear he qe
                refine wp_region_still_tail 6 (by kernel_rfl) (by kernel_rfl) ?_
                simp only [List.take_succ_cons, List.take_zero, List.drop_succ_cons, List.drop_zero]
                rw [hwd]
                clear hwd
                repeat still_step
                refine wpStill_nil ?_
                go_upto_region 15 with fail
                clear l8 l3 se HD HQD HRD
                obtain ⟨wz, hwz⟩ : ∃ wz, ({ we with drawn := we.drawn + 1 } : World) = wz := ⟨_, rfl⟩
                have HZ : Hid (Loc w.heap.size w wz [(w.heap.size, 25, #[.int .u8 (pl : Int), .int .u64 (fi : Int), .slice a L.length acap]), (g4, 43, rcs (hd f 1)), (g9, 41, #[.int .u8 0, .int .u8 (k0 : Int)])]) := by show Loc _ _ _ _; rw [← hwz]; exact HE.out.drew
                have HQZ : Hid (QRow w.heap.size wz ([w.heap.size, g4] ++ [g9]) (some ⟨gq, oq, none⟩) m cp (win x)) := by show QRow _ _ _ _ _ _ _; rw [← hwz]; exact HQE.out.to (Below.refl _ we).drew
                have HRZ : Hid (Rcr 43 w.heap.size wz ([w.heap.size, g4] ++ [g9]) la l.length lc l) := by show Rcr _ _ _ _ _ _ _ _; rw [← hwz]; exact HRE.out.to (Below.refl _ we).drew
                have l8 := HZ.out.ldO ty_u8 1 rfl 8 (v := .int .u8 1) (by simp [rcs, hd])
                have lS := HZ.out.ldO ty_u16s 0 rfl 2 (v := .slice (some ⟨b, o, none⟩) L.length acap) (by rw [EA.out]; rfl)
                have lU := run_ldC ty_u16 (HCA.out _ HZ.out.be)
                obtain ⟨k1, hk1, hk1v⟩ : ∃ k1 : Nat, ((u : Int) / 128).tmod 64 = (k1 : Int) ∧ k1 < 64 := ⟨u / 128 % 64, by rw [Int.tmod_eq_emod_of_nonneg (by omega)]; omega, by omega⟩
                have hw1 : IntKind.u8.wrap 1 = 1 := by decide
                have hw0 : IntKind.u8.wrap 0 = 0 := by decide
                have hk2 : ((u : Int) / 2 ^ 7).tmod 64 = (k1 : Int) := hk1
                obtain ⟨wy, sy, hy2, qy⟩ := HZ.out.stO ty_input 2 rfl 0 (.int .u8 (k1 : Int)) (cs' := #[.int .u8 (k1 : Int), .int .u8 (k0 : Int)]) rfl (L' := [(w.heap.size, 25, #[.int .u8 (pl : Int), .int .u64 (fi : Int), .slice a L.length acap]), (g4, 43, rcs (hd f 1)), (g9, 41, #[.int .u8 (k1 : Int), .int .u8 (k0 : Int)])]) rfl (Nat.le_of_ble_eq_true rfl) rfl rfl
                have HY := Lib.hid hy2
                have HQY := Lib.hid (HQZ.out.turn (by simp) qy)
                have HRY := Lib.hid (HRZ.out.turn (by simp) qy)
                clear hy2 qy HE HQE HRE
                refine wp_region_still_tail 12 (by kernel_rfl) (by kernel_rfl) ?_
                simp only [List.take_succ_cons, List.take_zero, List.drop_succ_cons, List.drop_zero]
                rw [hwz]
                clear hwz
                repeat still_step
                refine wpStill_nil ?_
                go_upto_region 16 with fail
                go_simp
                go_upto_region 16 with fail
                clear l8 lS lU sy HZ HQZ HRZ hk1 hk2 hw1 hw0
                have l9 := HY.out.ldA ty_pair 2 rfl 0 (vs := #[.int .u8 (k1 : Int), .int .u8 (k0 : Int)]) rfl (Nat.le_of_ble_eq_true rfl)
                have hbs : ∀ W : World, (bsM 31 #[(0, .agg #[.int .i64 2, .int .u64 (x.c : Int), .int .u8 0, .int .u8 (k1 : Int), .int .u8 (k0 : Int), .int .u64 0, .int .u64 0, .int .u64 0, .int .u8 0])]).run Tryz.prog W = .ok (.slice (some ⟨W.heap.size, 0, none⟩) 1 1) (W.alloc (.cells (rcs (rS x.c k1 k0)) 43)) := fun W => bs_rec (rS x.c k1 k0) W
                have hxc6 : x.c < 18446744073709551616 := by have := HM.out.co; have := HM.out.of; omega
                have HMS := Lib.hid (made_sure HM.out hm0 (r := rS x.c k1 k0) (rS_ok hxc6 (by first | exact hk1v | (rw [HK0.out]; exact HK64.out)) (by first | exact hk1v | (rw [HK0.out]; exact HK64.out))) rfl rfl (by show k0 = _; exact HK0.out))
                clear hxc6
                go_wp2_with (at_builtin; refine wpList_append_recG Tryz.underlying31 info_rec rfl _ _ rfl (by simp [Act.eval]) (rS x.c k1 k0) (by simp [Act.eval]) HRY.out HY.out (Nat.le_refl _) HY.out.size (by simp) (by omega) ?_; intro r7 cap7 w7 hR7 hL7 hg7; have HR7 := Lib.hid hR7; have HL7 := Lib.hid hL7; have HG7 := Lib.hid hg7; clear hR7 hL7 hg7)
                · have h1 : cp = 1 := by assumption
                  have HQ7 := Lib.hid ((HQY.out.to (below_alloc wy (.cells (rcs (rS x.c k1 k0)) 43))).keep HG7.out (fun g hg => (HRY.out.to (below_alloc wy (.cells (rcs (rS x.c k1 k0)) 43))).unlike (HQY.out.to (below_alloc wy (.cells (rcs (rS x.c k1 k0)) 43))) (by decide) hg))
                  have hq7 := HQ7.out
                  rw [HMS.out.2] at hq7
                  obtain ⟨gq', oq', he', htail⟩ := hq7.tail
                  cases he'
                  have hl9 : l.length + 1 = (l ++ [rS x.c k1 k0]).length := by simp
                  have HR8 := HR7.out.less (bs' := [w.heap.size, g4]) (fun b hb => by simp only [List.mem_append] at hb ⊢; exact .inl hb)
                  rw [hl9] at HR8
                  have h0 : cp - 1 = 0 := by omega
                  have hq8 := (htail (some ⟨gq, oq, none⟩) (.inl ⟨rfl, h1⟩)).less (bs' := [w.heap.size, g4]) (fun b hb => by simp only [List.mem_append] at hb ⊢; exact .inl hb)
                  rw [h0] at hq8
                  exact ⟨⟨.slice (some ⟨r7, 0, none⟩) (l.length + 1) cap7, .int .u64 (c1 : Int), .slice (some ⟨gq, oq, none⟩) (m - 1) 0, ⟨l ++ [rS x.c k1 k0], ⟨x.b, x.h, x.l ++ [rS x.c k1 k0], x.c + 1, x.o⟩, m - 1, 0, cap7, (some ⟨gq, oq, none⟩), some ⟨r7, 0, none⟩, by rw [hl9], by rw [HC1V.out], rfl, HMS.out.1, HR8, hq8, HL7.out.drop 2 rfl⟩, rfl, rfl, rfl⟩, by omega⟩
                · have h1 : cp ≠ 1 := by assumption
                  have HQ7 := Lib.hid ((HQY.out.to (below_alloc wy (.cells (rcs (rS x.c k1 k0)) 43))).keep HG7.out (fun g hg => (HRY.out.to (below_alloc wy (.cells (rcs (rS x.c k1 k0)) 43))).unlike (HQY.out.to (below_alloc wy (.cells (rcs (rS x.c k1 k0)) 43))) (by decide) hg))
                  have hq7 := HQ7.out
                  rw [HMS.out.2] at hq7
                  obtain ⟨gq', oq', he', htail⟩ := hq7.tail
                  cases he'
                  have hl9 : l.length + 1 = (l ++ [rS x.c k1 k0]).length := by simp
                  have HR8 := HR7.out.less (bs' := [w.heap.size, g4]) (fun b hb => by simp only [List.mem_append] at hb ⊢; exact .inl hb)
                  rw [hl9] at HR8
                  have hq8 := (htail (some ⟨gq, oq + 1, none⟩) (.inr ⟨rfl, h1⟩)).less (bs' := [w.heap.size, g4]) (fun b hb => by simp only [List.mem_append] at hb ⊢; exact .inl hb)
                  exact ⟨⟨.slice (some ⟨r7, 0, none⟩) (l.length + 1) cap7, .int .u64 (c1 : Int), .slice (some ⟨gq, oq + 1, none⟩) (m - 1) (cp - 1), ⟨l ++ [rS x.c k1 k0], ⟨x.b, x.h, x.l ++ [rS x.c k1 k0], x.c + 1, x.o⟩, m - 1, (cp - 1), cap7, (some ⟨gq, oq + 1, none⟩), some ⟨r7, 0, none⟩, by rw [hl9], by rw [HC1V.out], rfl, HMS.out.1, HR8, hq8, HL7.out.drop 2 rfl⟩, rfl, rfl, rfl⟩, by omega⟩
            · have i0 : ¬ (0 : Int) < (m : Int) := by omega
              go_wp2
              go_roundw
              case rel => exact ⟨j + 1, HLT.out, by go_num, l, x, m, cp, lc, ao2, la, rfl, rfl, rfl, HM, HR, HQr, HL⟩
              case measure => have := HLT.out; simp [intOf]; omega
    · obtain rfl : j = L.length := by omega
      have HF : Hid (MadePost w L.length (.returned (.slice la l.length lc)) wr) := by
        have h1 := HM.out.cnt
        have h2 := HM.out.of
        have h3 := HM.out.co
        exact ⟨l, la, lc, rfl, HR.out.told.1, HM.out.goes, HM.out.one, by omega, HL.out.be⟩
      have lS := HL.out.ldO ty_u16s 0 rfl 2 (v := .slice a L.length acap) rfl
      go_wp2
      rw [HQ.out]
      exact HF.out
end Go.Proofs.YthnelnfefllhpaaGreatDoor
