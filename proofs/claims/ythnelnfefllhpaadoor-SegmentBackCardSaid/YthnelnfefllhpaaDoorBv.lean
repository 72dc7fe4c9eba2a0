/- The statement SegmentBack (the stage's theorem): the Go function returns true. Conditions: the table of four steps lies in its variable. -/
import Derived.Test.YthnelnfefllhpaaDoorBu
namespace Go.Proofs.YthnelnfefllhpaaDoor
open Go.RowKit
set_option linter.unusedVariables false
set_option linter.unusedSimpArgs false
set_option maxRecDepth 20000

attribute [local go_sem ↓] ld_rec st_rec ld_play ld_u16s ld_u64 ld_u8 bs_m
attribute [local go_sem] bs_rec
set_option maxHeartbeats 8000000 in
theorem law_back (pl fi : Nat) (L : List Nat) (a : Option Addr) (acap cut : Nat) (w : World) (hp : pl < 256) (hfi : fi < 18446744073709551616) (hU : U16s w a L) (hcu : cut < 65536) (ht : Tab w) :
    Calls Tryd.prog 4 #[.agg #[.int .u8 (pl : Int), .int .u64 (fi : Int), .slice a L.length acap], .int .u16 (cut : Int)] w fun E w' => E = .returned (.bool true) ∧ Below w.heap.size w w' := by
  have HU := Lib.hid hU
  have HT := Lib.hid ht
  have H0 := Lib.hid (Loc.one w 42 #[.int .u8 (pl : Int), .int .u64 (fi : Int), .slice a L.length acap])
  have HPF := Lib.hid (And.intro hp hfi)
  have HA0 := Lib.hid (below_alloc w (.cells #[.int .u8 (pl : Int), .int .u64 (fi : Int), .slice a L.length acap] 42))
  have HW : Hid (∀ w1, Below w.heap.size w w1 → Calls Tryd.prog 6 #[] w1 fun E w' => E = .returned (.bool true) ∧ Below w1.heap.size w1 w') := fun w1 hb => works_c w1 (tab_b HT.out HT.out.1 hb)
  clear hU ht hp hfi
  by_cases h1 : 100 < L.length
  · have i1 : (100 : Int) < (L.length : Int) := by omega
    clear h1
    go_enter Tryd.func4, Tryd.ntmps4
    go_upto_region 1 with fail
    generalize w.alloc (.cells #[.int .u8 (pl : Int), .int .u64 (fi : Int), .slice a L.length acap] 42) = wa at *
    have lS := H0.out.ldO ty_u16s 0 rfl 2 (v := .slice a L.length acap) rfl
    go_wp2_with fail
    refine (HW.out _ HA0.out).mono ?_
    rintro E w1 ⟨rfl, hb⟩
    have HB := Lib.hid (HA0.out.trans (hb.mono HA0.out.size))
    clear hb
    go_wp2
    go_ret
    exact ⟨rfl, HB.out⟩
  · have i1 : ¬ (100 : Int) < (L.length : Int) := by omega
    have HL1 := Lib.hid h1
    clear h1
    go_enter Tryd.func4, Tryd.ntmps4
    go_upto_region 1 with fail
    generalize w.alloc (.cells #[.int .u8 (pl : Int), .int .u64 (fi : Int), .slice a L.length acap] 42) = wa at *
    have lS := H0.out.ldO ty_u16s 0 rfl 2 (v := .slice a L.length acap) rfl
    have lP := H0.out.ldA ty_play 0 rfl 0 (vs := #[.int .u8 (pl : Int), .int .u64 (fi : Int), .slice a L.length acap]) (by simp) (Nat.le_of_ble_eq_true rfl)
    go_wp2_with fail
    refine (made_c pl fi L a acap _ HPF.out.1 HPF.out.2 (HU.out.new HA0.out) (by have := HL1.out; omega)).mono ?_
    rintro E w1 ⟨l, la, lc, rfl, hat, hgo, h0, hln, hb⟩
    have HB1 := Lib.hid (HA0.out.trans (hb.mono HA0.out.size))
    have AT := Lib.hid hat
    have GO := Lib.hid hgo
    have MY := Lib.hid (mays_of hgo)
    have hl2 : l.length ≤ 201 := by have := HL1.out; omega
    have HT1 := Lib.hid (tab_b HT.out HT.out.1 HB1.out)
    clear hat hgo hb lS lP i1 HL1 H0 HA0 hln HPF
    go_wp2
    go_loopw [6, 7, 8] (fun s v i wr => ∃ k : Nat, k ≤ l.length ∧ i = .int .i64 k ∧ s = .string (str (bys (l.take k))) ∧ NRow w1 w1.heap.size v (rends l k) wr) (fun _ _ i _ => l.length - (intOf i).toNat)
    case atStart => exact ⟨0, by omega, rfl, rfl, none, 0, rfl, World.ownsRow_nil _ _ _ _, Below.refl _ _, Nat.le_refl _⟩
    case round =>
      obtain ⟨k, hk, rfl, rfl, ao, cp, rfl, hown, hbel, hB⟩ := hrel
      have HO := Lib.hid hown
      have HB := Lib.hid hbel
      clear hown hbel
      have htl := rtake_len l hl2 k
      have hsz := str_size (bys (l.take k))
      by_cases hlt : k < l.length
      · obtain ⟨b, o, rfl, hload⟩ := AT.out.one hlt
        have l1 := (hload _ HB.out).1 _ ty_rec
        have HSN := Lib.hid (bys_take hlt)
        have hrm := MY.out _ (List.getElem_mem hlt)
        have htl2 := rtake_len l hl2 (k + 1)
        have hsn := str_size (bys (l.take (k + 1)))
        have HES := Lib.hid (rends_snoc l k)
        have HEL := Lib.hid (rends_len l k)
        rw [HSN.out] at htl2 hsn
        clear hload
        have HLT := Lib.hid hlt
        have hap := str_append (bys (l.take k)) (byR (l[k]'hlt))
        have hsr := str_size (byR (l[k]'hlt))
        rw [List.length_append] at htl2
        have MR := Lib.hid (show Mays [l[k]'hlt] from fun r hr => by rw [List.mem_singleton] at hr; subst hr; exact hrm)
        generalize l[k]'hlt = r at *
        generalize bys (l.take k) = z at *
        clear hrm
        rw [← HSN.out] at hap
        have HRa := Lib.hid (rcsAt_block (l := [r]) (Cells.made wr 28 (rcs r)) (by simp [Rall]))
        have HBa := Lib.hid (HB.out.alloc hB (.cells (rcs r) 28))
        go_wp2_with fail
        refine (lput_c [r] _ 1 _ HRa.out MR.out (by simp) (tab_b HT1.out HT1.out.1 HBa.out)).mono ?_
        rintro E w2 ⟨rfl, hg1⟩
        rw [bys_one]
        have hbw := (below_alloc wr (.cells (rcs r) 28)).trans (hg1.mono (below_alloc wr (.cells (rcs r) 28)).size)
        have hown := World.ownsRow.kept (row := none) HO.out (grown_of_below hbw) (Classical.em _)
        have HBb := Lib.hid (HB.out.trans (hbw.mono hB))
        have hs1 := Nat.le_trans hB hbw.size
        clear hbw hg1 HRa HBa
        rw [← HSN.out] at hsn
        generalize rends l k = zs at *
        obtain ⟨i0, hi0, hz0, hz1, hz2⟩ := info_parts info_int16
        have HI0 := Lib.hid hi0
        have HZ0 := Lib.hid hz0
        have HZ1 := Lib.hid hz1
        have HZ2 := Lib.hid hz2
        clear hi0 hz0 hz1 hz2
        have hb1 : zs.length + 1 ≤ maxLen := by have := HEL.out; simp only [maxLen]; omega
        have hb2 : (zs.length + 1) * 8 ≤ 140737488355328 := by have := HEL.out; omega
        go_wp2_with (at_builtin; refine wpList_append_lies _ rfl (.tmp 38) (.tmp 41) 45 rfl w1.heap.size 3 i0 (.int .i64 0) 1 8 Tryd.underlying45 HI0.out HZ0.out HZ1.out HZ2.out rfl (by decide) _ _ _ (by simp [Act.eval]) (World.ownsRow.alloc hown _) ⟨w2.heap.size, 0, none⟩ 1 1 [_] (by simp [Act.eval]) rfl (cell_one_new _ _ _) (by simp [Value.oneCell']) (by decide) hb1 hb2 (by simp; omega) _ rfl ?_; intro g' cap' w3 hown1 hgr hat2 hlt1)
        have HG := Lib.hid hgr
        clear hgr hat2
        go_wp2
        go_roundw
        case rel =>
          refine ⟨k + 1, by omega, by go_num, by rw [HSN.out], ?_⟩
          rw [HES.out]
          refine nrow_push HBb.out (by simp; omega) ((Below.refl _ w2).alloc hs1 _) hown HG.out ?_
          exact hown1
        case measure => simp [intOf]; omega
      · have hx : k = l.length := by omega
        subst hx
        rw [List.take_length] at hsz htl
        rw [List.take_length]
        have HK := Lib.hid (show cut % ((bys l).length + 1) ≤ (bys l).length from by have := Nat.mod_lt cut (show 0 < (bys l).length + 1 by omega); omega)
        have hmod : (cut : Int) % ((bys l).length + 1 : Int) = ((cut % ((bys l).length + 1) : Nat) : Int) := by rw [Int.natCast_emod]; rfl
        have hcut := str_cut (bys l) (cut % ((bys l).length + 1))
        have hkl := HK.out
        generalize cut % ((bys l).length + 1) = q at *
        have HTL : Hid (((bys l).take q).length ≤ 1048576) := by show _ ≤ _; rw [List.length_take]; omega
        have HBz := Lib.hid (HB1.out.trans (HB.out.mono HB1.out.size))
        have HS := Lib.hid hB
        rw [rends_len]
        have HO1 : Hid (NumAt wr w1.heap.size (.slice ao l.length cp) (rends l l.length)) := by show NumAt _ _ _ _; have := HO.out; rwa [rends_len] at this
        clear HO
        go_wp2
        go_loop [10, 11] (fun n t => RCut l q n t) (fun n _ => l.length - (intOf n).toNat)
        case atStart => exact ⟨0, by omega, rfl, rfl, by simp [bys]⟩
        case round =>
          obtain ⟨i, hi, rfl, rfl, htq⟩ := hrel
          have ht1 := rtake_len l hl2 i
          rcases Nat.lt_or_ge i l.length with h1 | h1
          · obtain ⟨g, cap3, he, hcell⟩ := numrow_at HO1.out i _ (rends_get l _ i h1)
            injection he with e1 e2 e3
            subst e1
            clear e2 e3
            rcases Nat.lt_or_ge q (bys (l.take (i + 1))).length with h2 | h2
            · skip
              have hend : i < l.length → q < (bys (l.take (i + 1))).length := fun _ => h2
              obtain ⟨x, e, hs, hxl, hxg, hv⟩ := begin_all GO.out h0 hi htq hend HK.out
              have HXG := Lib.hid hxg
              have HXL := Lib.hid hxl
              have HI := Lib.hid hi
              have HV := Lib.hid hv
              have HC0 := scan_c ((bys l).take q) 1 wr HTL.out (by decide) (tab_b HT.out HT.out.1 HBz.out)
              rw [hs] at HC0
              have HC := Lib.hid HC0
              clear hs hxg hxl hv HC0 hend htq
              generalize (bys (l.take i)).length = tl at *
              go_wp2_with fail
              refine HC.out.mono ?_
              rintro E w4 ⟨ao4, cap4, rfl, hat4, _, _, _, _, hb4⟩
              dsimp only at hat4 ⊢
              have AT4 := Lib.hid hat4
              have HB4 := Lib.hid hb4
              have HS4 := Lib.hid hb4.size
              obtain ⟨g5, w5, z5, s5, h5, q5⟩ := (Loc.nil (Nat.le_refl w4.heap.size)).newA ty_rec #[.int .i64 0, .int .u64 0, .int .u8 0, .int .u8 0, .int .u8 0, .int .u64 0, .int .u64 0, .int .u64 0, .int .u8 0] (rcs x.h) rfl rfl (List.all_eq_true.2 (rcs_one x.h))
              have H5 := Lib.hid (h5.get 0 rfl)
              have HB5 := Lib.hid (below_of_grown q5)
              clear hat4 hb4 h5 q5
              go_upto_region 17 with fail
              clear s5 z5
              obtain ⟨M, hM⟩ : ∃ M, x.l.length = M := ⟨_, rfl⟩
              have HM := Lib.hid hM
              have HMI := Lib.hid (show M = i - 1 by rw [← hM]; exact HXL.out)
              have hm201 : M ≤ 201 := by have := HMI.out; have := HI.out; omega
              have hii := HI.out
              have HBw := Lib.hid (HB.out.trans ((HB4.out.trans (HB5.out.mono HB4.out.size)).mono HS.out))
              have hmx : max (0 : Int) ((i : Int) - 1) = (M : Int) := by have := HMI.out; omega
              rw [hM]
              clear hM
              have hmb : ((M : Int) != (M : Int)) = false := by simp
              have htt : ((tl : Int) != (tl : Int)) = false := by simp
              rcases HV.out with hv | hv | hv | hv
              · obtain ⟨hi0, hxh, rfl, htq⟩ := hv
                subst hi0
                obtain rfl : M = 0 := by have := HMI.out; omega
                clear hmx hmb
                go_quiet (fail)
                clear htt htq
                have HBd := Lib.hid (below_drewN (Below.refl w5.heap.size w5) nq)
                have HBe := Lib.hid (below_drewN HBw.out nq)
                have HBf := Lib.hid (HB5.out.trans (HBd.out.mono HB5.out.size))
                generalize w5.drewN nq = w6 at *
                go_wp2
                go_loopw [16] (fun jv wz => ∃ j : Nat, j ≤ 0 ∧ jv = .int .i64 (j : Int) ∧ Hid (Below w6.heap.size w6 wz)) (fun jv _ => 0 - (intOf jv).toNat)
                case atStart => exact ⟨0, Nat.zero_le _, rfl, Below.refl _ _⟩
                case round =>
                  obtain ⟨j, hj, rfl, HJ⟩ := hrel
                  have HBg := Lib.hid (HBf.out.trans (HJ.out.mono HBf.out.size))
                  have HBh := Lib.hid (HBe.out.trans (HJ.out.mono HBe.out.size))
                  by_cases hlt : j < 0
                  · exact absurd hlt (by omega)
                  · obtain rfl : j = 0 := by omega
                    have HBi := Lib.hid (HB1.out.trans (HBh.out.mono HB1.out.size))
                    go_wp2_with fail
                    refine (HW.out _ HBi.out).mono ?_
                    rintro E w9 ⟨rfl, hb9⟩
                    have HB9 := Lib.hid (HBi.out.trans (hb9.mono HBi.out.size))
                    clear hb9
                    go_wp2
                    go_ret
                    exact ⟨rfl, HB9.out⟩
              · obtain ⟨hi0, hxh, rfl, htq⟩ := hv
                subst hi0
                obtain rfl : M = 0 := by have := HMI.out; omega
                clear hmx hmb
                go_quiet (fail)
                clear htt htq
                have HBd := Lib.hid (below_drewN (Below.refl w5.heap.size w5) nq)
                have HBe := Lib.hid (below_drewN HBw.out nq)
                have HBf := Lib.hid (HB5.out.trans (HBd.out.mono HB5.out.size))
                generalize w5.drewN nq = w6 at *
                go_wp2
                go_loopw [16] (fun jv wz => ∃ j : Nat, j ≤ 0 ∧ jv = .int .i64 (j : Int) ∧ Hid (Below w6.heap.size w6 wz)) (fun jv _ => 0 - (intOf jv).toNat)
                case atStart => exact ⟨0, Nat.zero_le _, rfl, Below.refl _ _⟩
                case round =>
                  obtain ⟨j, hj, rfl, HJ⟩ := hrel
                  have HBg := Lib.hid (HBf.out.trans (HJ.out.mono HBf.out.size))
                  have HBh := Lib.hid (HBe.out.trans (HJ.out.mono HBe.out.size))
                  by_cases hlt : j < 0
                  · exact absurd hlt (by omega)
                  · obtain rfl : j = 0 := by omega
                    have HBi := Lib.hid (HB1.out.trans (HBh.out.mono HB1.out.size))
                    go_wp2_with fail
                    refine (HW.out _ HBi.out).mono ?_
                    rintro E w9 ⟨rfl, hb9⟩
                    have HB9 := Lib.hid (HBi.out.trans (hb9.mono HBi.out.size))
                    clear hb9
                    go_wp2
                    go_ret
                    exact ⟨rfl, HB9.out⟩
              · obtain ⟨hi0, hxh, rfl, htq⟩ := hv
                have i0 : (0 : Int) < (i : Int) := by omega
                have hwi : IntKind.i64.wrap ((i : Int) - 1) = (M : Int) := by rw [show (i : Int) - 1 = (M : Int) from (by have := HMI.out; omega)]; exact wrapM hm201
                have hmx2 : max (0 : Int) (M : Int) = (M : Int) := by omega
                clear hmx
                obtain ⟨b0, o0, rfl, ld0⟩ := AT.out.one h0
                have hre := re_neq (l[0]'h0) (l[0]'h0)
                rw [reB_self] at hre
                have qa := fun n => (ld0 (w5.drewN n) (below_drewN HBw.out n)).1 _ ty_rec
                have qb := fun n => run_ldA (n := 9) ty_rec (H5.out.below (below_drewN (Below.refl _ _) n) H5.out.lt) 0 (Nat.le_of_ble_eq_true rfl)
                have e0 : (((rcs x.h).toList.drop 0).take 9).toArray = rcs (l[0]'h0) := by rw [hxh]; simp [rcs]
                simp only [e0] at qb
                simp only [Nat.zero_mul, Nat.add_zero] at qa
                clear ld0 hxh e0
                generalize l[0]'h0 = r0 at *
                go_quiet (fail)
                clear qa qb hre hwi hmx2 hmb
                clear htt htq
                have HBd := Lib.hid (below_drewN (Below.refl w5.heap.size w5) nq)
                have HBe := Lib.hid (below_drewN HBw.out nq)
                have HBf := Lib.hid (HB5.out.trans (HBd.out.mono HB5.out.size))
                generalize w5.drewN nq = w6 at *
                go_wp2
                go_loopw [16] (fun jv wz => ∃ j : Nat, j ≤ M ∧ jv = .int .i64 (j : Int) ∧ Hid (Below w6.heap.size w6 wz)) (fun jv _ => M - (intOf jv).toNat)
                case atStart => exact ⟨0, Nat.zero_le _, rfl, Below.refl _ _⟩
                case round =>
                  obtain ⟨j, hj, rfl, HJ⟩ := hrel
                  have HBg := Lib.hid (HBf.out.trans (HJ.out.mono HBf.out.size))
                  have HBh := Lib.hid (HBe.out.trans (HJ.out.mono HBe.out.size))
                  by_cases hlt : j < M
                  · have hj2 : j + 1 < l.length := by have := HMI.out; have := HI.out; omega
                    have hlx : j < x.l.length := by rw [HM.out]; exact hlt
                    obtain ⟨b1, o1, rfl, ld1⟩ := AT4.out.one hlx
                    obtain ⟨b2, o2, ea, ld2⟩ := AT.out.one hj2
                    cases ea
                    rw [HXG.out j hlx hj2] at ld1
                    have hre := re_neq (l[j + 1]'hj2) (l[j + 1]'hj2)
                    rw [reB_self] at hre
                    have q1 := fun n => (ld1 (wr.drewN n) (below_drewN HBg.out n)).1 _ ty_rec
                    have q2 := fun n => (ld2 (wr.drewN n) (below_drewN HBh.out n)).1 _ ty_rec
                    have HLT := Lib.hid hlt
                    generalize l[j + 1]'hj2 = r at *
                    clear ld1 ld2
                    go_wp2
                    go_quiet (fail)
                    go_wp2
                    go_roundw
                    case rel => exact ⟨j + 1, HLT.out, by go_num, below_drewN HJ.out _⟩
                    case measure => have := HLT.out; simp [intOf]; omega
                  · obtain rfl : j = M := by omega
                    have HBi := Lib.hid (HB1.out.trans (HBh.out.mono HB1.out.size))
                    go_wp2_with fail
                    refine (HW.out _ HBi.out).mono ?_
                    rintro E w9 ⟨rfl, hb9⟩
                    have HB9 := Lib.hid (HBi.out.trans (hb9.mono HBi.out.size))
                    clear hb9
                    go_wp2
                    go_ret
                    exact ⟨rfl, HB9.out⟩
              · obtain ⟨hi0, hxh, rfl, htq⟩ := hv
                have i0 : (0 : Int) < (i : Int) := by omega
                have hwi : IntKind.i64.wrap ((i : Int) - 1) = (M : Int) := by rw [show (i : Int) - 1 = (M : Int) from (by have := HMI.out; omega)]; exact wrapM hm201
                have hmx2 : max (0 : Int) (M : Int) = (M : Int) := by omega
                clear hmx
                obtain ⟨b0, o0, rfl, ld0⟩ := AT.out.one h0
                have hre := re_neq (l[0]'h0) (l[0]'h0)
                rw [reB_self] at hre
                have qa := fun n => (ld0 (w5.drewN n) (below_drewN HBw.out n)).1 _ ty_rec
                have qb := fun n => run_ldA (n := 9) ty_rec (H5.out.below (below_drewN (Below.refl _ _) n) H5.out.lt) 0 (Nat.le_of_ble_eq_true rfl)
                have e0 : (((rcs x.h).toList.drop 0).take 9).toArray = rcs (l[0]'h0) := by rw [hxh]; simp [rcs]
                simp only [e0] at qb
                simp only [Nat.zero_mul, Nat.add_zero] at qa
                clear ld0 hxh e0
                generalize l[0]'h0 = r0 at *
                go_quiet (fail)
                clear qa qb hre hwi hmx2 hmb
                clear htt htq
                have HBd := Lib.hid (below_drewN (Below.refl w5.heap.size w5) nq)
                have HBe := Lib.hid (below_drewN HBw.out nq)
                have HBf := Lib.hid (HB5.out.trans (HBd.out.mono HB5.out.size))
                generalize w5.drewN nq = w6 at *
                go_wp2
                go_loopw [16] (fun jv wz => ∃ j : Nat, j ≤ M ∧ jv = .int .i64 (j : Int) ∧ Hid (Below w6.heap.size w6 wz)) (fun jv _ => M - (intOf jv).toNat)
                case atStart => exact ⟨0, Nat.zero_le _, rfl, Below.refl _ _⟩
                case round =>
                  obtain ⟨j, hj, rfl, HJ⟩ := hrel
                  have HBg := Lib.hid (HBf.out.trans (HJ.out.mono HBf.out.size))
                  have HBh := Lib.hid (HBe.out.trans (HJ.out.mono HBe.out.size))
                  by_cases hlt : j < M
                  · have hj2 : j + 1 < l.length := by have := HMI.out; have := HI.out; omega
                    have hlx : j < x.l.length := by rw [HM.out]; exact hlt
                    obtain ⟨b1, o1, rfl, ld1⟩ := AT4.out.one hlx
                    obtain ⟨b2, o2, ea, ld2⟩ := AT.out.one hj2
                    cases ea
                    rw [HXG.out j hlx hj2] at ld1
                    have hre := re_neq (l[j + 1]'hj2) (l[j + 1]'hj2)
                    rw [reB_self] at hre
                    have q1 := fun n => (ld1 (wr.drewN n) (below_drewN HBg.out n)).1 _ ty_rec
                    have q2 := fun n => (ld2 (wr.drewN n) (below_drewN HBh.out n)).1 _ ty_rec
                    have HLT := Lib.hid hlt
                    generalize l[j + 1]'hj2 = r at *
                    clear ld1 ld2
                    go_wp2
                    go_quiet (fail)
                    go_wp2
                    go_roundw
                    case rel => exact ⟨j + 1, HLT.out, by go_num, below_drewN HJ.out _⟩
                    case measure => have := HLT.out; simp [intOf]; omega
                  · obtain rfl : j = M := by omega
                    have HBi := Lib.hid (HB1.out.trans (HBh.out.mono HB1.out.size))
                    go_wp2_with fail
                    refine (HW.out _ HBi.out).mono ?_
                    rintro E w9 ⟨rfl, hb9⟩
                    have HB9 := Lib.hid (HBi.out.trans (hb9.mono HBi.out.size))
                    clear hb9
                    go_wp2
                    go_ret
                    exact ⟨rfl, HB9.out⟩
            · have ht2 := rtake_len l hl2 (i + 1)
              go_wp2
              go_round
              case rel => exact ⟨i + 1, by omega, by go_num, rfl, h2⟩
              case measure => simp [intOf]; omega
          · skip
            have hend : i < l.length → q < (bys (l.take (i + 1))).length := fun h => absurd h (by omega)
            obtain ⟨x, e, hs, hxl, hxg, hv⟩ := begin_all GO.out h0 hi htq hend HK.out
            have HXG := Lib.hid hxg
            have HXL := Lib.hid hxl
            have HI := Lib.hid hi
            have HV := Lib.hid hv
            have HC0 := scan_c ((bys l).take q) 1 wr HTL.out (by decide) (tab_b HT.out HT.out.1 HBz.out)
            rw [hs] at HC0
            have HC := Lib.hid HC0
            clear hs hxg hxl hv HC0 hend htq
            generalize (bys (l.take i)).length = tl at *
            go_wp2_with fail
            refine HC.out.mono ?_
            rintro E w4 ⟨ao4, cap4, rfl, hat4, _, _, _, _, hb4⟩
            dsimp only at hat4 ⊢
            have AT4 := Lib.hid hat4
            have HB4 := Lib.hid hb4
            have HS4 := Lib.hid hb4.size
            obtain ⟨g5, w5, z5, s5, h5, q5⟩ := (Loc.nil (Nat.le_refl w4.heap.size)).newA ty_rec #[.int .i64 0, .int .u64 0, .int .u8 0, .int .u8 0, .int .u8 0, .int .u64 0, .int .u64 0, .int .u64 0, .int .u8 0] (rcs x.h) rfl rfl (List.all_eq_true.2 (rcs_one x.h))
            have H5 := Lib.hid (h5.get 0 rfl)
            have HB5 := Lib.hid (below_of_grown q5)
            clear hat4 hb4 h5 q5
            go_upto_region 17 with fail
            clear s5 z5
            obtain ⟨M, hM⟩ : ∃ M, x.l.length = M := ⟨_, rfl⟩
            have HM := Lib.hid hM
            have HMI := Lib.hid (show M = i - 1 by rw [← hM]; exact HXL.out)
            have hm201 : M ≤ 201 := by have := HMI.out; have := HI.out; omega
            have hii := HI.out
            have HBw := Lib.hid (HB.out.trans ((HB4.out.trans (HB5.out.mono HB4.out.size)).mono HS.out))
            have hmx : max (0 : Int) ((i : Int) - 1) = (M : Int) := by have := HMI.out; omega
            rw [hM]
            clear hM
            have hmb : ((M : Int) != (M : Int)) = false := by simp
            have htt : ((tl : Int) != (tl : Int)) = false := by simp
            rcases HV.out with hv | hv | hv | hv
            · exact absurd h0 (by have := hv.1; omega)
            · exact absurd h0 (by have := hv.1; omega)
            · obtain ⟨hi0, hxh, rfl, htq⟩ := hv
              have i0 : (0 : Int) < (i : Int) := by omega
              have hwi : IntKind.i64.wrap ((i : Int) - 1) = (M : Int) := by rw [show (i : Int) - 1 = (M : Int) from (by have := HMI.out; omega)]; exact wrapM hm201
              have hmx2 : max (0 : Int) (M : Int) = (M : Int) := by omega
              clear hmx
              obtain ⟨b0, o0, rfl, ld0⟩ := AT.out.one h0
              have hre := re_neq (l[0]'h0) (l[0]'h0)
              rw [reB_self] at hre
              have qa := fun n => (ld0 (w5.drewN n) (below_drewN HBw.out n)).1 _ ty_rec
              have qb := fun n => run_ldA (n := 9) ty_rec (H5.out.below (below_drewN (Below.refl _ _) n) H5.out.lt) 0 (Nat.le_of_ble_eq_true rfl)
              have e0 : (((rcs x.h).toList.drop 0).take 9).toArray = rcs (l[0]'h0) := by rw [hxh]; simp [rcs]
              simp only [e0] at qb
              simp only [Nat.zero_mul, Nat.add_zero] at qa
              clear ld0 hxh e0
              generalize l[0]'h0 = r0 at *
              go_quiet (fail)
              clear qa qb hre hwi hmx2 hmb
              clear htt htq
              have HBd := Lib.hid (below_drewN (Below.refl w5.heap.size w5) nq)
              have HBe := Lib.hid (below_drewN HBw.out nq)
              have HBf := Lib.hid (HB5.out.trans (HBd.out.mono HB5.out.size))
              generalize w5.drewN nq = w6 at *
              go_wp2
              go_loopw [16] (fun jv wz => ∃ j : Nat, j ≤ M ∧ jv = .int .i64 (j : Int) ∧ Hid (Below w6.heap.size w6 wz)) (fun jv _ => M - (intOf jv).toNat)
              case atStart => exact ⟨0, Nat.zero_le _, rfl, Below.refl _ _⟩
              case round =>
                obtain ⟨j, hj, rfl, HJ⟩ := hrel
                have HBg := Lib.hid (HBf.out.trans (HJ.out.mono HBf.out.size))
                have HBh := Lib.hid (HBe.out.trans (HJ.out.mono HBe.out.size))
                by_cases hlt : j < M
                · have hj2 : j + 1 < l.length := by have := HMI.out; have := HI.out; omega
                  have hlx : j < x.l.length := by rw [HM.out]; exact hlt
                  obtain ⟨b1, o1, rfl, ld1⟩ := AT4.out.one hlx
                  obtain ⟨b2, o2, ea, ld2⟩ := AT.out.one hj2
                  cases ea
                  rw [HXG.out j hlx hj2] at ld1
                  have hre := re_neq (l[j + 1]'hj2) (l[j + 1]'hj2)
                  rw [reB_self] at hre
                  have q1 := fun n => (ld1 (wr.drewN n) (below_drewN HBg.out n)).1 _ ty_rec
                  have q2 := fun n => (ld2 (wr.drewN n) (below_drewN HBh.out n)).1 _ ty_rec
                  have HLT := Lib.hid hlt
                  generalize l[j + 1]'hj2 = r at *
                  clear ld1 ld2
                  go_wp2
                  go_quiet (fail)
                  go_wp2
                  go_roundw
                  case rel => exact ⟨j + 1, HLT.out, by go_num, below_drewN HJ.out _⟩
                  case measure => have := HLT.out; simp [intOf]; omega
                · obtain rfl : j = M := by omega
                  have HBi := Lib.hid (HB1.out.trans (HBh.out.mono HB1.out.size))
                  go_wp2_with fail
                  refine (HW.out _ HBi.out).mono ?_
                  rintro E w9 ⟨rfl, hb9⟩
                  have HB9 := Lib.hid (HBi.out.trans (hb9.mono HBi.out.size))
                  clear hb9
                  go_wp2
                  go_ret
                  exact ⟨rfl, HB9.out⟩
            · obtain ⟨hi0, hxh, rfl, htq⟩ := hv
              have i0 : (0 : Int) < (i : Int) := by omega
              have hwi : IntKind.i64.wrap ((i : Int) - 1) = (M : Int) := by rw [show (i : Int) - 1 = (M : Int) from (by have := HMI.out; omega)]; exact wrapM hm201
              have hmx2 : max (0 : Int) (M : Int) = (M : Int) := by omega
              clear hmx
              obtain ⟨b0, o0, rfl, ld0⟩ := AT.out.one h0
              have hre := re_neq (l[0]'h0) (l[0]'h0)
              rw [reB_self] at hre
              have qa := fun n => (ld0 (w5.drewN n) (below_drewN HBw.out n)).1 _ ty_rec
              have qb := fun n => run_ldA (n := 9) ty_rec (H5.out.below (below_drewN (Below.refl _ _) n) H5.out.lt) 0 (Nat.le_of_ble_eq_true rfl)
              have e0 : (((rcs x.h).toList.drop 0).take 9).toArray = rcs (l[0]'h0) := by rw [hxh]; simp [rcs]
              simp only [e0] at qb
              simp only [Nat.zero_mul, Nat.add_zero] at qa
              clear ld0 hxh e0
              generalize l[0]'h0 = r0 at *
              go_quiet (fail)
              clear qa qb hre hwi hmx2 hmb
              clear htt htq
              have HBd := Lib.hid (below_drewN (Below.refl w5.heap.size w5) nq)
              have HBe := Lib.hid (below_drewN HBw.out nq)
              have HBf := Lib.hid (HB5.out.trans (HBd.out.mono HB5.out.size))
              generalize w5.drewN nq = w6 at *
              go_wp2
              go_loopw [16] (fun jv wz => ∃ j : Nat, j ≤ M ∧ jv = .int .i64 (j : Int) ∧ Hid (Below w6.heap.size w6 wz)) (fun jv _ => M - (intOf jv).toNat)
              case atStart => exact ⟨0, Nat.zero_le _, rfl, Below.refl _ _⟩
              case round =>
                obtain ⟨j, hj, rfl, HJ⟩ := hrel
                have HBg := Lib.hid (HBf.out.trans (HJ.out.mono HBf.out.size))
                have HBh := Lib.hid (HBe.out.trans (HJ.out.mono HBe.out.size))
                by_cases hlt : j < M
                · have hj2 : j + 1 < l.length := by have := HMI.out; have := HI.out; omega
                  have hlx : j < x.l.length := by rw [HM.out]; exact hlt
                  obtain ⟨b1, o1, rfl, ld1⟩ := AT4.out.one hlx
                  obtain ⟨b2, o2, ea, ld2⟩ := AT.out.one hj2
                  cases ea
                  rw [HXG.out j hlx hj2] at ld1
                  have hre := re_neq (l[j + 1]'hj2) (l[j + 1]'hj2)
                  rw [reB_self] at hre
                  have q1 := fun n => (ld1 (wr.drewN n) (below_drewN HBg.out n)).1 _ ty_rec
                  have q2 := fun n => (ld2 (wr.drewN n) (below_drewN HBh.out n)).1 _ ty_rec
                  have HLT := Lib.hid hlt
                  generalize l[j + 1]'hj2 = r at *
                  clear ld1 ld2
                  go_wp2
                  go_quiet (fail)
                  go_wp2
                  go_roundw
                  case rel => exact ⟨j + 1, HLT.out, by go_num, below_drewN HJ.out _⟩
                  case measure => have := HLT.out; simp [intOf]; omega
                · obtain rfl : j = M := by omega
                  have HBi := Lib.hid (HB1.out.trans (HBh.out.mono HB1.out.size))
                  go_wp2_with fail
                  refine (HW.out _ HBi.out).mono ?_
                  rintro E w9 ⟨rfl, hb9⟩
                  have HB9 := Lib.hid (HBi.out.trans (hb9.mono HBi.out.size))
                  clear hb9
                  go_wp2
                  go_ret
                  exact ⟨rfl, HB9.out⟩
end Go.Proofs.YthnelnfefllhpaaDoor
