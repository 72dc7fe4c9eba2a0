/- The statement SegmentOrder: the Go function returns true. Conditions: the table of four steps lies in its variable. -/
import Derived.Test.YthnelnfefllhpaaDoorBq
namespace Go.Proofs.YthnelnfefllhpaaDoor
open Go.RowKit
set_option linter.unusedVariables false
set_option linter.unusedSimpArgs false
set_option maxRecDepth 20000

theorem ty_inps : TyO 48 := tyo_of Tryd.underlying48 rfl (by kernel_rfl)
attribute [local go_sem ↓] ld_rec st_rec ld_u64 ld_int ld_u8 ld_input bs_m
attribute [local go_sem] bs_rec
set_option maxHeartbeats 4000000 in
theorem law_order (s : List UInt8) (n : Nat) (w : World) (hs : s.length ≤ maxLen) (hn : n < 18446744073709551616) (ht : Tab w) :
    Calls Tryd.prog 5 #[.string (str s), .int .u64 (n : Int)] w fun E w' => E = .returned (.bool true) ∧ Below w.heap.size w w' := by
  have hsz := str_size s
  have hml : s.length ≤ 9223372036854775807 := Nat.le_trans hs (by decide)
  have HT := Lib.hid ht
  clear ht hs
  by_cases h6 : 6000 < s.length
  · go_enter Tryd.func5, Tryd.ntmps5
    go_wp2_with fail
    refine (works_c _ HT.out).mono ?_
    rintro E w1 ⟨rfl, hb⟩
    have HB := Lib.hid hb
    clear hb
    go_wp2
    go_ret
    exact ⟨rfl, HB.out⟩
  · have HS := Lib.hid (show s.length ≤ 1048576 by omega)
    have HC0 := scan_c s n w HS.out hn HT.out
    obtain ⟨l, g1, g2, g3⟩ := scn_told n s.length s sg0 0 (Nat.le_refl _) (okg0 n)
    rw [g2] at HC0
    obtain ⟨e, he⟩ : ∃ e, e = (scn n sg0 0 s).e := ⟨_, rfl⟩
    rw [← he, Nat.zero_add] at HC0
    have HC := Lib.hid HC0
    have hal := g3.length_le
    have hale : ((bys l).length : Int) ≤ (s.length : Int) := by omega
    have HW : Hid (∀ w1, Below w.heap.size w w1 → Calls Tryd.prog 6 #[] w1 fun E w' => E = .returned (.bool true) ∧ Below w1.heap.size w1 w') := fun w1 hb => works_c w1 (tab_b HT.out HT.out.1 hb)
    have hcut := str_cut s (bys l).length
    have htk : Hid (s.take (bys l).length = bys l) := (List.prefix_iff_eq_take.1 g3).symm
    rw [htk.out] at hcut
    clear HC0 g2 he htk
    have G1 := Lib.hid g1
    have hfw := Lib.hid (show l.length ≤ 6000 by
      have hbl : ∀ l : List Rc, 6 * l.length ≤ (bys l).length := by
        intro l
        induction l with
        | nil => simp
        | cons a l ih => rw [bys_cons, List.length_append, List.length_cons]; have := byR_lo a; omega
      have := hbl l
      omega)
    clear g1 g3
    cases l with
    | nil =>
      have hz := re_eq_zero rz
      have hzz := reB_self rz
      go_enter Tryd.func5, Tryd.ntmps5
      go_wp2_with fail
      refine HC.out.mono ?_
      rintro E w1 ⟨ao, cap, rfl, _, _, _, _, _, hb⟩
      have HB := Lib.hid hb
      dsimp only [runS, List.foldl, sg0, List.length_nil, bys_nil]
      obtain ⟨g, w2, z1, s1, h1, q1⟩ := (Loc.nil (Nat.le_refl w1.heap.size)).newA ty_rec #[.int .i64 0, .int .u64 0, .int .u8 0, .int .u8 0, .int .u8 0, .int .u64 0, .int .u64 0, .int .u64 0, .int .u8 0] (rcs rz) rfl rfl (List.all_eq_true.2 (rcs_one rz))
      have l1 := h1.ldA ty_rec 0 rfl 0 (vs := rcs rz) (by simp [rcs]) (Nat.le_of_ble_eq_true rfl)
      have HB2 := Lib.hid (HB.out.trans ((below_of_grown q1).mono HB.out.size))
      clear hb h1 q1 hcut hale hal
      go_wp2_with fail
      refine (HW.out _ HB2.out).mono ?_
      rintro E w3 ⟨rfl, hb3⟩
      have HB3 := Lib.hid (HB2.out.trans (hb3.mono HB2.out.size))
      clear hb3
      go_wp2
      go_ret
      exact ⟨rfl, HB3.out⟩
    | cons h l =>
      obtain ⟨hh1, hh2, hh3⟩ := runS_told G1.out
      obtain ⟨hk3, had⟩ := goes_head G1.out
      obtain ⟨hf, hm, ht0, hgs⟩ := G1.out
      rw [had] at hgs
      have hsn : h.s = n ∧ h.y < 2 := by
        have := okg_ad (okg0 n) hf hm ht0
        rw [had] at this
        have := this.hb rfl
        exact ⟨this.2.2.1, this.2.1⟩
      have hok := okg_ad (okg0 n) hf hm ht0
      rw [had] at hok
      have HOK := Lib.hid hok
      have HGS := Lib.hid hgs
      have hlw : Hid (l.length ≤ 6000) := by show _ ≤ _; have := hfw.out; simp only [List.length_cons] at this; omega
      have MH := Lib.hid (show Mays [h] from fun r hr => by rw [List.mem_singleton] at hr; subst hr; exact ⟨hf, hm⟩)
      have ML := Lib.hid (mays_of hgs)
      have hrz : h ≠ rz := by rintro rfl; exact absurd hk3 (by decide)
      have hz := re_eq_zero h
      rw [reB_not hrz] at hz
      have hk3i : (h.k != 3) = false := by rw [hk3]; rfl
      have hsni : ((h.s : Int) != (n : Int)) = false := by rw [bne_eq_false_iff_eq]; omega
      have hyi : ¬ (1 : Int) < (h.y : Int) := by omega
      have hyi2 : decide ((1 : Int) < (h.y : Int)) = false := decide_eq_false hyi
      have hyl := Lib.hid hsn.2
      have e2 : bys (h :: l) = bys [h] ++ bys l := by rw [bys_cons, bys_one]
      have hap := str_append (bys [h]) (bys l)
      have hsum : ¬ (9223372036854775807 < ((bys [h]).length : Int) + ((bys l).length : Int)) := by have := congrArg List.length e2; rw [List.length_append] at this; omega
      have hsum2 : ¬ (9223372036854775807 < (bys [h]).length + (bys l).length) := by omega
      have hs1 := str_size (bys [h])
      have hs2 := str_size (bys l)
      have hst := str_eq2 e2.symm
      have hcc := Lib.hid hcut
      have hah := Lib.hid hale
      obtain ⟨T, hT⟩ : ∃ T, T = bys (h :: l) := ⟨_, rfl⟩
      rw [← hT] at hcut hale hst HC
      obtain ⟨U, hU⟩ : ∃ U, U = bys [h] := ⟨_, rfl⟩
      obtain ⟨V, hV⟩ : ∃ V, V = bys l := ⟨_, rfl⟩
      have PH : Hid (∀ w1 ao cap, Below w.heap.size w w1 → RcsAt w1 ao [h] → Calls Tryd.prog 12 #[.slice ao 1 cap] w1 fun E w' => E = .returned (.string (str U)) ∧ Below w1.heap.size w1 w') := fun w1 ao cap hb ha => by rw [hU]; exact lput_c [h] ao cap w1 ha MH.out (by simp) (tab_b HT.out HT.out.1 hb)
      have PL : Hid (∀ w1 ao cap, Below w.heap.size w w1 → RcsAt w1 ao l → Calls Tryd.prog 12 #[.slice ao l.length cap] w1 fun E w' => E = .returned (.string (str V)) ∧ Below w1.heap.size w1 w') := fun w1 ao cap hb ha => by rw [hV]; exact lput_c l ao cap w1 ha ML.out (by have := hlw.out; omega) (tab_b HT.out HT.out.1 hb)
      rw [← hU, ← hV] at hap hst hsum hsum2
      rw [← hU] at hs1
      rw [← hV] at hs2
      clear hcc hah hk3 hsn hok hgs hrz e2 hT hU hV hf hm ht0 hfw hal
      go_enter Tryd.func5, Tryd.ntmps5
      go_wp2_with fail
      refine HC.out.mono ?_
      rintro E w1 ⟨ao, cap, rfl, hat, _, _, _, _, hb⟩
      have HB := Lib.hid hb
      have AT := Lib.hid hat
      simp only [hh1, hh2] at AT ⊢
      clear hb hat hh1 hh2 hh3
      obtain ⟨g, w2, z1, s1, h1, q1⟩ := (Loc.nil (Nat.le_refl w1.heap.size)).newA ty_rec #[.int .i64 0, .int .u64 0, .int .u8 0, .int .u8 0, .int .u8 0, .int .u64 0, .int .u64 0, .int .u64 0, .int .u8 0] (rcs h) rfl rfl (List.all_eq_true.2 (rcs_one h))
      have l1 := h1.ldA ty_rec 0 rfl 0 (vs := rcs h) (by simp [rcs]) (Nat.le_of_ble_eq_true rfl)
      have HB2 := Lib.hid (HB.out.trans ((below_of_grown q1).mono HB.out.size))
      have AT2 := Lib.hid (AT.out.new (below_of_grown q1))
      have HG := Lib.hid (show w.heap.size ≤ g by rw [← z1]; exact HB.out.size)
      have H2 := Lib.hid (h1.get 0 rfl)
      clear h1 q1 HB AT
      go_upto_region 8 with fail
      clear l1 s1 z1
      have a1 := fun W (hW : Cells W g 28 (rcs h)) => run_ldA ty_rec hW 0 (Nat.le_of_ble_eq_true rfl)
      have e0 : (((rcs h).toList.drop 0).take 9).toArray = rcs h := by simp [rcs]
      simp only [e0] at a1
      clear e0
      have a2 := fun W (hW : Cells W g 28 (rcs h)) => run_ldO ty_int hW 0 (v := .int .i64 h.k) rfl
      have a3 := fun W (hW : Cells W g 28 (rcs h)) => run_ldO ty_u64 hW 5 (v := .int .u64 (h.s : Int)) rfl
      have a4 := fun W (hW : Cells W g 28 (rcs h)) => run_ldO ty_u8 hW 8 (v := .int .u8 (h.y : Int)) rfl
      have o0 := H2.out.drew
      have HBa := Lib.hid (HB2.out.drew.alloc HB2.out.drew.size (.cells (rcs h) 28))
      have HRa := Lib.hid (rcsAt_block (l := [h]) (Cells.made w2.drew 28 (rcs h)) (by simp [Rall]))
      have ATa := Lib.hid (AT2.out.new ((Below.refl w2.heap.size w2).drew.alloc (Nat.le_refl _) (.cells (rcs h) 28)))
      refine wp_region_till (S := fun W => Cells W g 28 (rcs h)) (by kernel_rfl) ?_
      refine wpTill_take (i := 0) (v := ?vor0) rfl (by kernel_rfl) (fun _ _ _ h => h) (Or.inl ⟨by rfl, ?hyor0⟩) o0 ?restor0
      case hyor0 => (intro W hW; (try dsimp only at hW); go_simp; try with_reducible rfl)
      simp only [Act.put, List.setIfInBounds_toArray, List.set_cons_zero, List.set_cons_succ, List.getElem_toArray, List.getElem_cons_succ, List.getElem_cons_zero]
      refine wpTill_take (i := 3) (v := ?vor3) rfl (by kernel_rfl) (fun _ _ _ h => h) (Or.inl ⟨by rfl, ?hyor3⟩) o0 ?restor3
      case hyor3 => (intro W hW; (try dsimp only at hW); go_simp; try with_reducible rfl)
      simp only [Act.put, List.setIfInBounds_toArray, List.set_cons_zero, List.set_cons_succ, List.getElem_toArray, List.getElem_cons_succ, List.getElem_cons_zero]
      refine wpTill_take (i := 6) (v := ?vor6) rfl (by kernel_rfl) (fun _ _ _ h => h) (Or.inl ⟨by rfl, ?hyor6⟩) o0 ?restor6
      case hyor6 => (intro W hW; (try dsimp only at hW); go_simp; try with_reducible rfl)
      simp only [Act.put, List.setIfInBounds_toArray, List.set_cons_zero, List.set_cons_succ, List.getElem_toArray, List.getElem_cons_succ, List.getElem_cons_zero]
      refine wpTill_take (i := 7) (v := ?vor7) rfl (by kernel_rfl) (fun _ _ _ h => h) (Or.inl ⟨by rfl, ?hyor7⟩) o0 ?restor7
      case hyor7 => (intro W hW; (try dsimp only at hW); go_simp; try with_reducible rfl)
      simp only [Act.put, List.setIfInBounds_toArray, List.set_cons_zero, List.set_cons_succ, List.getElem_toArray, List.getElem_cons_succ, List.getElem_cons_zero]
      refine wpTill_take (i := 8) (v := ?vor8) rfl (by kernel_rfl) (fun _ _ _ h => h) (Or.inl ⟨by rfl, ?hyor8⟩) o0 ?restor8
      case hyor8 => (intro W hW; (try dsimp only at hW); go_simp; try with_reducible rfl)
      simp only [Act.put, List.setIfInBounds_toArray, List.set_cons_zero, List.set_cons_succ, List.getElem_toArray, List.getElem_cons_succ, List.getElem_cons_zero]
      refine wpTill_run (i := 1) (by kernel_rfl) rfl o0 (fun K hK => ?_)
      go_simp
      have o1 := o0.alloc (.cells (rcs h) 28)
      refine hK _ _ ?_
      clear hK K
      refine wpTill_run (i := 2) (by kernel_rfl) rfl o1 (fun K hK => ?_)
      go_simp
      go_at_call 12
      refine (PH.out _ _ 1 HBa.out HRa.out).mono ?_
      rintro E w4 ⟨rfl, hb4⟩
      have o2 := o1.below hb4 o1.lt
      have HB4 := Lib.hid (HBa.out.trans (hb4.mono HBa.out.size))
      have AT4 := Lib.hid (ATa.out.new hb4)
      clear hb4
      refine hK _ _ ?_
      clear hK K
      refine wpTill_run (i := 4) (by kernel_rfl) rfl o2 (fun K hK => ?_)
      go_simp
      go_at_call 12
      refine (PL.out _ _ _ HB4.out AT4.out).mono ?_
      rintro E w5 ⟨rfl, hb5⟩
      have o4 := o2.below hb5 o2.lt
      have HB5 := Lib.hid (HB4.out.trans (hb5.mono HB4.out.size))
      have AT5 := Lib.hid (AT4.out.new hb5)
      clear hb5
      refine hK _ _ ?_
      clear hK K
      refine wpTill_take (i := 5) (v := ?vor5) rfl (by kernel_rfl) (fun _ _ _ h => h) (Or.inl ⟨by rfl, ?hyor5⟩) o4 ?restor5
      case hyor5 => (intro W hW; (try dsimp only at hW); go_simp; try with_reducible rfl)
      simp only [Act.put, List.setIfInBounds_toArray, List.set_cons_zero, List.set_cons_succ, List.getElem_toArray, List.getElem_cons_succ, List.getElem_cons_zero]
      refine wpTill_take (i := 9) (v := ?vor9) rfl (by kernel_rfl) (fun _ _ _ h => h) (Or.inl ⟨by rfl, ?hyor9⟩) o4 ?restor9
      case hyor9 => (intro W hW; (try dsimp only at hW); go_simp; try with_reducible rfl)
      simp only [Act.put, List.setIfInBounds_toArray, List.set_cons_zero, List.set_cons_succ, List.getElem_toArray, List.getElem_cons_succ, List.getElem_cons_zero]
      refine wpTill_take (i := 10) (v := ?vor10) rfl (by kernel_rfl) (fun _ _ _ h => h) (Or.inl ⟨by rfl, ?hyor10⟩) o4 ?restor10
      case hyor10 => (intro W hW; (try dsimp only at hW); go_simp; try with_reducible rfl)
      simp only [Act.put, List.setIfInBounds_toArray, List.set_cons_zero, List.set_cons_succ, List.getElem_toArray, List.getElem_cons_succ, List.getElem_cons_zero]
      refine wpTill_take (i := 11) (v := ?vor11) rfl (by kernel_rfl) (fun _ _ _ h => h) (Or.inl ⟨by rfl, ?hyor11⟩) o4 ?restor11
      case hyor11 => (intro W hW; (try dsimp only at hW); go_simp; try with_reducible rfl)
      simp only [Act.put, List.setIfInBounds_toArray, List.set_cons_zero, List.set_cons_succ, List.getElem_toArray, List.getElem_cons_succ, List.getElem_cons_zero]
      refine wpTill_take (i := 12) (v := ?vor12) rfl (by kernel_rfl) (fun _ _ _ h => h) (Or.inl ⟨by rfl, ?hyor12⟩) o4 ?restor12
      case hyor12 => (intro W hW; (try dsimp only at hW); go_simp; try with_reducible rfl)
      simp only [Act.put, List.setIfInBounds_toArray, List.set_cons_zero, List.set_cons_succ, List.getElem_toArray, List.getElem_cons_succ, List.getElem_cons_zero]
      refine wpTill_take (i := 13) (v := ?vor13) rfl (by kernel_rfl) (fun _ _ _ h => h) (Or.inl ⟨by rfl, ?hyor13⟩) o4 ?restor13
      case hyor13 => (intro W hW; (try dsimp only at hW); go_simp; try with_reducible rfl)
      simp only [Act.put, List.setIfInBounds_toArray, List.set_cons_zero, List.set_cons_succ, List.getElem_toArray, List.getElem_cons_succ, List.getElem_cons_zero]
      refine wpTill_take (i := 14) (v := ?vor14) rfl (by kernel_rfl) (fun _ _ _ h => h) (Or.inl ⟨by rfl, ?hyor14⟩) o4 ?restor14
      case hyor14 => (intro W hW; (try dsimp only at hW); go_simp; try with_reducible rfl)
      simp only [Act.put, List.setIfInBounds_toArray, List.set_cons_zero, List.set_cons_succ, List.getElem_toArray, List.getElem_cons_succ, List.getElem_cons_zero]
      refine wpTill_take (i := 15) (v := ?vor15) rfl (by kernel_rfl) (fun _ _ _ h => h) (Or.inl ⟨by rfl, ?hyor15⟩) o4 ?restor15
      case hyor15 => (intro W hW; (try dsimp only at hW); go_simp; try with_reducible rfl)
      simp only [Act.put, List.setIfInBounds_toArray, List.set_cons_zero, List.set_cons_succ, List.getElem_toArray, List.getElem_cons_succ, List.getElem_cons_zero]
      refine wpTill_take (i := 16) (v := ?vor16) rfl (by kernel_rfl) (fun _ _ _ h => h) (Or.inl ⟨by rfl, ?hyor16⟩) o4 ?restor16
      case hyor16 => (intro W hW; (try dsimp only at hW); go_simp; try with_reducible rfl)
      simp only [Act.put, List.setIfInBounds_toArray, List.set_cons_zero, List.set_cons_succ, List.getElem_toArray, List.getElem_cons_succ, List.getElem_cons_zero]
      refine wpTill_take (i := 17) (v := ?vor17) rfl (by kernel_rfl) (fun _ _ _ h => h) (Or.inl ⟨by rfl, ?hyor17⟩) o4 ?restor17
      case hyor17 => (intro W hW; (try dsimp only at hW); go_simp; try with_reducible rfl)
      simp only [Act.put, List.setIfInBounds_toArray, List.set_cons_zero, List.set_cons_succ, List.getElem_toArray, List.getElem_cons_succ, List.getElem_cons_zero]
      refine wpTill_take (i := 18) (v := ?vor18) rfl (by kernel_rfl) (fun _ _ _ h => h) (Or.inl ⟨by rfl, ?hyor18⟩) o4 ?restor18
      case hyor18 => (intro W hW; (try dsimp only at hW); go_simp; try with_reducible rfl)
      simp only [Act.put, List.setIfInBounds_toArray, List.set_cons_zero, List.set_cons_succ, List.getElem_toArray, List.getElem_cons_succ, List.getElem_cons_zero]
      refine wpTill_take (i := 19) (v := ?vor19) rfl (by kernel_rfl) (fun _ _ _ h => h) (Or.inl ⟨by rfl, ?hyor19⟩) o4 ?restor19
      case hyor19 => (intro W hW; (try dsimp only at hW); go_simp; try with_reducible rfl)
      simp only [Act.put, List.setIfInBounds_toArray, List.set_cons_zero, List.set_cons_succ, List.getElem_toArray, List.getElem_cons_succ, List.getElem_cons_zero]
      refine wpTill_take (i := 20) (v := ?vor20) rfl (by kernel_rfl) (fun _ _ _ h => h) (Or.inl ⟨by rfl, ?hyor20⟩) o4 ?restor20
      case hyor20 => (intro W hW; (try dsimp only at hW); go_simp; try with_reducible rfl)
      simp only [Act.put, List.setIfInBounds_toArray, List.set_cons_zero, List.set_cons_succ, List.getElem_toArray, List.getElem_cons_succ, List.getElem_cons_zero]
      refine wpTill_take (i := 21) (v := ?vor21) rfl (by kernel_rfl) (fun _ _ _ h => h) (Or.inl ⟨by rfl, ?hyor21⟩) o4 ?restor21
      case hyor21 => (intro W hW; (try dsimp only at hW); go_simp; try with_reducible rfl)
      simp only [Act.put, List.setIfInBounds_toArray, List.set_cons_zero, List.set_cons_succ, List.getElem_toArray, List.getElem_cons_succ, List.getElem_cons_zero]
      refine wpTill_take (i := 22) (v := ?vor22) rfl (by kernel_rfl) (fun _ _ _ h => h) (Or.inl ⟨by rfl, ?hyor22⟩) o4 ?restor22
      case hyor22 => (intro W hW; (try dsimp only at hW); go_simp; try with_reducible rfl)
      simp only [Act.put, List.setIfInBounds_toArray, List.set_cons_zero, List.set_cons_succ, List.getElem_toArray, List.getElem_cons_succ, List.getElem_cons_zero]
      refine wpTill_take (i := 23) (v := ?vor23) rfl (by kernel_rfl) (fun _ _ _ h => h) (Or.inl ⟨by rfl, ?hyor23⟩) o4 ?restor23
      case hyor23 => (intro W hW; (try dsimp only at hW); go_simp; try with_reducible rfl)
      simp only [Act.put, List.setIfInBounds_toArray, List.set_cons_zero, List.set_cons_succ, List.getElem_toArray, List.getElem_cons_succ, List.getElem_cons_zero]
      refine wpTill_take (i := 24) (v := ?vor24) rfl (by kernel_rfl) (fun _ _ _ h => h) (Or.inl ⟨by rfl, ?hyor24⟩) o4 ?restor24
      case hyor24 => (intro W hW; (try dsimp only at hW); go_simp; try with_reducible rfl)
      simp only [Act.put, List.setIfInBounds_toArray, List.set_cons_zero, List.set_cons_succ, List.getElem_toArray, List.getElem_cons_succ, List.getElem_cons_zero]
      refine wpTill_run (i := 25) (by kernel_rfl) rfl o4 (fun K hK => ?_)
      go_simp
      refine hK _ _ ?_
      clear hK K
      refine wpTill_done (by kernel_rfl) ?_
      have H5 := Lib.hid o4
      clear a1 a2 a3 a4 o0 o1 o2 o4 HBa HRa ATa HB4 AT4 HB2 AT2 H2 PH PL
      have l6 := run_ldO ty_u64 H5.out 6 (v := .int .u64 (h.i : Int)) rfl
      have hg5 := Lib.hid H5.out.lt
      go_wp2
      clear l6 hcut hst hsum hsum2 hap hs1 hs2 hale hz hk3i hsni hyi hyi2
      go_loopw [9, 10, 11] (fun c v i wr => ∃ (k m cp : Nat) (x : Sg) (ao2 : Option Addr), k ≤ l.length ∧ i = .int .i64 (k : Int) ∧ c = .int .u64 (x.c : Int) ∧ v = .slice ao2 m cp ∧ Hid (x = runS ⟨true, h, [], h.i, h.i⟩ (l.take k)) ∧ Hid (m = x.o - x.c) ∧ Hid (QRow w5.heap.size wr [] ao2 m cp (win x)) ∧ Hid (Loc w5.heap.size w5 wr [])) (fun _ _ i _ => l.length - (intOf i).toNat)
      case atStart => exact ⟨0, 0, 0, ⟨true, h, [], h.i, h.i⟩, none, Nat.zero_le _, rfl, rfl, rfl, rfl, by show _ = _; simp, by show QRow _ _ _ _ _ _ _; rw [show win ⟨true, h, [], h.i, h.i⟩ = [] by simp [win]]; exact QRow.nil _ _ _ (fun b hb => by cases hb), Loc.nil (Nat.le_refl _)⟩
      case round =>
        obtain ⟨k, m, cp, x, ao2, hk, rfl, rfl, rfl, HX, HM, HQ, HL⟩ := hrel
        by_cases hlt : k < l.length
        · obtain ⟨hrf, hrm, hrt⟩ := goes_at k hlt HGS.out
          have hnx := run_at (x := ⟨true, h, [], h.i, h.i⟩) hlt
          have hxok := goes_okg HOK.out (goes_take k HGS.out)
          obtain ⟨hxh, hxb⟩ := runS_head (goes_take k HGS.out) rfl
          rw [← HX.out] at hrt hnx hxok hxh hxb
          have hco := hxok.co
          have hoc := hxok.oc
          have ho6 := hxok.o64
          have hm := HM.out
          obtain ⟨b, o, rfl, hload⟩ := AT5.out.one hlt
          have HLT := Lib.hid hlt
          have hlb := hlw.out
          generalize l[k]'hlt = r at *
          have hsk := step_kind hxb hrm hrt
          have hlow := may_low hrm
          have l1 := (hload wr HL.out.be).1 _ ty_rec
          have hwz := HL.out.size
          obtain ⟨g2, w7, z7, s7, h7, q7⟩ := HL.out.newA ty_rec #[.int .i64 0, .int .u64 0, .int .u8 0, .int .u8 0, .int .u8 0, .int .u64 0, .int .u64 0, .int .u64 0, .int .u8 0] (rcs r) rfl rfl (List.all_eq_true.2 (rcs_one r))
          have HL7 := Lib.hid h7
          have HQ7 := Lib.hid (HQ.out.fresh (below_of_grown q7) (Nat.le_of_eq z7) (h7.get 0 rfl).lt)
          have HNX := Lib.hid hnx
          have c0 := h7.ldO ty_int 0 rfl 0 (v := .int .i64 r.k) rfl
          have hgk := Lib.hid hxh
          clear h7 q7 hload hrf hrt hnx hxok hxb hxh HL HQ
          rcases hsk with ⟨k1, e1, e2, e3, e4⟩ | ⟨k2, e1, e2, e3, e4⟩
          · have g0 : (r.k == 1) = true := beq_iff_eq.2 k1
            have hsum : IntKind.u64.wrap ((x.c : Int) + (m : Int)) = (x.o : Int) := by rw [IntWalk.u64_in _ (by omega)]; omega
            have hm12 : (m : Int) < 12 := by omega
            have hm0 : ¬ (12 : Int) ≤ (m : Int) := by omega
            have g1 : ((r.f : Int) != (x.o : Int)) = false := by rw [bne_eq_false_iff_eq]; omega
            have c1 := HL7.out.ldO ty_u64 0 rfl 1 (v := .int .u64 (r.f : Int)) rfl
            have c2 := HL7.out.ldO ty_input 0 rfl 2 (v := .int .u8 (r.o : Int)) rfl
            have HW2 := Lib.hid (win_own hco k1 e1)
            have HE4 := Lib.hid e4
            have hcx : Hid ((x.o + 1) - x.c = m + 1) := by show _ = _; omega
            clear k1 e1 e2 e3 e4 hco hoc ho6 hm hlow
            go_wp2_with (at_builtin; refine wpList_append_q rfl _ _ 48 Tryd.underlying48 rfl (by simp [Act.eval]) r.o (by simp [Act.eval]) HQ7.out HL7.out (Nat.le_refl _) HL7.out.size (by simp) (by omega) ?_; intro ao8 cp8 w8 hq8 hL8 hg8; have HQ8 := Lib.hid hq8; have HL8 := Lib.hid hL8; clear hq8 hL8 hg8)
            go_roundw
            case rel =>
              have hb1 := hlw.out
              have hb2 := HLT.out
              refine ⟨k + 1, m + 1, cp8, adS x r, ao8, HLT.out, by go_num, by rw [HE4.out], rfl, HNX.out.symm, ?_, ?_, HL8.out.drop 0 rfl⟩
              · show m + 1 = _
                rw [HE4.out]; exact hcx.out.symm
              · show QRow _ _ _ _ _ _ _
                rw [HE4.out, HW2.out]
                exact HQ8.out.less (fun b hb => by cases hb)
            case measure => have := HLT.out; have := hlw.out; simp [intOf]; omega
          · have hy : h.y = 0 ∨ h.y = 1 := by have := hyl.out; omega
            have g0 : (r.k == 1) = false := beq_eq_false_iff_ne.2 (by omega)
            have g0b : (r.k != 2) = false := by rw [k2]; rfl
            have g1 : ((r.f : Int) != (x.c : Int)) = false := by rw [bne_eq_false_iff_eq]; omega
            have g2b : ((m : Int) == 0) = false := beq_eq_false_iff_ne.2 (by omega)
            have hm1 : (1 : Int) ≤ (m : Int) := by omega
            have hm0 : (0 : Int) < (m : Int) := by omega
            have hcap := HQ7.out.caps
            have hcap2 : (m : Int) ≤ (cp : Int) := by omega
            have hcap3 : (1 : Int) ≤ (cp : Int) := by omega
            obtain ⟨c1, hc1, hc1v⟩ : ∃ c1 : Nat, IntKind.u64.wrap ((x.c : Int) + 1) = (c1 : Int) ∧ c1 = x.c + 1 := ⟨x.c + 1, by rw [IntWalk.u64_in _ (by omega)]; omega, rfl⟩
            have HC1V := Lib.hid hc1v
            have HWS := Lib.hid (win_sure (r := r) e2 (by omega : r.k ≠ 1))
            have HE4 := Lib.hid e4
            have hcx : Hid (x.o - (x.c + 1) = m - 1) := by show _ = _; omega
            have hq7 := HQ7.out
            rw [HWS.out] at hq7
            obtain ⟨gq, oq, rfl, hcell⟩ := hq7.at (j := 0) (by simp)
            obtain ⟨gq', oq', he', htail⟩ := hq7.tail
            cases he'
            have HTL := Lib.hid htail
            have HCL := Lib.hid hcell
            rw [hgk.out] at e3
            have hk3x := Lib.hid e3
            clear k2 e1 e2 e3 e4 hco hoc ho6 hm hlow hc1v hcap hq7 hcell htail
            go_upto_region 20 with fail
            have HLn := fun n => HL7.out.to (below_drewN (Below.refl _ _) n)
            have q0 := fun n => (HLn n).ldO ty_int 0 rfl 0 (v := .int .i64 r.k) rfl
            have q1 := fun n => (HLn n).ldO ty_u64 0 rfl 1 (v := .int .u64 (r.f : Int)) rfl
            have q5 := fun n => run_ldC ty_input (show (w7.drewN n).cell? ⟨gq, oq, none⟩ = some (.int .u8 ((inp x.l x.c : Nat) : Int)) from HCL.out)
            clear c0
            rcases hy with hy | hy
            · have q8 := fun n => run_ldO ty_u8 (H5.out.below (HLn n).be hg5.out) 8 (v := .int .u8 0) (by simp [rcs, hy])
              have q3 := fun n => (HLn n).ldO ty_input 0 rfl 3 (v := .int .u8 (r.p : Int)) rfl
              have g5 : ((r.p : Int) != ((inp x.l x.c : Nat) : Int)) = false := by
                have := hk3x.out
                rw [hy] at this
                rw [bne_eq_false_iff_eq, ← this]; rfl
              clear HLn
              go_quiet (fail)
              clear q0 q1 q3 q5 q8 g5
              have HL8 := Lib.hid (HL7.out.to (below_drewN (Below.refl _ _) nq))
              have HTL8 := Lib.hid (fun ao' ha => ((HTL.out ao' ha).less (bs' := []) (fun b hb => by cases hb)).to (below_drewN (Below.refl _ _) nq))
              go_wp2
              go_roundw
              case rel =>
                have hb1 := hlw.out
                have hb2 := HLT.out
                refine ⟨k + 1, m - 1, cp - 1, adS x r, _, HLT.out, by go_num, by rw [HE4.out, HC1V.out], rfl, HNX.out.symm, ?_, ?_, HL8.out.drop 0 rfl⟩
                · show m - 1 = _
                  rw [HE4.out]; exact hcx.out.symm
                · show QRow _ _ _ _ _ _ _
                  rw [HE4.out]
                  refine HTL8.out _ ?_
                  by_cases h1 : cp = 1
                  · exact .inl ⟨if_pos h1, h1⟩
                  · exact .inr ⟨if_neg h1, h1⟩
              case measure => have := HLT.out; have := hlw.out; simp [intOf]; omega
            · have q8 := fun n => run_ldO ty_u8 (H5.out.below (HLn n).be hg5.out) 8 (v := .int .u8 1) (by simp [rcs, hy])
              have q3 := fun n => (HLn n).ldO ty_input 0 rfl 4 (v := .int .u8 (r.q : Int)) rfl
              have g5 : ((r.q : Int) != ((inp x.l x.c : Nat) : Int)) = false := by
                have := hk3x.out
                rw [hy] at this
                rw [bne_eq_false_iff_eq, ← this]; rfl
              clear HLn
              go_quiet (fail)
              clear q0 q1 q3 q5 q8 g5
              have HL8 := Lib.hid (HL7.out.to (below_drewN (Below.refl _ _) nq))
              have HTL8 := Lib.hid (fun ao' ha => ((HTL.out ao' ha).less (bs' := []) (fun b hb => by cases hb)).to (below_drewN (Below.refl _ _) nq))
              go_wp2
              go_roundw
              case rel =>
                have hb1 := hlw.out
                have hb2 := HLT.out
                refine ⟨k + 1, m - 1, cp - 1, adS x r, _, HLT.out, by go_num, by rw [HE4.out, HC1V.out], rfl, HNX.out.symm, ?_, ?_, HL8.out.drop 0 rfl⟩
                · show m - 1 = _
                  rw [HE4.out]; exact hcx.out.symm
                · show QRow _ _ _ _ _ _ _
                  rw [HE4.out]
                  refine HTL8.out _ ?_
                  by_cases h1 : cp = 1
                  · exact .inl ⟨if_pos h1, h1⟩
                  · exact .inr ⟨if_neg h1, h1⟩
              case measure => have := HLT.out; have := hlw.out; simp [intOf]; omega
        · obtain rfl : k = l.length := by omega
          have HBz := Lib.hid (HB5.out.trans (HL.out.be.mono HB5.out.size))
          go_wp2_with fail
          refine (HW.out _ HBz.out).mono ?_
          rintro E w3 ⟨rfl, hb3⟩
          have HB3 := Lib.hid (HBz.out.trans (hb3.mono HBz.out.size))
          clear hb3
          go_wp2
          go_ret
          exact ⟨rfl, HB3.out⟩
end Go.Proofs.YthnelnfefllhpaaDoor
