/- What a payload tells, what a file does, the newest state, by the program: one contract each. Conditions: the two listed variables lie as they are laid. -/
import Derived.Test.YtacgmadgkmcmoaaGreatDoorJc
import Derived.Test.YtacgmadgkmcmoaaGreatDoorAg
import Derived.Test.YtacgmadgkmcmoaaGreatDoorPj
import Derived.StillTailTactics
namespace Go.Proofs.YtacgmadgkmcmoaaGreatDoor
open Go.RowKit
set_option linter.unusedVariables false
set_option linter.unusedSimpArgs false
set_option maxRecDepth 20000
attribute [local go_sem ↓] ld_state ld_u64 st_state
/-- What Load answers: the state's shots are new. -/
def KlPost (w : World) (s : St) (e : Int) (R : Ending) (w' : World) : Prop :=
  ∃ ao cap, R = .returned (.tuple #[sv s ao cap, .int .i64 e]) ∧ Shs w' ao s.ss ∧ s.fit ∧ s.ss.length ≤ 8 ∧ (∀ a, ao = some a → s.ss ≠ [] → w.heap.size ≤ a.block) ∧ Below w.heap.size w w'
theorem shs_none (w : World) (ao : Option Addr) : Shs w ao [] := fun k hk => by cases hk
theorem kl_none {w w' : World} (h : Below w.heap.size w w') (e : Int) : KlPost w .zero e (.returned (.tuple #[sv .zero none 0, .int .i64 e])) w' :=
  ⟨none, 0, rfl, shs_none _ _, fit_zero, by decide, fun a e => (by cases e), h⟩
theorem shs_turn {w w' : World} {ao : Option Addr} {l : List Sh} {g : Nat} (h : Shs w ao l) (k : w.grownBy w' (some g)) (hg : ∀ a, ao = some a → l ≠ [] → a.block ≠ g) : Shs w' ao l := by
  by_cases hl : l = []
  · subst hl; exact shs_none _ _
  · exact Shs_grown h k fun a e q => hg a e hl (Option.some.inj q).symm
theorem shs_to {w w' : World} {ao : Option Addr} {l : List Sh} (h : Shs w ao l) (hb : Below w.heap.size w w') : Shs w' ao l := Shs_grown h (grown_of_below (r := none) hb) (by simp)
theorem shut_kl {W : World} {g : Nat} {cs : Array Value} (p q : Tmp) (tmps : Array Value) (e : Int) (fn : Func) (hr : fn.results = #[.cell p 34, .tmp q]) (h : Cells W g 34 cs) (hs : cs.size = 19) (h2 : tmps.getD p undef = .pointer (some ⟨g, 0, none⟩)) (h3 : tmps.getD q undef = .int .i64 e) :
    (results fn tmps).run Tryz.prog W = .ok (.tuple #[.agg cs, .int .i64 e]) W := by
  have hl := load_state W g (by rw [rowOf_cells h, hs])
  rw [rowOf_cells h] at hl
  have h2' : tmps[p]?.getD undef = .pointer (some ⟨g, 0, none⟩) := by simpa using h2
  have h3' : tmps[q]?.getD undef = .int .i64 e := by simpa using h3
  simp [results, hr, h2', h3', asAddr, hl]
theorem tst_few (l : List UInt8) : (tst l).2.ss.length ≤ 8 ∧ (tst l).2.fit := by
  by_cases h : (tst l).1 = 0
  · obtain ⟨h1, h2, _⟩ := tst_one h
    exact ⟨good_few h1, h2⟩
  · rw [tst_bad h]; exact ⟨by decide, fit_zero⟩
theorem tst_sput {l : List UInt8} (h : (tst l).1 = 0) : sput (tst l).2 = ste (tst l).2 := sput_yes (tst_one h).1
theorem ktk_len {y : List UInt8} {f : Nat} (h : y.length < 16) : ktk y f = (10, .zero) := if_pos h
theorem ktk_bad {y : List UInt8} {f : Nat} (h : ¬ y.length < 16) (h1 : (tst (y.drop 16)).1 ≠ 0) : ktk y f = ((tst (y.drop 16)).1, .zero) := by
  unfold ktk; rw [if_neg h, if_pos h1]
theorem ktk_form {y : List UInt8} {f : Nat} (h : ¬ y.length < 16) (h1 : (tst (y.drop 16)).1 = 0) (h2 : un (y.take 8) ≠ f ∨ (tst (y.drop 16)).2.fr ≠ f) : ktk y f = (4, .zero) := by
  unfold ktk; rw [if_neg h, if_neg (by simp [h1]), if_pos h2]
theorem ktk_sum {y : List UInt8} {f : Nat} (h : ¬ y.length < 16) (h1 : (tst (y.drop 16)).1 = 0) (h2 : ¬ (un (y.take 8) ≠ f ∨ (tst (y.drop 16)).2.fr ≠ f)) (h3 : un ((y.drop 8).take 8) ≠ djn bas (ste (tst (y.drop 16)).2)) : ktk y f = (9, .zero) := by
  unfold ktk; rw [if_neg h, if_neg (by simp [h1]), if_neg h2, if_pos h3]
theorem ktk_ok {y : List UInt8} {f : Nat} (h : ¬ y.length < 16) (h1 : (tst (y.drop 16)).1 = 0) (h2 : ¬ (un (y.take 8) ≠ f ∨ (tst (y.drop 16)).2.fr ≠ f)) (h3 : ¬ un ((y.drop 8).take 8) ≠ djn bas (ste (tst (y.drop 16)).2)) : ktk y f = (0, (tst (y.drop 16)).2) := by
  unfold ktk; rw [if_neg h, if_neg (by simp [h1]), if_neg h2, if_neg h3]
theorem un8_lt (y : List UInt8) : un (y.take 8) < 18446744073709551616 := by
  have h1 := un_lt (y.take 8)
  have h2 : 256 ^ (y.take 8).length ≤ 256 ^ 8 := Nat.pow_le_pow_right (by omega) (by rw [List.length_take]; omega)
  have h3 : (256 : Nat) ^ 8 = 18446744073709551616 := by decide
  omega
theorem rd16_short {s : List UInt8} (h : s.length < 16) : fin (fin 0 (num 8 s).err) (num 8 (num 8 s).rest).err = 10 := by
  by_cases h2 : 8 ≤ s.length
  · have e : num 8 s = ⟨0, un (s.take 8), s.drop 8⟩ := by unfold num; rw [if_pos h2]
    rw [e]
    have e4 : num 8 (s.drop 8) = ⟨10, 0, []⟩ := by unfold num; rw [if_neg (by rw [List.length_drop]; omega)]
    simp [e4, fin]
  · have e : num 8 s = ⟨10, 0, []⟩ := by unfold num; rw [if_neg h2]
    rw [e]
    simp [fin]
theorem rd16_long {s : List UInt8} (h : ¬ s.length < 16) : num 8 s = ⟨0, un (s.take 8), s.drop 8⟩ ∧ num 8 (s.drop 8) = ⟨0, un ((s.drop 8).take 8), s.drop 16⟩ := by
  refine ⟨by unfold num; rw [if_pos (by omega)], ?_⟩
  unfold num
  rw [if_pos (by rw [List.length_drop]; omega), List.drop_drop]
set_option maxHeartbeats 4000000 in
theorem ktake_c (y : List UInt8) (f : Nat) (w : World) (hy : y.length ≤ 4096) (ht : BTab w) :
    Calls Tryz.prog 72 #[.string (str y), .int .u64 (f : Int)] w (KlPost w (ktk y f).2 (ktk y f).1) := by
  have H0 := Loc.one w 34 (stc .zero none 0)
  have HT := Lib.hid ht
  obtain ⟨KE, hKE⟩ : ∃ k, k = ktk y f := ⟨_, rfl⟩
  rw [← hKE]
  obtain ⟨Q, hQ⟩ : ∃ Q, Q = KlPost w KE.2 KE.1 := ⟨_, rfl⟩
  rw [← hQ]
  have HQ := Lib.hid hQ
  clear hQ ht
  by_cases h16 : y.length < 16
  · rw [ktk_len h16] at hKE
    have HK := Lib.hid hKE
    have HE := Lib.hid (rd16_short h16)
    clear h16 hKE
    go_enter Tryz.func72, Tryz.ntmps72
    go_upto_region 1 with fail
    rw [show (#[.int .u64 0, .int .u64 0, .int .i32 0, .int .i32 0, .int .i32 0, .int .i32 0, .int .u8 0, .int .u8 0, .int .u8 0, .int .i32 0, .int .i32 0, .int .i32 0, .int .i32 0, .int .u8 0, .int .u8 0, .int .u8 0, .slice none 0 0, .int .u16 0, .int .u16 0] : Array Value) = stc .zero none 0 from rfl]
    have HSZ := Lib.hid (show (w.alloc (.cells (stc .zero none 0) 34)).heap.size = w.heap.size + 1 by simp)
    generalize w.alloc (.cells (stc .zero none 0) 34) = wa at *
    go_wp2_with fail
    refine (rdNew y _ (by omega)).mono ?_
    rintro E w1 ⟨rfl, hr1, hg1, -⟩
    have H1 := H0.grown hg1
    clear hg1 H0
    have HG := Lib.hid (show ∀ e ∈ [(w.heap.size, 34, stc .zero none 0)], e.1 ≠ wa.heap.size from fun e he => by rw [List.mem_singleton] at he; subst he; have := HSZ.out; dsimp only; omega)
    go_wp2_with fail
    refine (rdU64 _ _ _ _ hr1).mono ?_
    rintro E w2 ⟨rfl, hr2, hg2⟩
    have H2 := H1.row hg2 (by have := HSZ.out; omega) HG.out
    clear hg2 hr1 H1
    go_wp2_with fail
    refine (rdU64 _ _ _ _ hr2).mono ?_
    rintro E w3 ⟨rfl, hr3, hg3⟩
    have H3 := H2.row hg3 (by have := HSZ.out; omega) HG.out
    rw [HE.out] at hr3
    clear hg3 hr2 H2
    go_wp2_with fail
    refine (rdErr _ _ _ _ hr3).mono ?_
    rintro E w4 ⟨rfl, rfl⟩
    obtain ⟨w5, s5, H5, _⟩ := H3.stA ty_state 0 rfl 0 (#[.int .u64 0, .int .u64 0, .int .i32 0, .int .i32 0, .int .i32 0, .int .i32 0, .int .u8 0, .int .u8 0, .int .u8 0, .int .i32 0, .int .i32 0, .int .i32 0, .int .i32 0, .int .u8 0, .int .u8 0, .int .u8 0, .slice none 0 0, .int .u16 0, .int .u16 0]) (cs' := stc .zero none 0) rfl (L' := [(w.heap.size, 34, stc .zero none 0)]) rfl (Nat.le_of_ble_eq_true rfl) rfl rfl
    clear hr3 H3
    go_wp2
    refine bodyPost_ret (shut_kl 4 5 _ 10 _ Tryz.results72 (H5.get 0 rfl) rfl rfl rfl) rfl ?_
    rw [HQ.out, HK.out]
    exact kl_none H5.be 10
  · obtain ⟨e1, e2⟩ := rd16_long h16
    have E1 := Lib.hid e1
    have E2 := Lib.hid e2
    have KB := Lib.hid (fun h => ktk_bad (f := f) h16 h)
    have KF := Lib.hid (fun h h2 => ktk_form (f := f) h16 h h2)
    have KS := Lib.hid (fun h h2 h3 => ktk_sum (f := f) h16 h h2 h3)
    have KO := Lib.hid (fun h h2 h3 => ktk_ok (f := f) h16 h h2 h3)
    rw [← hKE] at KB KF KS KO
    have HU1 := Lib.hid (un8_lt y)
    have HTF := Lib.hid (tst_few (y.drop 16))
    have HTS := Lib.hid (fun h => tst_sput (l := y.drop 16) h)
    have HDL := Lib.hid (show (y.drop 16).length ≤ 4096 by rw [List.length_drop]; omega)
    clear h16 e1 e2 hKE
    go_enter Tryz.func72, Tryz.ntmps72
    go_upto_region 1 with fail
    rw [show (#[.int .u64 0, .int .u64 0, .int .i32 0, .int .i32 0, .int .i32 0, .int .i32 0, .int .u8 0, .int .u8 0, .int .u8 0, .int .i32 0, .int .i32 0, .int .i32 0, .int .i32 0, .int .u8 0, .int .u8 0, .int .u8 0, .slice none 0 0, .int .u16 0, .int .u16 0] : Array Value) = stc .zero none 0 from rfl]
    have HSZ := Lib.hid (show (w.alloc (.cells (stc .zero none 0) 34)).heap.size = w.heap.size + 1 by simp)
    generalize w.alloc (.cells (stc .zero none 0) 34) = wa at *
    go_wp2_with fail
    refine (rdNew y _ (by omega)).mono ?_
    rintro E w1 ⟨rfl, hr1, hg1, -⟩
    have H1 := H0.grown hg1
    have HG1 := Lib.hid hg1
    clear hg1 H0
    have HG := Lib.hid (show ∀ e ∈ [(w.heap.size, 34, stc .zero none 0)], e.1 ≠ wa.heap.size from fun e he => by rw [List.mem_singleton] at he; subst he; have := HSZ.out; dsimp only; omega)
    go_wp2_with fail
    refine (rdU64 _ _ _ _ hr1).mono ?_
    rintro E w2 ⟨rfl, hr2, hg2⟩
    have H2 := H1.row hg2 (by have := HSZ.out; omega) HG.out
    rw [E1.out] at hr2
    rw [E1.out]
    clear hg2 hr1 H1
    dsimp only at hr2 ⊢
    go_wp2_with fail
    refine (rdU64 _ _ _ _ hr2).mono ?_
    rintro E w3 ⟨rfl, hr3, hg3⟩
    have H3 := H2.row hg3 (by have := HSZ.out; omega) HG.out
    rw [E2.out] at hr3
    rw [E2.out]
    clear hg3 hr2 H2
    dsimp only at hr3 ⊢
    rw [show fin (fin 0 0) 0 = 0 from rfl] at hr3
    obtain ⟨told, htold⟩ : ∃ n, n = un (y.take 8) := ⟨_, rfl⟩
    obtain ⟨sum, hsum⟩ : ∃ n, n = un ((y.drop 8).take 8) := ⟨_, rfl⟩
    rw [← htold] at KF KS KO HU1 ⊢
    rw [← hsum] at KS KO ⊢
    clear htold hsum
    go_wp2_with fail
    refine (rdErr _ _ _ _ hr3).mono ?_
    rintro E w4 ⟨rfl, rfl⟩
    go_wp2_with fail
    refine (rdRest _ _ _ _ hr3).mono ?_
    rintro E w4 ⟨rfl, rfl⟩
    go_wp2_with fail
    refine (stTake (y.drop 16) _ (by have := HDL.out; omega) (btab_lo HT.out H3.be)).mono ?_
    rintro E w4 ⟨ao, cap, rfl, hown, hb4⟩
    have HLE := H3.size
    have H4 := H3.grown hb4
    have HSH := Lib.hid (show Shs w4 ao (tst (y.drop 16)).2.ss from shs_own hown rfl HTF.out.2.2.2.2.2.1)
    have HAO := Lib.hid (show ∀ a, ao = some a → w3.heap.size ≤ a.block from fun a e => (hown.lt a.block (by rw [e]; rfl)).1)
    have H0L := Lib.hid (H3.low (e := (w.heap.size, 34, stc .zero none 0)) (by simp))
    clear hown hb4 hr3 H3 HDL
    obtain ⟨⟨ec, t⟩, het⟩ : ∃ x, x = tst (y.drop 16) := ⟨_, rfl⟩
    rw [← het] at KB KF KS KO HTF HTS HSH ⊢
    dsimp only at KB KF KS KO HTF HTS HSH ⊢
    clear het E1 E2
    obtain ⟨g6, w6, z6, s6, H6, q6⟩ := H4.newA ty_state #[.int .u64 0, .int .u64 0, .int .i32 0, .int .i32 0, .int .i32 0, .int .i32 0, .int .u8 0, .int .u8 0, .int .u8 0, .int .i32 0, .int .i32 0, .int .i32 0, .int .i32 0, .int .u8 0, .int .u8 0, .int .u8 0, .slice none 0 0, .int .u16 0, .int .u16 0] (stc t ao cap) rfl rfl rfl
    replace H6 : Loc _ _ _ [(w.heap.size, 34, stc .zero none 0), (g6, 34, stc t ao cap)] := H6
    have HSH6 := Lib.hid (shs_to HSH.out (below_of_grown q6))
    have HB6 := Lib.hid H6.be
    obtain ⟨w7, s7, H7, q7⟩ := H6.stA ty_state 0 rfl 0 (#[.int .u64 0, .int .u64 0, .int .i32 0, .int .i32 0, .int .i32 0, .int .i32 0, .int .u8 0, .int .u8 0, .int .u8 0, .int .i32 0, .int .i32 0, .int .i32 0, .int .i32 0, .int .u8 0, .int .u8 0, .int .u8 0, .slice none 0 0, .int .u16 0, .int .u16 0]) (cs' := stc .zero none 0) rfl (L' := [(w.heap.size, 34, stc .zero none 0), (g6, 34, stc t ao cap)]) rfl (Nat.le_of_ble_eq_true rfl) rfl rfl
    by_cases he : ec = 0
    · have hKS := KS.out he
      have hKO := KO.out he
      have hKF := KF.out he
      have HKS := Lib.hid hKS
      have HKO := Lib.hid hKO
      have HKF := Lib.hid hKF
      have HSP := Lib.hid (HTS.out he)
      have l6 := H6.ldO ty_u64 1 rfl 0 (v := .int .u64 (t.fr : Int)) rfl
      have hq0 : (ec != 0) = false := by rw [he]; rfl
      have hfr := HTF.out.2.1
      clear hKS hKO hKF KB KF KS KO HTS he
      by_cases h1 : told = f
      · have hq1 : ((told : Int) != (f : Int)) = false := by rw [h1]; exact bne_self_eq_false _
        by_cases h2 : t.fr = f
        · have hq2 : ((t.fr : Int) != (f : Int)) = false := by rw [h2]; exact bne_self_eq_false _
          have hn : ¬ (told ≠ f ∨ t.fr ≠ f) := by simp [h1, h2]
          have KS2 := Lib.hid (HKS.out hn)
          have KO2 := Lib.hid (HKO.out hn)
          have l7 := H6.ldA ty_state 1 rfl 0 (vs := stc t ao cap) rfl (Nat.le_of_ble_eq_true rfl)
          have KD := Lib.hid (of_c t ao cap w6 HSH6.out HTF.out.2 (btab_lo HT.out HB6.out))
          rw [HSP.out] at KD
          obtain ⟨dg, hdg⟩ : ∃ d, d = djn bas (ste t) := ⟨_, rfl⟩
          rw [← hdg] at KD KS2 KO2
          clear hdg hn HKS HKO HKF h1 h2 s7 H7 q7
          go_upto_region 11 with fail
          clear l6 hq0 hq1 hq2 s6
          go_wp2_with fail
          refine KD.out.mono ?_
          rintro E w8 ⟨rfl, hb8⟩
          have H8 := H6.to hb8
          have HSH8 := Lib.hid (shs_to HSH6.out hb8)
          clear hb8 l7 KD
          by_cases h3 : sum = dg
          · have hq3 : ((sum : Int) != (dg : Int)) = false := by rw [h3]; exact bne_self_eq_false _
            have hk := KO2.out (by simp [h3])
            have HK := Lib.hid hk
            have l8 := H8.ldA ty_state 1 rfl 0 (vs := stc t ao cap) rfl (Nat.le_of_ble_eq_true rfl)
            obtain ⟨w9, s9, H9, q9⟩ := H8.stA ty_state 0 rfl 0 (stc t ao cap) (cs' := stc t ao cap) rfl (L' := [(w.heap.size, 34, stc t ao cap), (g6, 34, stc t ao cap)]) rfl (Nat.le_of_ble_eq_true rfl) rfl rfl
            have H9' := Lib.hid H9
            have HSH9 := Lib.hid (shs_turn HSH8.out q9 (fun a e _ => by have h1 := HAO.out a e; have h2 := H0L.out; first | omega | (dsimp only at h2; omega)))
            clear hk H9 q9 H8 h3 KO2 KS2
            go_wp2
            refine bodyPost_ret (shut_kl 4 5 _ 0 _ Tryz.results72 (H9'.out.get 0 rfl) rfl rfl rfl) rfl ?_
            rw [HQ.out, HK.out]
            exact ⟨ao, cap, rfl, HSH9.out, HTF.out.2, HTF.out.1, fun a e _ => Nat.le_trans HLE (HAO.out a e), H9'.out.be⟩
          · have hq3 : ((sum : Int) != (dg : Int)) = true := by rw [bne_iff_ne]; omega
            have HK := Lib.hid (KS2.out h3)
            obtain ⟨w9, s9, H9, q9⟩ := H8.stA ty_state 0 rfl 0 (#[.int .u64 0, .int .u64 0, .int .i32 0, .int .i32 0, .int .i32 0, .int .i32 0, .int .u8 0, .int .u8 0, .int .u8 0, .int .i32 0, .int .i32 0, .int .i32 0, .int .i32 0, .int .u8 0, .int .u8 0, .int .u8 0, .slice none 0 0, .int .u16 0, .int .u16 0]) (cs' := stc .zero none 0) rfl (L' := [(w.heap.size, 34, stc .zero none 0), (g6, 34, stc t ao cap)]) rfl (Nat.le_of_ble_eq_true rfl) rfl rfl
            have H9' := Lib.hid H9
            clear H9 q9 H8 h3 KO2 KS2
            go_wp2
            refine bodyPost_ret (shut_kl 4 5 _ 9 _ Tryz.results72 (H9'.out.get 0 rfl) rfl rfl rfl) rfl ?_
            rw [HQ.out, HK.out]
            exact kl_none H9'.out.be 9
        · have hq2 : ((t.fr : Int) != (f : Int)) = true := by rw [bne_iff_ne]; omega
          have HK := Lib.hid (HKF.out (.inr h2))
          have H7' := Lib.hid H7
          clear h1 h2 H7 q7 HKS HKO HKF
          go_wp2
          refine bodyPost_ret (shut_kl 4 5 _ 4 _ Tryz.results72 (H7'.out.get 0 rfl) rfl rfl rfl) rfl ?_
          rw [HQ.out, HK.out]
          exact kl_none H7'.out.be 4
      · have hq1 : ((told : Int) != (f : Int)) = true := by rw [bne_iff_ne]; omega
        have HK := Lib.hid (HKF.out (.inl h1))
        have H7' := Lib.hid H7
        clear h1 H7 q7 HKS HKO HKF
        go_wp2
        refine bodyPost_ret (shut_kl 4 5 _ 4 _ Tryz.results72 (H7'.out.get 0 rfl) rfl rfl rfl) rfl ?_
        rw [HQ.out, HK.out]
        exact kl_none H7'.out.be 4
    · have hq0 : (ec != 0) = true := by rw [bne_iff_ne]; exact he
      have HK := Lib.hid (KB.out he)
      have H7' := Lib.hid H7
      clear he H7 q7 KB KF KS KO HTS
      go_wp2
      refine bodyPost_ret (shut_kl 4 5 _ ec _ Tryz.results72 (H7'.out.get 0 rfl) rfl rfl rfl) rfl ?_
      rw [HQ.out, HK.out]
      exact kl_none H7'.out.be ec
/-! What a file tells. -/
theorem kld_bad {l : List UInt8} {f : Nat} (h : fe l ≠ 0) : kld l f = (fe l, .zero) := if_pos h
theorem kld_long {l : List UInt8} {f : Nat} (h : fe l = 0) (h2 : 6 + (fp l).length ≠ l.length) : kld l f = (4, .zero) := by
  unfold kld; rw [if_neg (by simp [h]), if_pos h2]
theorem kld_ok {l : List UInt8} {f : Nat} (h : fe l = 0) (h2 : ¬ 6 + (fp l).length ≠ l.length) : kld l f = ktk (fp l) f := by
  unfold kld; rw [if_neg (by simp [h]), if_neg h2]
theorem krd_most {S : Nat → Prop} {w : World} {g q kc : Nat} {dv : Value} {ko : Option Addr} {p : Pw} (h : PwC S w g dv q ko kc p) (n : List UInt8) : (p.rd n).length ≤ 65536 := by
  unfold Pw.rd
  split
  · simp
  · unfold rd
    split
    · split
      · rename_i f hf
        exact h.dk.good.most f (fndK_some hf).1
      · simp
    · simp
set_option maxHeartbeats 4000000 in
theorem kload_c {S : Nat → Prop} {g q : Nat} {dv : Value} {kc : Nat} {ko : Option Addr} {p : Pw} (f : Nat) (w : World) (h : PwC S w g dv q ko kc p) (hf : f < 18446744073709551616) (ht : Tab w) (hb : BTab w) :
    Calls Tryz.prog 24 #[.pointer (some ⟨g, 0, none⟩), .int .u64 (f : Int)] w (KlPost w (klS p f) (klE p f)) := by
  have H0 := Loc.one w 34 (stc .zero none 0)
  have HT := Lib.hid ht
  have HB := Lib.hid hb
  have HP := Lib.hid h
  have HL := Lib.hid (krd_most h (cN f))
  have HS : Hid (klS p f = if p.rdc (cN f) = 0 then (kld (p.rd (cN f)) f).2 else .zero) := rfl
  have HC : Hid (klE p f = if p.rdc (cN f) = 0 then (kld (p.rd (cN f)) f).1 else (p.rdc (cN f) : Nat)) := rfl
  have KN : Hid (∀ W, Calls Tryz.prog 34 #[.int .u64 (f : Int)] W fun R w' => R = .returned (.string (str (cN f))) ∧ Below W.heap.size W w') := fun W => chk_c f W hf
  have KR : Hid (∀ W, PwC S W g dv q ko kc p → Calls Tryz.prog 70 #[.pointer (some ⟨g, 0, none⟩), .string (str (cN f))] W fun R w' => R = .returned (.tuple #[.string (str (p.rd (cN f))), .int .i64 (p.rdc (cN f) : Nat)]) ∧ Below W.heap.size W w') := fun W hW => pread_c (cN f) W hW (by rw [cN_len]; decide)
  obtain ⟨Q, hQ⟩ : ∃ Q, Q = KlPost w (klS p f) (klE p f) := ⟨_, rfl⟩
  rw [← hQ]
  have HQ := Lib.hid hQ
  obtain ⟨s, hs⟩ : ∃ s, s = p.rd (cN f) := ⟨_, rfl⟩
  obtain ⟨c, hc⟩ : ∃ c, c = p.rdc (cN f) := ⟨_, rfl⟩
  rw [← hs] at HL HS HC KR
  rw [← hc] at HS HC KR
  obtain ⟨nm, hnm⟩ : ∃ nm, nm = cN f := ⟨_, rfl⟩
  rw [← hnm] at KN KR
  clear hQ hs hc h ht hb hnm
  go_enter Tryz.func24, Tryz.ntmps24
  go_upto_region 1 with fail
  rw [show (#[.int .u64 0, .int .u64 0, .int .i32 0, .int .i32 0, .int .i32 0, .int .i32 0, .int .u8 0, .int .u8 0, .int .u8 0, .int .i32 0, .int .i32 0, .int .i32 0, .int .i32 0, .int .u8 0, .int .u8 0, .int .u8 0, .slice none 0 0, .int .u16 0, .int .u16 0] : Array Value) = stc .zero none 0 from rfl]
  generalize w.alloc (.cells (stc .zero none 0) 34) = wa at *
  go_wp2_with fail
  refine (KN.out wa).mono ?_
  rintro R w0 ⟨rfl, hb0⟩
  have H1 := H0.to hb0
  clear hb0 H0
  go_wp2_with fail
  refine (KR.out w0 (HP.out.new H1.be)).mono ?_
  rintro R w1 ⟨rfl, hb1⟩
  have H2 := H1.to hb1
  clear hb1 H1
  by_cases h0 : c = 0
  · have hS := HS.out
    have hC := HC.out
    rw [if_pos h0] at hS hC
    have HMC := Lib.hid (And.intro hS hC)
    clear hS hC HS HC
    subst h0
    have HFL := Lib.hid (fp_len s)
    go_wp2_with fail
    refine (next_c s _ (by have := HL.out; omega) (HT.out.lo H2.be)).mono ?_
    rintro R w2 ⟨rfl, hb2⟩
    have H3 := H2.to hb2
    clear hb2 H2
    obtain ⟨w4, s4, H4, -⟩ := H3.stA ty_state 0 rfl 0 (#[.int .u64 0, .int .u64 0, .int .i32 0, .int .i32 0, .int .i32 0, .int .i32 0, .int .u8 0, .int .u8 0, .int .u8 0, .int .i32 0, .int .i32 0, .int .i32 0, .int .i32 0, .int .u8 0, .int .u8 0, .int .u8 0, .slice none 0 0, .int .u16 0, .int .u16 0]) (cs' := stc .zero none 0) rfl (L' := [(w.heap.size, 34, stc .zero none 0)]) rfl (Nat.le_of_ble_eq_true rfl) rfl rfl
    have hsz := str_size s
    by_cases hfe : fe s = 0
    · have hq : (fe s != 0) = false := by rw [hfe]; rfl
      have hfu : fu s = 6 + (fp s).length := if_pos hfe
      have HFU := Lib.hid hfu
      clear hfu
      by_cases hn : 6 + (fp s).length = s.length
      · have hq1 : ((fu s : Int) != (s.length : Int)) = false := by rw [HFU.out, hn]; exact bne_self_eq_false _
        have hk := kld_ok (f := f) hfe (by simp [hn])
        rw [hk] at HMC
        have H3' := Lib.hid H3
        clear hk hn H4 s4 w4 hfe HFU
        obtain ⟨y, hy⟩ : ∃ y, y = fp s := ⟨_, rfl⟩
        rw [← hy] at HMC HFL ⊢
        obtain ⟨u, hu⟩ : ∃ u, u = fu s := ⟨_, rfl⟩
        rw [← hu] at hq1 ⊢
        obtain ⟨e0, he0⟩ : ∃ e, e = fe s := ⟨_, rfl⟩
        rw [← he0] at hq ⊢
        clear hy hu he0
        go_wp2_with fail
        refine (ktake_c y f _ HFL.out (btab_lo HB.out H3'.out.be)).mono ?_
        rintro R w5 ⟨ao, cap, rfl, hsh, hft, h8, hao, hb5⟩
        rw [← HMC.out.1] at hsh hft h8 hao ⊢
        rw [← HMC.out.2]
        obtain ⟨t, hts⟩ : ∃ t, t = klS p f := ⟨_, rfl⟩
        obtain ⟨e, hte⟩ : ∃ e, e = klE p f := ⟨_, rfl⟩
        rw [← hts] at HQ hsh hft h8 hao ⊢
        rw [← hte] at HQ ⊢
        have H5 := H3'.out.to hb5
        obtain ⟨w6, s6, H6, q6⟩ := H5.stA ty_state 0 rfl 0 (stc t ao cap) (cs' := stc t ao cap) rfl (L' := [(w.heap.size, 34, stc t ao cap)]) rfl (Nat.le_of_ble_eq_true rfl) rfl rfl
        have h3l := H3'.out.low (e := (w.heap.size, 34, stc .zero none 0)) (by simp)
        dsimp only at h3l
        have HF := Lib.hid (show KlPost w t e (.returned (.tuple #[sv t ao cap, .int .i64 e])) w6 from
          ⟨ao, cap, rfl, shs_turn hsh q6 (fun a e1 hl => by have := hao a e1 hl; omega), hft, h8, fun a e1 hl => Nat.le_trans H3'.out.size (hao a e1 hl), H6.be⟩)
        have H6' := Lib.hid H6
        clear hsh hft h8 hao hb5 q6 H5 H6 h3l H3' hts hte HMC
        go_wp2
        refine bodyPost_ret (shut_kl 4 5 _ e _ Tryz.results24 (H6'.out.get 0 rfl) rfl rfl rfl) rfl ?_
        rw [HQ.out]
        exact HF.out
      · have hq1 : ((fu s : Int) != (s.length : Int)) = true := by rw [HFU.out, bne_iff_ne]; omega
        have hk := kld_long (f := f) hfe hn
        rw [hk] at HMC
        have H4' := Lib.hid H4
        clear hk hn H4 H3 hfe HFU
        go_wp2
        refine bodyPost_ret (shut_kl 4 5 _ 4 _ Tryz.results24 (H4'.out.get 0 rfl) rfl rfl rfl) rfl ?_
        rw [HQ.out, HMC.out.1, HMC.out.2]
        exact kl_none H4'.out.be 4
    · have hq : (fe s != 0) = true := by rw [bne_iff_ne]; exact hfe
      have hk := kld_bad (f := f) hfe
      rw [hk] at HMC
      have H4' := Lib.hid H4
      clear hk H4 H3 hfe
      go_wp2
      refine bodyPost_ret (shut_kl 4 5 _ (fe s) _ Tryz.results24 (H4'.out.get 0 rfl) rfl rfl rfl) rfl ?_
      rw [HQ.out, HMC.out.1, HMC.out.2]
      exact kl_none H4'.out.be (fe s)
  · have hS := HS.out
    have hC := HC.out
    rw [if_neg h0] at hS hC
    have HMC := Lib.hid (And.intro hS hC)
    have hq : ((c : Int) != 0) = true := by rw [bne_iff_ne]; omega
    clear hS hC HS HC h0
    obtain ⟨w4, s4, H4, _⟩ := H2.stA ty_state 0 rfl 0 (#[.int .u64 0, .int .u64 0, .int .i32 0, .int .i32 0, .int .i32 0, .int .i32 0, .int .u8 0, .int .u8 0, .int .u8 0, .int .i32 0, .int .i32 0, .int .i32 0, .int .i32 0, .int .u8 0, .int .u8 0, .int .u8 0, .slice none 0 0, .int .u16 0, .int .u16 0]) (cs' := stc .zero none 0) rfl (L' := [(w.heap.size, 34, stc .zero none 0)]) rfl (Nat.le_of_ble_eq_true rfl) rfl rfl
    go_wp2
    refine bodyPost_ret (shut_kl 4 5 _ (c : Int) _ Tryz.results24 (H4.get 0 rfl) rfl rfl rfl) rfl ?_
    rw [HQ.out, HMC.out.1, HMC.out.2]
    exact kl_none H4.be _
end Go.Proofs.YtacgmadgkmcmoaaGreatDoor
