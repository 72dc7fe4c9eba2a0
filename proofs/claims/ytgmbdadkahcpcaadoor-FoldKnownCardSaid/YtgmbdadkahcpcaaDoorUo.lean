/- The document's frame: Step: contract. -/
import Derived.Test.YtgmbdadkahcpcaaDoorUn
namespace Go.Proofs.YtgmbdadkahcpcaaDoor
open Go.RowKit
set_option linter.unusedVariables false
set_option linter.unusedSimpArgs false
set_option maxRecDepth 20000

attribute [local go_sem ↓] ld_u64 ld_input ld_pair ld_player ld_state st_u64 st_player st_state
set_option maxHeartbeats 4000000 in
theorem refStep_c (s : St) (ao : Option Addr) (cap i j : Nat) (w : World) (hS : Shs w ao s.ss) (hn : ao = none → cap = 0) (hl : s.ss.length ≤ 1000000) (hf : s.fit) (hi : i < 256) (hj : j < 256) :
    Calls Tryd.prog 28 #[sv s ao cap, .agg #[.int .u8 (i : Int), .int .u8 (j : Int)]] w (StPost w.heap.size w (stp s i j)) := by
  have HS := Lib.hid hS
  have HN := Lib.hid hn
  have HFT := Lib.hid hf
  have HIJ := Lib.hid (show i < 256 ∧ j < 256 from ⟨hi, hj⟩)
  have H0 := Lib.hid (Loc.three w 30 47 30 (stc s ao cap) #[.int .u8 (i : Int), .int .u8 (j : Int)] zsc)
  obtain ⟨Q, hQ⟩ : ∃ Q : Ending → World → Prop, Q = StPost w.heap.size w (stp s i j) := ⟨_, rfl⟩
  rw [← hQ]
  have HQ : Hid (∀ E w', StPost w.heap.size w (stp s i j) E w' → Q E w') := fun E w' h => by rw [hQ]; exact h
  have HSZ : Hid ((((w.alloc (.cells (stc s ao cap) 30)).alloc (.cells #[.int .u8 (i : Int), .int .u8 (j : Int)] 47)).alloc (.cells zsc 30)).heap.size = w.heap.size + 3) := by show _ = _; simp
  clear hQ hS hn hf hi hj
  go_enter Tryd.func28, Tryd.ntmps28
  go_upto_region 1 with fail
  generalize ((w.alloc (.cells (stc s ao cap) 30)).alloc (.cells #[.int .u8 (i : Int), .int .u8 (j : Int)] 47)).alloc (.cells zsc 30) = wa at *
  have la1 := H0.out.ldA ty_state 0 rfl 0 (vs := (stc s ao cap)) rfl (Nat.le_of_ble_eq_true rfl)
  go_wp2_with fail
  refine (refCopy_c s ao cap wa (Shs_grown HS.out (grown_of_below (r := none) H0.out.be) (by simp)) HN.out hl).mono ?_
  rintro E w1 ⟨ao1, cap1, rfl, hown, hn1, hg1⟩
  clear la1
  have HR1 : Hid (Shr (w.heap.size + 3) w1 [w.heap.size, w.heap.size + 1, w.heap.size + 2] ao1 s.ss.length cap1 s.ss) := shr_of (by rw [← HSZ.out]; exact hown) rfl hn1 (by simp) (by have := hg1.size; rw [HSZ.out] at this; exact this)
  have HB1 := Lib.hid (below_of_grown hg1)
  clear hown hn1 hg1
  have Ha2 := H0.out.to HB1.out
  obtain ⟨wa4, sa5, Ha6, qa3⟩ := Ha2.stA ty_state 0 rfl 0 (stc s ao1 cap1) (cs' := stc s ao1 cap1) rfl (L' := [(w.heap.size, 30, stc s ao1 cap1), (w.heap.size + 1, 47, #[.int .u8 (i : Int), .int .u8 (j : Int)]), (w.heap.size + 2, 30, zsc)]) rfl (Nat.le_of_ble_eq_true rfl) rfl rfl
  have Sa7 := Lib.hid (HR1.out.turn (by simp) qa3)
  clear qa3 HR1
  go_upto_region 2 with fail
  clear HB1 H0 HS HN
  clear sa5
  obtain ⟨b, hb⟩ : ∃ b, b = decide (s.good = true ∧ i < 64 ∧ j < 64) := ⟨_, rfl⟩
  have HB := Lib.hid hb
  clear hb
  have HSw : Hid (Shs wa4 ao1 s.ss) := Sa7.out.shs HFT.out.2.2.2.2.1
  go_cut [21] (fun s21 wx => s21 = .bool (!b) ∧ Hid (wa4.grownBy wx none))
  case first =>
    have la8 := Ha6.ldA ty_state 0 rfl 0 (vs := (stc s ao1 cap1)) rfl (Nat.le_of_ble_eq_true rfl)
    have hck : chk s = if s.good = true then 0 else 4 := rfl
    have CC := Lib.hid (refCheck s ao1 cap1 wa4 HSw.out)
    cases hgd : s.good
    · rw [hgd] at hck
      rw [hck] at CC
      clear hck
      have hbf : b = false := by rw [HB.out]; exact decide_eq_false (fun h => by rw [hgd] at h; cases h.1)
      subst hbf
      go_wp2_with fail
      refine CC.out.mono ?_
      rintro E w2 ⟨rfl, hb2⟩
      go_wp2_with fail
      all_goals go_meet
      all_goals exact ⟨rfl, hb2⟩
    · rw [hgd] at hck
      rw [hck] at CC
      clear hck
      have hcz : (if true = true then (0 : Int) else 4) = 0 := rfl
      rw [hcz] at CC
      clear hcz
      go_wp2_with fail
      refine CC.out.mono ?_
      rintro E w2 ⟨rfl, hb2⟩
      clear CC
      clear la8
      have Ha9 := Ha6.to (below_of_grown hb2)
      have la10 := Ha9.ldO ty_input 1 rfl 0 (v := .int .u8 (i : Int)) rfl
      have la11 := Ha9.ldO ty_input 1 rfl 1 (v := .int .u8 (j : Int)) rfl
      have L0 := Lib.hid (I.refLegal i w2)
      have L1 := Lib.hid (I.refLegal j w2)
      by_cases h0 : i < 64
      · have e0 : decide (i < 64) = true := decide_eq_true h0
        rw [e0] at L0
        clear e0
        have h0' := Lib.hid h0
        clear h0
        go_wp2_with fail
        refine L0.out.mono ?_
        rintro E w3 ⟨rfl, rfl⟩
        by_cases h1 : j < 64
        · have e0 : decide (j < 64) = true := decide_eq_true h1
          rw [e0] at L1
          clear e0
          have hbt : b = true := by rw [HB.out]; exact decide_eq_true ⟨hgd, h0'.out, h1⟩
          subst hbt
          clear h1
          go_wp2_with fail
          refine L1.out.mono ?_
          rintro E w4 ⟨rfl, rfl⟩
          go_wp2_with fail
          all_goals go_meet
          all_goals exact ⟨rfl, hb2⟩
        · have e0 : decide (j < 64) = false := decide_eq_false h1
          rw [e0] at L1
          clear e0
          have hbt : b = false := by rw [HB.out]; exact decide_eq_false (fun h => h1 h.2.2)
          subst hbt
          clear h1
          go_wp2_with fail
          refine L1.out.mono ?_
          rintro E w4 ⟨rfl, rfl⟩
          go_wp2_with fail
          all_goals go_meet
          all_goals exact ⟨rfl, hb2⟩
      · have e0 : decide (i < 64) = false := decide_eq_false h0
        rw [e0] at L0
        clear e0
        have hbt : b = false := by rw [HB.out]; exact decide_eq_false (fun h => h0 h.2.1)
        subst hbt
        clear h0
        go_wp2_with fail
        refine L0.out.mono ?_
        rintro E w3 ⟨rfl, rfl⟩
        go_wp2_with fail
        all_goals go_meet
        all_goals exact ⟨rfl, hb2⟩
  case rest =>
  obtain ⟨rfl, HG2⟩ := hcut
  clear HSw
  have Ha8 := Ha6.to (below_of_grown HG2.out)
  have Sa9 := Lib.hid (Sa7.out.to (below_of_grown HG2.out))
  clear Sa7
  clear HG2
  cases b
  · have hs2 : stp s i j = s := if_neg (of_decide_eq_false HB.out.symm)
    rw [hs2] at HQ
    clear hs2
    have la10 := Ha8.ldA ty_state 0 rfl 0 (vs := (stc s ao1 cap1)) rfl (Nat.le_of_ble_eq_true rfl)
    obtain ⟨wa12, sa13, Ha14, qa11⟩ := Ha8.stA ty_state 2 rfl 0 (stc s ao1 cap1) (cs' := stc s ao1 cap1) rfl (L' := [(w.heap.size, 30, #[.int .u64 (s.fr : Int), .int .u64 (s.sd : Int), .int .i32 s.p.x, .int .i32 s.p.y, .int .i32 s.p.vx, .int .i32 s.p.vy, .int .u8 (s.p.h : Int), .int .u8 (s.p.c : Int), .int .u8 (s.p.f : Int), .int .i32 s.q.x, .int .i32 s.q.y, .int .i32 s.q.vx, .int .i32 s.q.vy, .int .u8 (s.q.h : Int), .int .u8 (s.q.c : Int), .int .u8 (s.q.f : Int), .slice ao1 s.ss.length cap1, .int .u16 (s.s0 : Int), .int .u16 (s.s1 : Int)]), (w.heap.size + 1, 47, #[.int .u8 (i : Int), .int .u8 (j : Int)]), (w.heap.size + 2, 30, stc s ao1 cap1)]) rfl (Nat.le_of_ble_eq_true rfl) rfl rfl
    have Sa15 := Lib.hid (Sa9.out.turn (by simp) qa11)
    clear qa11 Sa9
    go_wp2
    refine bodyPost_ret (v := .agg (stc s ao1 cap1)) (ret_struct Tryd.underlying30 ty_state _ 4 _ Tryd.results28 (Ha14.get 2 rfl) rfl rfl) rfl ?_
    exact HQ.out _ _ ⟨ao1, cap1, rfl, (Sa15.out.low (by omega)).less (by simp), Ha14.be⟩
  · rw [show (!true) = false from rfl]
    have hd := of_decide_eq_true HB.out.symm
    have hs2 : stp s i j = frame src s (inp i) (inp j) := if_pos hd
    rw [hs2] at HQ
    clear hs2 HB
    obtain ⟨hok, hph, hqh⟩ := st_ok_of hd.1 HFT.out
    have HOK := Lib.hid hok
    clear hd hok hph hqh
    have C0 : Hid (∀ W, Calls Tryd.prog 49 #[.agg (pcs s.p), .int .u8 (i : Int)] W fun E w' => E = .returned (.agg (pcs (one s.p (inp i)))) ∧ W.grownBy w' none) := fun W => one_c s.p i W HIJ.out.1 HOK.out.p
    have C1 : Hid (∀ W, Calls Tryd.prog 49 #[.agg (pcs s.q), .int .u8 (j : Int)] W fun E w' => E = .returned (.agg (pcs (one s.q (inp j)))) ∧ W.grownBy w' none) := fun W => one_c s.q j W HIJ.out.2 HOK.out.q
    have la10 := Ha8.ldA ty_player 0 rfl 2 (vs := (pcs s.p)) rfl (Nat.le_of_ble_eq_true rfl)
    have la11 := Ha8.ldO ty_input 1 rfl 0 (v := .int .u8 (i : Int)) rfl
    go_wp2_with fail
    refine (C0.out _).mono ?_
    rintro E w5 ⟨rfl, hg5⟩
    clear la11 la10
    have hb5 := below_of_grown hg5
    have Ha12 := Ha8.to hb5
    have Sa13 := Lib.hid (Sa9.out.to hb5)
    clear Sa9
    obtain ⟨wa15, sa16, Ha17, qa14⟩ := Ha12.stA ty_player 0 rfl 2 (pcs (one s.p (inp i))) (cs' := stc { s with p := one s.p (inp i) } ao1 cap1) rfl (L' := [(w.heap.size, 30, stc { s with p := one s.p (inp i) } ao1 cap1), (w.heap.size + 1, 47, #[.int .u8 (i : Int), .int .u8 (j : Int)]), (w.heap.size + 2, 30, zsc)]) rfl (Nat.le_of_ble_eq_true rfl) rfl rfl
    have Sa18 := Lib.hid (Sa13.out.turn (by simp) qa14)
    clear qa14 Sa13
    have la19 := Ha17.ldA ty_player 0 rfl 9 (vs := (pcs s.q)) rfl (Nat.le_of_ble_eq_true rfl)
    have la20 := Ha17.ldO ty_input 1 rfl 1 (v := .int .u8 (j : Int)) rfl
    go_wp2_with fail
    refine (C1.out _).mono ?_
    rintro E w6 ⟨rfl, hg6⟩
    clear la20 la19 sa16
    have hb6 := below_of_grown hg6
    have Ha21 := Ha17.to hb6
    have Sa22 := Lib.hid (Sa18.out.to hb6)
    clear Sa18
    obtain ⟨wa24, sa25, Ha26, qa23⟩ := Ha21.stA ty_player 0 rfl 9 (pcs (one s.q (inp j))) (cs' := stc { s with p := one s.p (inp i), q := one s.q (inp j) } ao1 cap1) rfl (L' := [(w.heap.size, 30, stc { s with p := one s.p (inp i), q := one s.q (inp j) } ao1 cap1), (w.heap.size + 1, 47, #[.int .u8 (i : Int), .int .u8 (j : Int)]), (w.heap.size + 2, 30, zsc)]) rfl (Nat.le_of_ble_eq_true rfl) rfl rfl
    have Sa27 := Lib.hid (Sa22.out.turn (by simp) qa23)
    clear qa23 Sa22
    clear C0 C1 hg5 hg6 hb5 hb6
    obtain ⟨X1, hX1⟩ : ∃ X : St, X = { s with p := one s.p (inp i), q := one s.q (inp j) } := ⟨_, rfl⟩
    have hs1 : X1.ss = s.ss := by rw [hX1]
    replace Ha26 : Loc w.heap.size w wa24 [(w.heap.size, 30, stc X1 ao1 cap1), (w.heap.size + 1, 47, #[.int .u8 (i : Int), .int .u8 (j : Int)]), (w.heap.size + 2, 30, zsc)] := by rw [hX1]; exact Ha26
    have HSR1 : Hid (Shr (w.heap.size + 3) wa24 [w.heap.size, w.heap.size + 1, w.heap.size + 2] ao1 X1.ss.length cap1 X1.ss) := by show Shr _ _ _ _ _ _ _; rw [hs1]; exact Sa27.out
    have HO1 : Hid X1.ok := by show X1.ok; rw [hX1]; exact ⟨one_ok HOK.out.p _, one_ok HOK.out.q _, HOK.out.n, HOK.out.ss, HOK.out.s0, HOK.out.s1⟩
    have HX1 := Lib.hid hX1
    clear hX1 hs1 Sa27
    have la28 := Ha26.ldA ty_state 0 rfl 0 (vs := (stc X1 ao1 cap1)) rfl (Nat.le_of_ble_eq_true rfl)
    have la29 := Ha26.ldA ty_pair 1 rfl 0 (vs := #[.int .u8 (i : Int), .int .u8 (j : Int)]) rfl (Nat.le_of_ble_eq_true rfl)
    have hlo : w.heap.size + 3 ≤ wa24.heap.size := HSR1.out.lo (w.heap.size + 2) (by simp)
    have C2 := Lib.hid (two_c X1 ao1 cap1 (w.heap.size + 3) i j wa24 HIJ.out.1 HIJ.out.2 HO1.out hlo (HSR1.out.less (by simp)))
    obtain ⟨X2, hX2⟩ : ∃ X, X = fire (fire X1 0 (inp i).f) 1 (inp j).f := ⟨_, rfl⟩
    rw [← hX2] at C2
    have HO2 : Hid X2.ok := by show X2.ok; rw [hX2]; exact fire_ok (fire_ok HO1.out (by decide) _) (by decide) _
    have HX2 := Lib.hid hX2
    clear hX2
    go_wp2_with fail
    refine C2.out.mono ?_
    rintro E w7 ⟨ao2, cap2, rfl, hR7, hb7⟩
    clear la29 la28 sa25
    have HR7 : Hid (Shr (w.heap.size + 3) w7 [w.heap.size, w.heap.size + 1, w.heap.size + 2] ao2 X2.ss.length cap2 X2.ss) := hR7.apart (by simp) (Nat.le_trans hlo hb7.size)
    have HL7 : Loc w.heap.size w w7 [(w.heap.size, 30, #[.int .u64 (X1.fr : Int), .int .u64 (X1.sd : Int), .int .i32 X1.p.x, .int .i32 X1.p.y, .int .i32 X1.p.vx, .int .i32 X1.p.vy, .int .u8 (X1.p.h : Int), .int .u8 (X1.p.c : Int), .int .u8 (X1.p.f : Int), .int .i32 X1.q.x, .int .i32 X1.q.y, .int .i32 X1.q.vx, .int .i32 X1.q.vy, .int .u8 (X1.q.h : Int), .int .u8 (X1.q.c : Int), .int .u8 (X1.q.f : Int), .slice ao1 X1.ss.length cap1, .int .u16 (X1.s0 : Int), .int .u16 (X1.s1 : Int)]), (w.heap.size + 1, 47, #[.int .u8 (i : Int), .int .u8 (j : Int)]), (w.heap.size + 2, 30, zsc)] := Ha26.toB hb7 (by omega) (by simp)
    clear hR7 hb7 C2 hlo HSR1
    obtain ⟨wa31, sa32, Ha33, qa30⟩ := HL7.stA ty_state 0 rfl 0 (stc X2 ao2 cap2) (cs' := stc X2 ao2 cap2) rfl (L' := [(w.heap.size, 30, stc X2 ao2 cap2), (w.heap.size + 1, 47, #[.int .u8 (i : Int), .int .u8 (j : Int)]), (w.heap.size + 2, 30, zsc)]) rfl (Nat.le_of_ble_eq_true rfl) rfl rfl
    have Sa34 := Lib.hid (HR7.out.turn (by simp) qa30)
    clear qa30 HR7
    obtain ⟨X3, hX3⟩ : ∃ X, X = three X2 := ⟨_, rfl⟩
    have C3 : Hid (∀ W, Calls Tryd.prog 51 #[.agg (stc X2 ao2 cap2)] W fun E w' => E = .returned (.agg (stc X3 ao2 cap2)) ∧ Below W.heap.size W w') := fun W => by rw [hX3]; exact three_c X2 ao2 cap2 W HO2.out.p HO2.out.q
    have HO3 : Hid (X3.ok ∧ X3.ss = X2.ss ∧ X3.sd = X2.sd) := by show _ ∧ _ ∧ _; rw [hX3]; exact ⟨three_ok HO2.out, (three_says HO2.out).2.2.2.2.1, (three_says HO2.out).2.1⟩
    have HX3 := Lib.hid hX3
    clear hX3
    have la35 := Ha33.ldA ty_state 0 rfl 0 (vs := (stc X2 ao2 cap2)) rfl (Nat.le_of_ble_eq_true rfl)
    go_wp2_with fail
    refine (C3.out _).mono ?_
    rintro E w8 ⟨rfl, hb8⟩
    clear la35 sa32
    have Ha36 := Ha33.to hb8
    have Sa37 := Lib.hid (Sa34.out.to hb8)
    clear Sa34
    obtain ⟨wa39, sa40, Ha41, qa38⟩ := Ha36.stA ty_state 0 rfl 0 (stc X3 ao2 cap2) (cs' := stc X3 ao2 cap2) rfl (L' := [(w.heap.size, 30, stc X3 ao2 cap2), (w.heap.size + 1, 47, #[.int .u8 (i : Int), .int .u8 (j : Int)]), (w.heap.size + 2, 30, zsc)]) rfl (Nat.le_of_ble_eq_true rfl) rfl rfl
    have Sa42 := Lib.hid (Sa37.out.turn (by simp) qa38)
    clear qa38 Sa37
    have HR9 : Hid (Shr (w.heap.size + 3) wa39 [w.heap.size, w.heap.size + 1, w.heap.size + 2] ao2 X3.ss.length cap2 X3.ss) := by show Shr _ _ _ _ _ _ _; rw [HO3.out.2.1]; exact Sa42.out
    clear Sa42 C3 hb8
    have la43 := Ha41.ldA ty_state 0 rfl 0 (vs := (stc X3 ao2 cap2)) rfl (Nat.le_of_ble_eq_true rfl)
    have hlo : w.heap.size + 3 ≤ wa39.heap.size := HR9.out.lo (w.heap.size + 2) (by simp)
    have C4 := Lib.hid (four_c X3 ao2 cap2 wa39 (HR9.out.shs (fun x hx => sh_fit (HO3.out.1.ss x hx))) HO3.out.1)
    obtain ⟨X4, hX4⟩ : ∃ X, X = four X3 := ⟨_, rfl⟩
    rw [← hX4] at C4
    have HO4 : Hid (X4.ok ∧ X4.sd = X3.sd) := by show _ ∧ _; rw [hX4]; exact ⟨(four_ok HO3.out.1).1, (four_keep _).sd⟩
    have HX4 := Lib.hid hX4
    clear hX4
    go_wp2_with fail
    refine C4.out.mono ?_
    rintro E w10 ⟨ao4, cap4, rfl, hR10, hb10⟩
    clear la43 sa40
    have HR10 : Hid (Shr (w.heap.size + 3) w10 [w.heap.size, w.heap.size + 1, w.heap.size + 2] ao4 X4.ss.length cap4 X4.ss) := (hR10.low hlo).apart (by simp) (Nat.le_trans hlo hb10.size)
    have HB10 := Lib.hid hb10
    clear hR10 hb10 C4 hlo HR9
    have Ha44 := Ha41.to HB10.out
    obtain ⟨wa46, sa47, Ha48, qa45⟩ := Ha44.stA ty_state 0 rfl 0 (stc X4 ao4 cap4) (cs' := stc X4 ao4 cap4) rfl (L' := [(w.heap.size, 30, stc X4 ao4 cap4), (w.heap.size + 1, 47, #[.int .u8 (i : Int), .int .u8 (j : Int)]), (w.heap.size + 2, 30, zsc)]) rfl (Nat.le_of_ble_eq_true rfl) rfl rfl
    have Sa49 := Lib.hid (HR10.out.turn (by simp) qa45)
    clear qa45 HR10
    have HSD : Hid (X4.sd < 18446744073709551616) := by show _ < _; rw [HO4.out.2, HO3.out.2.2, HX2.out, (fire_keep _ _ _).sd, (fire_keep _ _ _).sd, HX1.out]; exact HFT.out.2.1
    clear HB10
    obtain ⟨X5, hX5⟩ : ∃ X, X = back src X4 0 := ⟨_, rfl⟩
    have C5 : Hid (∀ W, Calls Tryd.prog 53 #[.agg (stc X4 ao4 cap4), .int .i64 0] W fun E w' => E = .returned (.agg (stc X5 ao4 cap4)) ∧ Below W.heap.size W w') := fun W => by rw [hX5]; exact five0_c X4 ao4 cap4 W HSD.out (in32_x HO4.out.1.q).1 (in32_x HO4.out.1.q).2
    have HO5 : Hid (X5.ok ∧ X5.sd < 18446744073709551616 ∧ X5.ss = X4.ss) := by show _ ∧ _ ∧ _; rw [hX5]; exact ⟨back_ok src_ok HO4.out.1 0, back_sd _ _ HSD.out, back_says _ _ _⟩
    have HX5 := Lib.hid hX5
    clear hX5
    have la50 := Ha48.ldA ty_state 0 rfl 0 (vs := (stc X4 ao4 cap4)) rfl (Nat.le_of_ble_eq_true rfl)
    go_wp2_with fail
    refine (C5.out _).mono ?_
    rintro E w11 ⟨rfl, hb11⟩
    clear la50 sa47
    have Ha51 := Ha48.to hb11
    have Sa52 := Lib.hid (Sa49.out.to hb11)
    clear Sa49
    obtain ⟨wa54, sa55, Ha56, qa53⟩ := Ha51.stA ty_state 0 rfl 0 (stc X5 ao4 cap4) (cs' := stc X5 ao4 cap4) rfl (L' := [(w.heap.size, 30, stc X5 ao4 cap4), (w.heap.size + 1, 47, #[.int .u8 (i : Int), .int .u8 (j : Int)]), (w.heap.size + 2, 30, zsc)]) rfl (Nat.le_of_ble_eq_true rfl) rfl rfl
    have Sa57 := Lib.hid (Sa52.out.turn (by simp) qa53)
    clear qa53 Sa52
    have HRx0 : Hid (Shr (w.heap.size + 3) wa54 [w.heap.size, w.heap.size + 1, w.heap.size + 2] ao4 X5.ss.length cap4 X5.ss) := by show Shr _ _ _ _ _ _ _; rw [HO5.out.2.2]; exact Sa57.out
    clear Sa57 C5 hb11
    obtain ⟨X6, hX6⟩ : ∃ X, X = back src X5 1 := ⟨_, rfl⟩
    have C6 : Hid (∀ W, Calls Tryd.prog 53 #[.agg (stc X5 ao4 cap4), .int .i64 1] W fun E w' => E = .returned (.agg (stc X6 ao4 cap4)) ∧ Below W.heap.size W w') := fun W => by rw [hX6]; exact five1_c X5 ao4 cap4 W HO5.out.2.1 (in32_x HO5.out.1.p).1 (in32_x HO5.out.1.p).2
    have HO6 : Hid (X6.ok ∧ X6.sd < 18446744073709551616 ∧ X6.ss = X5.ss) := by show _ ∧ _ ∧ _; rw [hX6]; exact ⟨back_ok src_ok HO5.out.1 1, back_sd _ _ HO5.out.2.1, back_says _ _ _⟩
    have HX6 := Lib.hid hX6
    clear hX6
    have la58 := Ha56.ldA ty_state 0 rfl 0 (vs := (stc X5 ao4 cap4)) rfl (Nat.le_of_ble_eq_true rfl)
    go_wp2_with fail
    refine (C6.out _).mono ?_
    rintro E w12 ⟨rfl, hb12⟩
    clear la58 sa55
    have Ha59 := Ha56.to hb12
    have Sa60 := Lib.hid (HRx0.out.to hb12)
    clear HRx0
    obtain ⟨wa62, sa63, Ha64, qa61⟩ := Ha59.stA ty_state 0 rfl 0 (stc X6 ao4 cap4) (cs' := stc X6 ao4 cap4) rfl (L' := [(w.heap.size, 30, stc X6 ao4 cap4), (w.heap.size + 1, 47, #[.int .u8 (i : Int), .int .u8 (j : Int)]), (w.heap.size + 2, 30, zsc)]) rfl (Nat.le_of_ble_eq_true rfl) rfl rfl
    have Sa65 := Lib.hid (Sa60.out.turn (by simp) qa61)
    clear qa61 Sa60
    have HRx1 : Hid (Shr (w.heap.size + 3) wa62 [w.heap.size, w.heap.size + 1, w.heap.size + 2] ao4 X6.ss.length cap4 X6.ss) := by show Shr _ _ _ _ _ _ _; rw [HO6.out.2.2]; exact Sa65.out
    clear Sa65 C6 hb12
    obtain ⟨fn, hfn⟩ : ∃ n : Nat, n = (X6.fr + 1) % 18446744073709551616 := ⟨_, rfl⟩
    have hfw := fr_next X6.fr
    rw [← hfn] at hfw
    have HFN := Lib.hid hfn
    clear hfn
    have la66 := Ha64.ldO ty_u64 0 rfl 0 (v := .int .u64 (X6.fr : Int)) rfl
    obtain ⟨wa68, sa69, Ha70, qa67⟩ := Ha64.stO ty_u64 0 rfl 0 (.int .u64 (fn : Int)) (cs' := stc { X6 with fr := fn } ao4 cap4) rfl (L' := [(w.heap.size, 30, stc { X6 with fr := fn } ao4 cap4), (w.heap.size + 1, 47, #[.int .u8 (i : Int), .int .u8 (j : Int)]), (w.heap.size + 2, 30, zsc)]) rfl (Nat.le_of_ble_eq_true rfl) rfl rfl
    have Sa71 := Lib.hid (HRx1.out.turn (by simp) qa67)
    clear qa67 HRx1
    have la72 := Ha70.ldA ty_state 0 rfl 0 (vs := (stc { X6 with fr := fn } ao4 cap4)) rfl (Nat.le_of_ble_eq_true rfl)
    obtain ⟨wa74, sa75, Ha76, qa73⟩ := Ha70.stA ty_state 2 rfl 0 (stc { X6 with fr := fn } ao4 cap4) (cs' := stc { X6 with fr := fn } ao4 cap4) rfl (L' := [(w.heap.size, 30, #[.int .u64 (fn : Int), .int .u64 (X6.sd : Int), .int .i32 X6.p.x, .int .i32 X6.p.y, .int .i32 X6.p.vx, .int .i32 X6.p.vy, .int .u8 (X6.p.h : Int), .int .u8 (X6.p.c : Int), .int .u8 (X6.p.f : Int), .int .i32 X6.q.x, .int .i32 X6.q.y, .int .i32 X6.q.vx, .int .i32 X6.q.vy, .int .u8 (X6.q.h : Int), .int .u8 (X6.q.c : Int), .int .u8 (X6.q.f : Int), .slice ao4 X6.ss.length cap4, .int .u16 (X6.s0 : Int), .int .u16 (X6.s1 : Int)]), (w.heap.size + 1, 47, #[.int .u8 (i : Int), .int .u8 (j : Int)]), (w.heap.size + 2, 30, stc { X6 with fr := fn } ao4 cap4)]) rfl (Nat.le_of_ble_eq_true rfl) rfl rfl
    have Sa77 := Lib.hid (Sa71.out.turn (by simp) qa73)
    clear qa73 Sa71
    go_wp2
    refine bodyPost_ret (v := .agg (stc { X6 with fr := fn } ao4 cap4)) (ret_struct Tryd.underlying30 ty_state _ 4 _ Tryd.results28 (Ha76.get 2 rfl) rfl rfl) rfl ?_
    have hfin : frame src s (inp i) (inp j) = { X6 with fr := fn } := by
      rw [HFN.out, HX6.out, HX5.out, HX4.out, HX3.out, HX2.out, HX1.out]; rfl
    rw [hfin] at HQ
    exact HQ.out _ _ ⟨ao4, cap4, rfl, (Sa77.out.low (by omega)).less (by simp), Ha76.be⟩
end Go.Proofs.YtgmbdadkahcpcaaDoor
