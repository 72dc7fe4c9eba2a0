/- StepRight: the walk. -/
import Derived.Test.YtldpmbklkbbnmaaDoorUv
import Derived.BigQuiet
namespace Go.Proofs.YtldpmbklkbbnmaaDoor
open Go.RowKit
set_option linter.unusedVariables false
set_option linter.unusedSimpArgs false
set_option maxRecDepth 20000

attribute [local go_sem ↓] ld_i32 ld_u8 ld_u16 ld_u64 ld_input ld_pair ld_player ld_shots ld_state st_state st_box st_player
theorem lbox_c (p : Pl) (w : World) :
    Calls Tryd.prog 18 #[.agg (pcs p)] w fun E w' => E = .returned (.agg #[.int .i32 p.x, .int .i32 p.y, .int .i32 4096, .int .i32 4096]) ∧ Below w.heap.size w w' := by
  have H0 := Lib.hid (Loc.two w 24 49 (pcs p) #[.int .i32 0, .int .i32 0, .int .i32 0, .int .i32 0])
  go_enter Tryd.func18, Tryd.ntmps18
  go_upto_region 1 with fail
  generalize (w.alloc (.cells (pcs p) 24)).alloc (.cells #[.int .i32 0, .int .i32 0, .int .i32 0, .int .i32 0] 49) = wa at *
  have l0 := H0.out.ldO ty_i32 0 rfl 0 (v := .int .i32 p.x) rfl
  have l1 := H0.out.ldO ty_i32 0 rfl 1 (v := .int .i32 p.y) rfl
  obtain ⟨w1, s1, H1, _⟩ := H0.out.stA ty_box 1 rfl 0 #[.int .i32 p.x, .int .i32 p.y, .int .i32 4096, .int .i32 4096] (cs' := #[.int .i32 p.x, .int .i32 p.y, .int .i32 4096, .int .i32 4096]) rfl rfl (Nat.le_refl _) rfl rfl
  go_wp2
  refine bodyPost_ret (v := .agg #[.int .i32 p.x, .int .i32 p.y, .int .i32 4096, .int .i32 4096]) (ret_struct Tryd.underlying49 ty_box _ 2 _ Tryd.results18 (H1.get 1 rfl) rfl rfl) rfl ⟨rfl, H1.be⟩
/-- How far two numbers of 32 bits are from each other. -/
def dist (a b : Int) : Int := if a - b < b - a then b - a else a - b
theorem lapart_c (a b : Int) (w : World) (ha : G.in32 a) (hb : G.in32 b) : Calls Tryd.prog 19 #[.int .i32 a, .int .i32 b] w fun E w' => E = .returned (.int .i64 (dist a b)) ∧ w = w' := by
  obtain ⟨a1, a2⟩ := ha
  obtain ⟨b1, b2⟩ := hb
  go_enter Tryd.func19, Tryd.ntmps19
  go_wp2
  all_goals go_ret
  all_goals refine ⟨congrArg (fun z => Ending.returned (.int .i64 z)) ?_, rfl⟩
  all_goals unfold dist
  all_goals (try split) <;> omega
section
variable {P : Program} {ops : Array Oper} {Q : Exit → Act → World → Prop} {md : Region.Mode} {S : World → Prop}
/-- Two operations may come up. -/
theorem wpTill_duo {i j n : Nat} {oi oj : Oper} {listed : Array Bool} {a : Act} {w : World} (hr : Region.ready md ops listed = [i, j]) (hi : ops[i]? = some oi) (hj : ops[j]? = some oj) (hS : S w)
    (h1 : ∀ K' : Act → World → Prop, (∀ a' w', wpTill P md ops Q S n (listed.setIfInBounds i true) a' w' → K' a' w') → if Region.wanted oi (yielded ops a.tmps) = true then Oper.wp P oi a w K' Q else K' (a.put oi.dst undef) w)
    (h2 : ∀ K' : Act → World → Prop, (∀ a' w', wpTill P md ops Q S n (listed.setIfInBounds j true) a' w' → K' a' w') → if Region.wanted oj (yielded ops a.tmps) = true then Oper.wp P oj a w K' Q else K' (a.put oj.dst undef) w) :
    wpTill P md ops Q S (n + 1) listed a w :=
  ⟨fun k => (by rw [hr] at k; cases k), fun _ => hS, fun l hl => by
    rw [hr] at hl
    rcases List.mem_cons.1 hl with rfl | hl
    · exact wpOp_step hi h1
    · rw [List.mem_singleton] at hl
      subst hl
      exact wpOp_step hj h2⟩
end
theorem dist_far (p q : Pl) : decide ((1024 : Int) < dist p.x q.x) = false ∧ decide ((1024 : Int) < dist p.y q.y) = false ↔ Nigh p q := by
  rw [decide_eq_false_iff_not, decide_eq_false_iff_not]
  unfold dist Nigh
  constructor
  · rintro ⟨h1, h2⟩
    split at h1 <;> split at h2 <;> omega
  · rintro ⟨⟨h1, h2⟩, h3, h4⟩
    constructor <;> split <;> omega
set_option maxHeartbeats 4000000 in
theorem law_right (s : St) (ao : Option Addr) (cap i j : Nat) (w : World) (hS : Shs w ao s.ss) (hn : ao = none → cap = 0) (hl : s.ss.length ≤ maxLen) (hf : s.fit) (hi : i < 256) (hj : j < 256) (hL : Laid w) :
    Calls Tryd.prog 6 #[sv s ao cap, .agg #[.int .u8 (i : Int), .int .u8 (j : Int)]] w fun E w' => E = .returned (.bool true) ∧ Below w.heap.size w w' := by
  have HS := Lib.hid hS
  have HN := Lib.hid hn
  have HFT := Lib.hid hf
  have HL := Lib.hid hL
  have HIJ := Lib.hid (show i < 256 ∧ j < 256 from ⟨hi, hj⟩)
  have H0 := Lib.hid (Loc.two w 30 33 (stc s ao cap) #[.int .u8 (i : Int), .int .u8 (j : Int)])
  have HML := Lib.hid hl
  clear hS hn hf hi hj hL hl
  go_enter Tryd.func6, Tryd.ntmps6
  go_upto_region 1 with fail
  generalize (w.alloc (.cells (stc s ao cap) 30)).alloc (.cells #[.int .u8 (i : Int), .int .u8 (j : Int)] 33) = wa at *
  have la1 := H0.out.ldO ty_shots 0 rfl 16 (v := .slice ao s.ss.length cap) rfl
  by_cases h100 : 100 < s.ss.length
  · have h100i : (100 : Int) < (s.ss.length : Int) := by omega
    go_wp2_with fail
    refine (awake_c wa (HL.out.to H0.out.be)).mono ?_
    rintro E w1 ⟨rfl, hb1⟩
    go_wp2
    go_ret
    exact ⟨rfl, (H0.out.to hb1).be⟩
  · have h100i : ¬ (100 : Int) < (s.ss.length : Int) := by omega
    go_upto_region 3 with fail
    clear la1
    have la2 := H0.out.ldA ty_state 0 rfl 0 (vs := (stc s ao cap)) rfl (Nat.le_of_ble_eq_true rfl)
    have la3 := H0.out.ldA ty_pair 1 rfl 0 (vs := #[.int .u8 (i : Int), .int .u8 (j : Int)]) rfl (Nat.le_of_ble_eq_true rfl)
    have HSa : Hid (Shs wa ao s.ss) := Shs_grown HS.out (grown_of_below (r := none) H0.out.be) (by simp)
    obtain ⟨T, hT⟩ : ∃ T, T = stp s i j := ⟨_, rfl⟩
    have CS := Lib.hid (step_c s ao cap i j wa HSa.out HN.out (by omega) HFT.out HIJ.out.1 HIJ.out.2 (HL.out.to H0.out.be).t (HL.out.to H0.out.be).f)
    rw [← hT] at CS
    have HTT := Lib.hid hT
    clear hT HSa
    go_wp2_with fail
    refine CS.out.mono ?_
    rintro E w5 ⟨ao2, cap2, rfl, hR5, hb5⟩
    clear CS
    clear la3 la2
    have HR5 := Lib.hid hR5
    have HB5 := Lib.hid hb5
    clear hR5 hb5
    have Ha4 := H0.out.to HB5.out
    obtain ⟨g4, wa5, za8, sa6, Ha7, hq4⟩ := Ha4.newA ty_state zsc (stc T ao2 cap2) rfl rfl rfl
    replace Ha7 : Loc _ _ _ [(w.heap.size, 30, #[.int .u64 (s.fr : Int), .int .u64 (s.sd : Int), .int .i32 s.p.x, .int .i32 s.p.y, .int .i32 s.p.vx, .int .i32 s.p.vy, .int .u8 (s.p.h : Int), .int .u8 (s.p.c : Int), .int .u8 (s.p.f : Int), .int .i32 s.q.x, .int .i32 s.q.y, .int .i32 s.q.vx, .int .i32 s.q.vy, .int .u8 (s.q.h : Int), .int .u8 (s.q.c : Int), .int .u8 (s.q.f : Int), .slice ao s.ss.length cap, .int .u16 (s.s0 : Int), .int .u16 (s.s1 : Int)]), (w.heap.size + 1, 33, #[.int .u8 (i : Int), .int .u8 (j : Int)]), (g4, 30, #[.int .u64 (T.fr : Int), .int .u64 (T.sd : Int), .int .i32 T.p.x, .int .i32 T.p.y, .int .i32 T.p.vx, .int .i32 T.p.vy, .int .u8 (T.p.h : Int), .int .u8 (T.p.c : Int), .int .u8 (T.p.f : Int), .int .i32 T.q.x, .int .i32 T.q.y, .int .i32 T.q.vx, .int .i32 T.q.vy, .int .u8 (T.q.h : Int), .int .u8 (T.q.c : Int), .int .u8 (T.q.f : Int), .slice ao2 T.ss.length cap2, .int .u16 (T.s0 : Int), .int .u16 (T.s1 : Int)])] := Ha7
    have HST : Hid (T.fit → Shs wa5 ao2 T.ss) := fun h => Shs_grown (HR5.out.shs h.2.2.2.2.1) hq4 (by simp)
    clear hq4 HR5 HB5 H0
    go_upto_region 4 with fail
    clear za8 sa6
    have HSs : Hid (Shs wa5 ao s.ss) := Shs_grown HS.out (grown_of_below (r := none) Ha7.be) (by simp)
    obtain ⟨b, hb⟩ : ∃ b, b = decide (s.good = true ∧ i < 64 ∧ j < 64) := ⟨_, rfl⟩
    have HB := Lib.hid hb
    clear hb
    go_cut [30] (fun s30 wx => s30 = .bool (!b) ∧ Hid (wa5.grownBy wx none))
    case first =>
      have la9 := Ha7.ldA ty_state 0 rfl 0 (vs := (stc s ao cap)) rfl (Nat.le_of_ble_eq_true rfl)
      have hck : chk s = if s.good = true then 0 else 4 := rfl
      have CC := Lib.hid (check_c s ao cap wa5 HSs.out HFT.out (HL.out.to Ha7.be).t)
      cases hgd : s.good
      · rw [hgd] at hck
        rw [hck] at CC
        clear hck
        have hbf : b = false := by rw [HB.out]; exact decide_eq_false (fun h => by rw [hgd] at h; cases h.1)
        subst hbf
        go_wp2_with fail
        refine CC.out.mono ?_
        rintro E w2 ⟨rfl, hb2⟩
        go_wp2_with fail
        all_goals go_meet
        all_goals exact ⟨rfl, hb2⟩
      · rw [hgd] at hck
        rw [hck] at CC
        clear hck
        have hcz : (if true = true then (0 : Int) else 4) = 0 := rfl
        rw [hcz] at CC
        clear hcz
        go_wp2_with fail
        refine CC.out.mono ?_
        rintro E w2 ⟨rfl, hb2⟩
        clear CC
        clear la9
        have Ha10 := Ha7.to (below_of_grown hb2)
        have la11 := Ha10.ldO ty_input 1 rfl 0 (v := .int .u8 (i : Int)) rfl
        have la12 := Ha10.ldO ty_input 1 rfl 1 (v := .int .u8 (j : Int)) rfl
        by_cases h0 : i < 64
        · have h0i : ¬ (63 : Int) < (i : Int) := by omega
          by_cases h1 : j < 64
          · have h1i : ¬ (63 : Int) < (j : Int) := by omega
            have hbt : b = true := by rw [HB.out]; exact decide_eq_true ⟨hgd, h0, h1⟩
            subst hbt
            clear h0 h1
            go_wp2_with fail
            all_goals go_meet
            all_goals refine ⟨?_, hb2⟩
            all_goals (first | rfl | (simp; omega))
          · have h1i : (63 : Int) < (j : Int) := by omega
            have hbt : b = false := by rw [HB.out]; exact decide_eq_false (fun h => h1 h.2.2)
            subst hbt
            clear h0 h1
            go_wp2_with fail
            all_goals go_meet
            all_goals refine ⟨?_, hb2⟩
            all_goals (first | rfl | (simp; omega))
        · have h0i : (63 : Int) < (i : Int) := by omega
          have hbt : b = false := by rw [HB.out]; exact decide_eq_false (fun h => h0 h.2.1)
          subst hbt
          clear h0
          go_wp2_with fail
          all_goals go_meet
          all_goals exact ⟨rfl, hb2⟩
    case rest =>
    obtain ⟨rfl, HG2⟩ := hcut
    have Ha9 := Ha7.to (below_of_grown HG2.out)
    have HSc : Hid (Shs wc ao s.ss) := Shs_grown HSs.out HG2.out (by simp)
    have HTc : Hid (T.fit → Shs wc ao2 T.ss) := fun h => Shs_grown (HST.out h) HG2.out (by simp)
    clear HSs HST HG2
    cases b
    · have hts : T = s := by rw [HTT.out]; exact if_neg (of_decide_eq_false HB.out.symm)
      subst hts
      have la10 := Ha9.ldA ty_state 0 rfl 0 (vs := (stc T ao cap)) rfl (Nat.le_of_ble_eq_true rfl)
      have la11 := Ha9.ldA ty_state 2 rfl 0 (vs := (stc T ao2 cap2)) rfl (Nat.le_of_ble_eq_true rfl)
      have hsm : same T T = true := by simp [same]
      have CM := Lib.hid (same_c T T ao ao2 cap cap2 wc HSc.out (HTc.out HFT.out) HML.out HML.out)
      rw [hsm] at CM
      clear hsm
      go_wp2_with fail
      refine CM.out.mono ?_
      rintro E w6 ⟨rfl, hb6⟩
      clear CM
      clear la11 la10
      have Ha12 := Ha9.to (below_of_grown hb6)
      go_wp2_with fail
      refine (awake_c w6 (HL.out.to Ha12.be)).mono ?_
      rintro E w7 ⟨rfl, hb7⟩
      go_wp2
      go_ret
      exact ⟨rfl, (Ha12.to hb7).be⟩
    · rw [show (!true) = false from rfl]
      have hd := of_decide_eq_true HB.out.symm
      have hts : T = frame src s (inp i) (inp j) := by rw [HTT.out]; exact if_pos hd
      obtain ⟨tg, tf, tfr, tl, tov, t0, t1, tn0, tn1⟩ := frame_right src_ok hd.1 HFT.out (inp i) (inp j)
      rw [← hts] at tg tf tfr tl tov t0 t1 tn0 tn1
      obtain ⟨so, _, _⟩ := st_ok_of hd.1 HFT.out
      obtain ⟨to', _, _⟩ := st_ok_of tg tf
      have HSO := Lib.hid so
      have HTO := Lib.hid to'
      have HTF := Lib.hid tf
      have HOV := Lib.hid tov
      have HT0 := Lib.hid t0
      have HT1 := Lib.hid t1
      have HN0 := Lib.hid tn0
      have HN1 := Lib.hid tn1
      have hck : chk T = 0 := by show (if T.good = true then (0 : Int) else 4) = 0; rw [tg]; rfl
      have CC := Lib.hid (check_c T ao2 cap2 wc (HTc.out tf) tf (HL.out.to Ha9.be).t)
      rw [hck] at CC
      clear hck hts hd so to' tf tov t0 t1 tn0 tn1 tg HB HTT
      obtain ⟨fr, hfr⟩ : ∃ n : Nat, n = (s.fr + 1) % 18446744073709551616 := ⟨_, rfl⟩
      have hfw := fr_next s.fr
      rw [← hfr] at hfw tfr
      have HFR := Lib.hid tfr
      clear hfr tfr
      have la10 := Ha9.ldA ty_state 2 rfl 0 (vs := (stc T ao2 cap2)) rfl (Nat.le_of_ble_eq_true rfl)
      go_wp2_with fail
      refine CC.out.mono ?_
      rintro E w6 ⟨rfl, hb6⟩
      clear CC
      clear la10
      have Ha11 := Ha9.to (below_of_grown hb6)
      have la12 := Ha11.ldO ty_u64 2 rfl 0 (v := .int .u64 (fr : Int)) (by show some (Value.int .u64 (T.fr : Int)) = _; rw [HFR.out])
      have la13 := Ha11.ldO ty_u64 0 rfl 0 (v := .int .u64 (s.fr : Int)) rfl
      have la14 := Ha11.ldO ty_shots 2 rfl 16 (v := .slice ao2 T.ss.length cap2) rfl
      have la15 := Ha11.ldO ty_shots 0 rfl 16 (v := .slice ao s.ss.length cap) rfl
      have tli : ¬ ((s.ss.length : Int) + 2 < (T.ss.length : Int)) := by omega
      go_upto_region 8 with fail
      clear tli hfw
      clear la15 la14 la13 la12
      have HZ := Lib.hid Ha11
      go_cut [78] (fun s78 wx => s78 = .bool false ∧ Hid (Below w6.heap.size w6 wx))
      case first =>
        have aa16 := HZ.out.onA ty_player 0 rfl 2 (vs := (pcs s.p)) rfl (Nat.le_of_ble_eq_true rfl)
        have aa17 := HZ.out.onA ty_player 0 rfl 9 (vs := (pcs s.q)) rfl (Nat.le_of_ble_eq_true rfl)
        have aa18 := HZ.out.onA ty_player 2 rfl 2 (vs := (pcs T.p)) rfl (Nat.le_of_ble_eq_true rfl)
        have aa19 := HZ.out.onA ty_player 2 rfl 9 (vs := (pcs T.q)) rfl (Nat.le_of_ble_eq_true rfl)
        have B0 : Hid (∀ W, Calls Tryd.prog 18 #[.agg (pcs s.p)] W fun E w' => E = .returned (.agg #[.int .i32 s.p.x, .int .i32 s.p.y, .int .i32 4096, .int .i32 4096]) ∧ Below W.heap.size W w') := fun W => lbox_c s.p W
        have B1 : Hid (∀ W, Calls Tryd.prog 18 #[.agg (pcs s.q)] W fun E w' => E = .returned (.agg #[.int .i32 s.q.x, .int .i32 s.q.y, .int .i32 4096, .int .i32 4096]) ∧ Below W.heap.size W w') := fun W => lbox_c s.q W
        have B2 : Hid (∀ W, Calls Tryd.prog 18 #[.agg (pcs T.p)] W fun E w' => E = .returned (.agg #[.int .i32 T.p.x, .int .i32 T.p.y, .int .i32 4096, .int .i32 4096]) ∧ Below W.heap.size W w') := fun W => lbox_c T.p W
        have B3 : Hid (∀ W, Calls Tryd.prog 18 #[.agg (pcs T.q)] W fun E w' => E = .returned (.agg #[.int .i32 T.q.x, .int .i32 T.q.y, .int .i32 4096, .int .i32 4096]) ∧ Below W.heap.size W w') := fun W => lbox_c T.q W
        have O0 : Hid (∀ W, Calls Tryd.prog 17 #[.agg #[.int .i32 s.p.x, .int .i32 s.p.y, .int .i32 4096, .int .i32 4096], .agg #[.int .i32 s.q.x, .int .i32 s.q.y, .int .i32 4096, .int .i32 4096]] W fun E w' => E = .returned (.bool (decide (OvP s.p s.q))) ∧ Below W.heap.size W w') := fun W => by
          rw [← ovr_box]
          exact G.over ⟨s.p.x, s.p.y, 4096, 4096⟩ ⟨s.q.x, s.q.y, 4096, 4096⟩ W ⟨(in32_x HSO.out.p).1, (in32_x HSO.out.p).2, box_in, box_in⟩ ⟨(in32_x HSO.out.q).1, (in32_x HSO.out.q).2, box_in, box_in⟩
        have O1 : Hid (∀ W, Calls Tryd.prog 17 #[.agg #[.int .i32 T.p.x, .int .i32 T.p.y, .int .i32 4096, .int .i32 4096], .agg #[.int .i32 T.q.x, .int .i32 T.q.y, .int .i32 4096, .int .i32 4096]] W fun E w' => E = .returned (.bool (decide (OvP T.p T.q))) ∧ Below W.heap.size W w') := fun W => by
          rw [← ovr_box]
          exact G.over ⟨T.p.x, T.p.y, 4096, 4096⟩ ⟨T.q.x, T.q.y, 4096, 4096⟩ W ⟨(in32_x HTO.out.p).1, (in32_x HTO.out.p).2, box_in, box_in⟩ ⟨(in32_x HTO.out.q).1, (in32_x HTO.out.q).2, box_in, box_in⟩
        have o0 := G.On.drew w6.heap.size w6
        by_cases hos : OvP s.p s.q
        · rw [decide_eq_true hos] at O0
          clear hos
          refine wp_region_till (S := fun w' => G.On w6.heap.size w6 w') (by kernel_rfl) ?_
          refine wpTill_take (i := 0) (v := ?vh0) rfl (by kernel_rfl) (fun _ _ _ h => h) (Or.inl ⟨by rfl, ?hyh0⟩) o0 ?resth0
          case hyh0 => (intro W hW; (try dsimp only at hW); go_simp; try with_reducible rfl)
          simp only [Act.put, List.setIfInBounds_toArray, List.set_cons_zero, List.set_cons_succ]
          refine wpTill_take (i := 1) (v := ?vh1) rfl (by kernel_rfl) (fun _ _ _ h => h) (Or.inl ⟨by rfl, ?hyh1⟩) o0 ?resth1
          case hyh1 => (intro W hW; (try dsimp only at hW); go_simp; try with_reducible rfl)
          simp only [Act.put, List.setIfInBounds_toArray, List.set_cons_zero, List.set_cons_succ]
          refine wpTill_take (i := 2) (v := ?vh2) rfl (by kernel_rfl) (fun _ _ _ h => h) (Or.inl ⟨by rfl, ?hyh2⟩) o0 ?resth2
          case hyh2 => (intro W hW; (try dsimp only at hW); go_simp; try with_reducible rfl)
          simp only [Act.put, List.setIfInBounds_toArray, List.set_cons_zero, List.set_cons_succ]
          refine wpTill_take (i := 4) (v := ?vh4) rfl (by kernel_rfl) (fun _ _ _ h => h) (Or.inl ⟨by rfl, ?hyh4⟩) o0 ?resth4
          case hyh4 => (intro W hW; (try dsimp only at hW); go_simp; try with_reducible rfl)
          simp only [Act.put, List.setIfInBounds_toArray, List.set_cons_zero, List.set_cons_succ]
          refine wpTill_take (i := 5) (v := ?vh5) rfl (by kernel_rfl) (fun _ _ _ h => h) (Or.inl ⟨by rfl, ?hyh5⟩) o0 ?resth5
          case hyh5 => (intro W hW; (try dsimp only at hW); go_simp; try with_reducible rfl)
          simp only [Act.put, List.setIfInBounds_toArray, List.set_cons_zero, List.set_cons_succ]
          refine wpTill_take (i := 6) (v := ?vh6) rfl (by kernel_rfl) (fun _ _ _ h => h) (Or.inl ⟨by rfl, ?hyh6⟩) o0 ?resth6
          case hyh6 => (intro W hW; (try dsimp only at hW); go_simp; try with_reducible rfl)
          simp only [Act.put, List.setIfInBounds_toArray, List.set_cons_zero, List.set_cons_succ]
          refine wpTill_run (i := 3) (by kernel_rfl) rfl o0 (fun K hK => ?_)
          go_simp
          go_at_call 18
          refine (B0.out _).mono ?_
          rintro E y3 ⟨rfl, hy3⟩
          have oy3 := G.on_step (wd := w6) o0 hy3
          refine hK _ _ ?_
          clear hK K
          refine wpTill_run (i := 7) (by kernel_rfl) rfl oy3 (fun K hK => ?_)
          go_simp
          go_at_call 18
          refine (B1.out _).mono ?_
          rintro E y7 ⟨rfl, hy7⟩
          have oy7 := G.on_step (wd := w6) oy3 hy7
          refine hK _ _ ?_
          clear hK K
          refine wpTill_run (i := 8) (by kernel_rfl) rfl oy7 (fun K hK => ?_)
          go_simp
          go_at_call 17
          refine (O0.out _).mono ?_
          rintro E y8 ⟨rfl, hy8⟩
          have oy8 := G.on_step (wd := w6) oy7 hy8
          refine hK _ _ ?_
          clear hK K
          refine wpTill_take (i := 9) (v := ?vh9) rfl (by kernel_rfl) (fun _ _ _ h => h) (Or.inl ⟨by rfl, ?hyh9⟩) oy8 ?resth9
          case hyh9 => (intro W hW; (try dsimp only at hW); go_simp; try with_reducible rfl)
          simp only [Act.put, List.setIfInBounds_toArray, List.set_cons_zero, List.set_cons_succ]
          refine wpTill_take (i := 10) (v := ?vh10) rfl (by kernel_rfl) (fun _ _ _ h => h) (Or.inl ⟨by rfl, ?hyh10⟩) oy8 ?resth10
          case hyh10 => (intro W hW; (try dsimp only at hW); go_simp; try with_reducible rfl)
          simp only [Act.put, List.setIfInBounds_toArray, List.set_cons_zero, List.set_cons_succ]
          refine wpTill_take (i := 11) (v := undef) rfl (by kernel_rfl) (fun _ _ _ h => h) (Or.inr ⟨by rfl, rfl⟩) oy8 ?resth11
          simp only [Act.put, List.setIfInBounds_toArray, List.set_cons_zero, List.set_cons_succ]
          refine wpTill_take (i := 12) (v := undef) rfl (by kernel_rfl) (fun _ _ _ h => h) (Or.inr ⟨by rfl, rfl⟩) oy8 ?resth12
          simp only [Act.put, List.setIfInBounds_toArray, List.set_cons_zero, List.set_cons_succ]
          refine wpTill_take (i := 13) (v := undef) rfl (by kernel_rfl) (fun _ _ _ h => h) (Or.inr ⟨by rfl, rfl⟩) oy8 ?resth13
          simp only [Act.put, List.setIfInBounds_toArray, List.set_cons_zero, List.set_cons_succ]
          refine wpTill_take (i := 15) (v := undef) rfl (by kernel_rfl) (fun _ _ _ h => h) (Or.inr ⟨by rfl, rfl⟩) oy8 ?resth15
          simp only [Act.put, List.setIfInBounds_toArray, List.set_cons_zero, List.set_cons_succ]
          refine wpTill_take (i := 16) (v := undef) rfl (by kernel_rfl) (fun _ _ _ h => h) (Or.inr ⟨by rfl, rfl⟩) oy8 ?resth16
          simp only [Act.put, List.setIfInBounds_toArray, List.set_cons_zero, List.set_cons_succ]
          refine wpTill_take (i := 17) (v := undef) rfl (by kernel_rfl) (fun _ _ _ h => h) (Or.inr ⟨by rfl, rfl⟩) oy8 ?resth17
          simp only [Act.put, List.setIfInBounds_toArray, List.set_cons_zero, List.set_cons_succ]
          refine wpTill_run (i := 14) (by kernel_rfl) rfl oy8 (fun K hK => ?_)
          go_simp
          refine hK _ _ ?_
          clear hK K
          refine wpTill_run (i := 18) (by kernel_rfl) rfl oy8 (fun K hK => ?_)
          go_simp
          refine hK _ _ ?_
          clear hK K
          refine wpTill_run (i := 19) (by kernel_rfl) rfl oy8 (fun K hK => ?_)
          go_simp
          refine hK _ _ ?_
          clear hK K
          refine wpTill_run (i := 20) (by kernel_rfl) rfl oy8 (fun K hK => ?_)
          go_simp
          refine hK _ _ ?_
          clear hK K
          refine wpTill_done (by kernel_rfl) ?_
          go_wp2_with fail
          all_goals go_meet
          all_goals exact ⟨rfl, by assumption⟩
        · rw [decide_eq_false (HOV.out hos)] at O1
          rw [decide_eq_false hos] at O0
          clear hos
          go_region_held3 (fun w' => G.On w6.heap.size w6 w') (first | with_reducible assumption) (first
            | (go_at_call 18; (with_reducible refine (B0.out _).mono ?_); rintro E w7 ⟨rfl, hb7⟩; have o7 := G.on_step (wd := w6) (by assumption) hb7)
            | (go_at_call 18; (with_reducible refine (B1.out _).mono ?_); rintro E w7 ⟨rfl, hb7⟩; have o7 := G.on_step (wd := w6) (by assumption) hb7)
            | (go_at_call 18; (with_reducible refine (B2.out _).mono ?_); rintro E w7 ⟨rfl, hb7⟩; have o7 := G.on_step (wd := w6) (by assumption) hb7)
            | (go_at_call 18; (with_reducible refine (B3.out _).mono ?_); rintro E w7 ⟨rfl, hb7⟩; have o7 := G.on_step (wd := w6) (by assumption) hb7)
            | (go_at_call 17; (with_reducible refine (O0.out _).mono ?_); rintro E w7 ⟨rfl, hb7⟩; have o7 := G.on_step (wd := w6) (by assumption) hb7)
            | (go_at_call 17; (with_reducible refine (O1.out _).mono ?_); rintro E w7 ⟨rfl, hb7⟩; have o7 := G.on_step (wd := w6) (by assumption) hb7))
          go_wp2_with fail
          all_goals go_meet
          all_goals exact ⟨rfl, by assumption⟩
      case rest =>
      obtain ⟨rfl, HB8⟩ := hcut
      have Ha16 := HZ.out.to HB8.out
      go_wp2
      go_loopw [6] (fun v wr => ∃ k : Nat, k ≤ 2 ∧ v = .int .i64 k ∧ Hid (Loc w.heap.size w wr [(w.heap.size, 30, stc s ao cap), (w.heap.size + 1, 33, #[.int .u8 (i : Int), .int .u8 (j : Int)]), (g4, 30, stc T ao2 cap2)])) (fun v _ => 2 - (intOf v).toNat)
      case atStart => exact ⟨0, by omega, rfl, Ha16⟩
      case round =>
        clear HB8 Ha16 HZ
        obtain ⟨k, hk, rfl, HR⟩ := hrel
        match k, hk with
        | 0, _ =>
          rw [show ((0 : Nat) : Int) = 0 from rfl]
          go_upto_region 13 with fail
          go_cut [7, 8] (fun s7 s8 wx => ∃ ga gb, s7 = .pointer (some ⟨ga, 0, none⟩) ∧ s8 = .pointer (some ⟨gb, 0, none⟩) ∧ Hid (Loc w.heap.size w wx [(w.heap.size, 30, stc s ao cap), (w.heap.size + 1, 33, #[.int .u8 (i : Int), .int .u8 (j : Int)]), (g4, 30, stc T ao2 cap2)]) ∧ Hid (Cells wx ga 24 (pcs s.p)) ∧ Hid (Cells wx gb 24 (pcs T.p)))
          case first =>
            have au01 := HR.out.onA ty_player 0 rfl 2 (vs := (pcs s.p)) rfl (Nat.le_of_ble_eq_true rfl)
            have au02 := HR.out.onA ty_player 2 rfl 2 (vs := (pcs T.p)) rfl (Nat.le_of_ble_eq_true rfl)
            have o0 := G.On.drew wr.heap.size wr
            have HA2 := (HR.out.more 24 zpl).more 24 zpl
            rw [show (wr.alloc (.cells zpl 24)).heap.size = wr.heap.size + 1 by simp] at HA2
            have oA : G.On wr.heap.size wr (wr.alloc (.cells zpl 24)).drew := (Below.alloc (Below.refl _ wr) (Nat.le_refl _) _).drew
            have oB : G.On wr.heap.size wr ((wr.alloc (.cells zpl 24)).alloc (.cells zpl 24)).drew := ((Below.alloc (Below.refl _ wr) (Nat.le_refl _) _).alloc (by simp) _).drew
            replace HA2 : Loc w.heap.size w ((wr.alloc (.cells zpl 24)).alloc (.cells zpl 24)).drew [(w.heap.size, 30, stc s ao cap), (w.heap.size + 1, 33, #[.int .u8 (i : Int), .int .u8 (j : Int)]), (g4, 30, stc T ao2 cap2), (wr.heap.size, 24, zpl), (wr.heap.size + 1, 24, zpl)] := HA2.drew
            obtain ⟨wSA, sSA, HSA, hqA⟩ := HA2.stA ty_player 3 rfl 0 (pcs s.p) (cs' := pcs s.p) rfl (L' := [(w.heap.size, 30, stc s ao cap), (w.heap.size + 1, 33, #[.int .u8 (i : Int), .int .u8 (j : Int)]), (g4, 30, stc T ao2 cap2), (wr.heap.size, 24, pcs s.p), (wr.heap.size + 1, 24, zpl)]) rfl (Nat.le_of_ble_eq_true rfl) rfl rfl
            obtain ⟨wTA, sTA, HTA, hrA⟩ := HSA.stA ty_player 4 rfl 0 (pcs T.p) (cs' := pcs T.p) rfl (L' := [(w.heap.size, 30, stc s ao cap), (w.heap.size + 1, 33, #[.int .u8 (i : Int), .int .u8 (j : Int)]), (g4, 30, stc T ao2 cap2), (wr.heap.size, 24, pcs s.p), (wr.heap.size + 1, 24, pcs T.p)]) rfl (Nat.le_of_ble_eq_true rfl) rfl rfl
            have oSA : G.On wr.heap.size wr wSA := Below.trans oB (grown_nb hqA (fun q e => by cases e; omega) oB.size)
            obtain ⟨wSB, sSB, HSB, hqB⟩ := HA2.stA ty_player 4 rfl 0 (pcs s.p) (cs' := pcs s.p) rfl (L' := [(w.heap.size, 30, stc s ao cap), (w.heap.size + 1, 33, #[.int .u8 (i : Int), .int .u8 (j : Int)]), (g4, 30, stc T ao2 cap2), (wr.heap.size, 24, zpl), (wr.heap.size + 1, 24, pcs s.p)]) rfl (Nat.le_of_ble_eq_true rfl) rfl rfl
            obtain ⟨wTB, sTB, HTB, hrB⟩ := HSB.stA ty_player 3 rfl 0 (pcs T.p) (cs' := pcs T.p) rfl (L' := [(w.heap.size, 30, stc s ao cap), (w.heap.size + 1, 33, #[.int .u8 (i : Int), .int .u8 (j : Int)]), (g4, 30, stc T ao2 cap2), (wr.heap.size, 24, pcs T.p), (wr.heap.size + 1, 24, pcs s.p)]) rfl (Nat.le_of_ble_eq_true rfl) rfl rfl
            have oSB : G.On wr.heap.size wr wSB := Below.trans oB (grown_nb hqB (fun q e => by cases e; omega) oB.size)
            refine wp_region_till (S := fun w' => G.On wr.heap.size wr w') (by kernel_rfl) ?_
            refine wpTill_take (i := 0) (v := ?vt00) rfl (by kernel_rfl) (fun _ _ _ h => h) (Or.inl ⟨by rfl, ?hyt00⟩) o0 ?restt00
            case hyt00 => (intro W hW; (try dsimp only at hW); go_simp; try with_reducible rfl)
            simp only [Act.put, List.setIfInBounds_toArray, List.set_cons_zero, List.set_cons_succ]
            refine wpTill_take (i := 1) (v := ?vt01) rfl (by kernel_rfl) (fun _ _ _ h => h) (Or.inl ⟨by rfl, ?hyt01⟩) o0 ?restt01
            case hyt01 => (intro W hW; (try dsimp only at hW); go_simp; try with_reducible rfl)
            simp only [Act.put, List.setIfInBounds_toArray, List.set_cons_zero, List.set_cons_succ]
            refine wpTill_take (i := 2) (v := ?vt02) rfl (by kernel_rfl) (fun _ _ _ h => h) (Or.inl ⟨by rfl, ?hyt02⟩) o0 ?restt02
            case hyt02 => (intro W hW; (try dsimp only at hW); go_simp; try with_reducible rfl)
            simp only [Act.put, List.setIfInBounds_toArray, List.set_cons_zero, List.set_cons_succ]
            refine wpTill_take (i := 3) (v := ?vt03) rfl (by kernel_rfl) (fun _ _ _ h => h) (Or.inl ⟨by rfl, ?hyt03⟩) o0 ?restt03
            case hyt03 => (intro W hW; (try dsimp only at hW); go_simp; try with_reducible rfl)
            simp only [Act.put, List.setIfInBounds_toArray, List.set_cons_zero, List.set_cons_succ]
            refine wpTill_take (i := 4) (v := ?vt04) rfl (by kernel_rfl) (fun _ _ _ h => h) (Or.inl ⟨by rfl, ?hyt04⟩) o0 ?restt04
            case hyt04 => (intro W hW; (try dsimp only at hW); go_simp; try with_reducible rfl)
            simp only [Act.put, List.setIfInBounds_toArray, List.set_cons_zero, List.set_cons_succ]
            refine wpTill_take (i := 5) (v := ?vt05) rfl (by kernel_rfl) (fun _ _ _ h => h) (Or.inl ⟨by rfl, ?hyt05⟩) o0 ?restt05
            case hyt05 => (intro W hW; (try dsimp only at hW); go_simp; try with_reducible rfl)
            simp only [Act.put, List.setIfInBounds_toArray, List.set_cons_zero, List.set_cons_succ]
            refine wpTill_take (i := 6) (v := ?vt06) rfl (by kernel_rfl) (fun _ _ _ h => h) (Or.inl ⟨by rfl, ?hyt06⟩) o0 ?restt06
            case hyt06 => (intro W hW; (try dsimp only at hW); go_simp; try with_reducible rfl)
            simp only [Act.put, List.setIfInBounds_toArray, List.set_cons_zero, List.set_cons_succ]
            refine wpTill_take (i := 7) (v := ?vt07) rfl (by kernel_rfl) (fun _ _ _ h => h) (Or.inl ⟨by rfl, ?hyt07⟩) o0 ?restt07
            case hyt07 => (intro W hW; (try dsimp only at hW); go_simp; try with_reducible rfl)
            simp only [Act.put, List.setIfInBounds_toArray, List.set_cons_zero, List.set_cons_succ]
            refine wpTill_duo (i := 8) (j := 9) (by kernel_rfl) rfl rfl o0 (fun K hK => ?_) (fun K hK => ?_)
            · go_simp
              refine hK _ _ ?_
              clear hK K
              refine wpTill_run (i := 9) (by kernel_rfl) rfl oA (fun K hK => ?_)
              go_simp
              refine hK _ _ ?_
              clear hK K
              refine wpTill_run (i := 10) (by kernel_rfl) rfl oB (fun K hK => ?_)
              go_simp
              refine hK _ _ ?_
              clear hK K
              refine wpTill_run (i := 11) (by kernel_rfl) rfl oSA (fun K hK => ?_)
              go_simp
              refine hK _ _ ?_
              clear hK K
              refine wpTill_done (by kernel_rfl) ?_
              go_wp2_with fail
              all_goals go_meet
              all_goals exact ⟨wr.heap.size, wr.heap.size + 1, rfl, rfl, HTA.drop 3 rfl, HTA.get 3 rfl, HTA.get 4 rfl⟩
            · go_simp
              refine hK _ _ ?_
              clear hK K
              refine wpTill_run (i := 8) (by kernel_rfl) rfl oA (fun K hK => ?_)
              go_simp
              refine hK _ _ ?_
              clear hK K
              refine wpTill_run (i := 10) (by kernel_rfl) rfl oB (fun K hK => ?_)
              go_simp
              refine hK _ _ ?_
              clear hK K
              refine wpTill_run (i := 11) (by kernel_rfl) rfl oSB (fun K hK => ?_)
              go_simp
              refine hK _ _ ?_
              clear hK K
              refine wpTill_done (by kernel_rfl) ?_
              go_wp2_with fail
              all_goals go_meet
              all_goals exact ⟨wr.heap.size + 1, wr.heap.size, rfl, rfl, HTB.drop 3 rfl, HTB.get 4 rfl, HTB.get 3 rfl⟩
          case rest =>
          obtain ⟨ga, gb, rfl, rfl, HR2, HCA, HCB⟩ := hcut
          clear HR
          have la0 := run_ldO ty_i32 HCA.out 0 (v := .int .i32 s.p.x) rfl
          have la1 := run_ldO ty_i32 HCA.out 1 (v := .int .i32 s.p.y) rfl
          have lb0 := run_ldO ty_i32 HCB.out 0 (v := .int .i32 T.p.x) rfl
          have lb1 := run_ldO ty_i32 HCB.out 1 (v := .int .i32 T.p.y) rfl
          have DX := Lib.hid (lapart_c s.p.x T.p.x wc (in32_x HSO.out.p).1 (in32_x HTO.out.p).1)
          have DY := Lib.hid (lapart_c s.p.y T.p.y wc (in32_x HSO.out.p).2 (in32_x HTO.out.p).2)
          have HFAR := Lib.hid (dist_far s.p T.p)
          generalize dist s.p.x T.p.x = dx at *
          generalize dist s.p.y T.p.y = dy at *
          go_upto_region 14 with fail
          go_cut [9] (fun s9 wx => ∃ far : Bool, s9 = .bool far ∧ wx = wc ∧ Hid (far = true → T.sd ≠ s.sd ∧ T.p.h = 100))
          case first =>
            by_cases hx : (1024 : Int) < dx
            · have hfar : T.sd ≠ s.sd ∧ T.p.h = 100 := (HN0.out.resolve_left (fun h => by have := (HFAR.out.2 h).1; simp [hx] at this))
              have HFA := Lib.hid hfar
              clear hfar
              go_wp2_with fail
              refine DX.out.mono ?_
              rintro E w7 ⟨rfl, rfl⟩
              go_wp2_with fail
              all_goals go_meet
              all_goals exact ⟨true, rfl, rfl, fun _ => HFA.out⟩
            · go_wp2_with fail
              refine DX.out.mono ?_
              rintro E w7 ⟨rfl, rfl⟩
              go_wp2_with fail
              refine DY.out.mono ?_
              rintro E w8 ⟨rfl, rfl⟩
              by_cases hy : (1024 : Int) < dy
              · have hfar : T.sd ≠ s.sd ∧ T.p.h = 100 := (HN0.out.resolve_left (fun h => by have := (HFAR.out.2 h).2; simp [hy] at this))
                have HFA := Lib.hid hfar
                clear hfar
                go_wp2_with fail
                all_goals go_meet
                all_goals exact ⟨true, rfl, rfl, fun _ => HFA.out⟩
              · go_wp2_with fail
                all_goals go_meet
                all_goals exact ⟨false, by simp [hx, hy] <;> omega, rfl, fun h => by cases h⟩
          case rest =>
          obtain ⟨far, rfl, rfl, HFA⟩ := hcut
          clear la0 la1 lb0 lb1 DX DY HFAR HCA
          go_upto_region 15 with fail
          have du01 := fun n => (HR2.out.to (below_drewN (Below.refl _ _) n)).ldO ty_u64 2 rfl 1 (v := .int .u64 (T.sd : Int)) rfl
          have du02 := fun n => (HR2.out.to (below_drewN (Below.refl _ _) n)).ldO ty_u64 0 rfl 1 (v := .int .u64 (s.sd : Int)) rfl
          have du03 := fun n => (HR2.out.to (below_drewN (Below.refl _ _) n)).ldO ty_u16 2 rfl 17 (v := .int .u16 (T.s0 : Int)) rfl
          have du04 := fun n => (HR2.out.to (below_drewN (Below.refl _ _) n)).ldO ty_u16 0 rfl 17 (v := .int .u16 (s.s0 : Int)) rfl
          have hsc : ¬ ((T.s0 : Int) < (s.s0 : Int)) := by have := HT0.out; omega
          cases far
          · go_quiet (fail)
            go_wp2
            go_roundw
            case rel => exact ⟨1, by omega, by go_num, HR2.out.to (below_drewN (Below.refl _ _) _)⟩
            case measure => simp [intOf]
          · obtain ⟨hsd, hh⟩ := HFA.out rfl
            have hsdi : ((T.sd : Int) == (s.sd : Int)) = false := beq_eq_false_iff_ne.2 (by omega)
            have db := fun n => run_ldO ty_u8 (HCB.out.below (below_drewN (Below.refl _ _) n) HCB.out.lt) 4 (v := .int .u8 100) (by show some (Value.int .u8 (T.p.h : Int)) = _; rw [hh]; rfl)
            clear hsd hh
            go_quiet (fail)
            go_wp2
            go_roundw
            case rel => exact ⟨1, by omega, by go_num, HR2.out.to (below_drewN (Below.refl _ _) _)⟩
            case measure => simp [intOf]
        | 1, _ =>
          rw [show ((1 : Nat) : Int) = 1 from rfl]
          go_upto_region 13 with fail
          go_cut [7, 8] (fun s7 s8 wx => ∃ ga gb, s7 = .pointer (some ⟨ga, 0, none⟩) ∧ s8 = .pointer (some ⟨gb, 0, none⟩) ∧ Hid (Loc w.heap.size w wx [(w.heap.size, 30, stc s ao cap), (w.heap.size + 1, 33, #[.int .u8 (i : Int), .int .u8 (j : Int)]), (g4, 30, stc T ao2 cap2)]) ∧ Hid (Cells wx ga 24 (pcs s.q)) ∧ Hid (Cells wx gb 24 (pcs T.q)))
          case first =>
            have au11 := HR.out.onA ty_player 0 rfl 9 (vs := (pcs s.q)) rfl (Nat.le_of_ble_eq_true rfl)
            have au12 := HR.out.onA ty_player 2 rfl 9 (vs := (pcs T.q)) rfl (Nat.le_of_ble_eq_true rfl)
            have o0 := G.On.drew wr.heap.size wr
            have HA2 := (HR.out.more 24 zpl).more 24 zpl
            rw [show (wr.alloc (.cells zpl 24)).heap.size = wr.heap.size + 1 by simp] at HA2
            have oA : G.On wr.heap.size wr (wr.alloc (.cells zpl 24)).drew := (Below.alloc (Below.refl _ wr) (Nat.le_refl _) _).drew
            have oB : G.On wr.heap.size wr ((wr.alloc (.cells zpl 24)).alloc (.cells zpl 24)).drew := ((Below.alloc (Below.refl _ wr) (Nat.le_refl _) _).alloc (by simp) _).drew
            replace HA2 : Loc w.heap.size w ((wr.alloc (.cells zpl 24)).alloc (.cells zpl 24)).drew [(w.heap.size, 30, stc s ao cap), (w.heap.size + 1, 33, #[.int .u8 (i : Int), .int .u8 (j : Int)]), (g4, 30, stc T ao2 cap2), (wr.heap.size, 24, zpl), (wr.heap.size + 1, 24, zpl)] := HA2.drew
            obtain ⟨wSA, sSA, HSA, hqA⟩ := HA2.stA ty_player 3 rfl 0 (pcs s.q) (cs' := pcs s.q) rfl (L' := [(w.heap.size, 30, stc s ao cap), (w.heap.size + 1, 33, #[.int .u8 (i : Int), .int .u8 (j : Int)]), (g4, 30, stc T ao2 cap2), (wr.heap.size, 24, pcs s.q), (wr.heap.size + 1, 24, zpl)]) rfl (Nat.le_of_ble_eq_true rfl) rfl rfl
            obtain ⟨wTA, sTA, HTA, hrA⟩ := HSA.stA ty_player 4 rfl 0 (pcs T.q) (cs' := pcs T.q) rfl (L' := [(w.heap.size, 30, stc s ao cap), (w.heap.size + 1, 33, #[.int .u8 (i : Int), .int .u8 (j : Int)]), (g4, 30, stc T ao2 cap2), (wr.heap.size, 24, pcs s.q), (wr.heap.size + 1, 24, pcs T.q)]) rfl (Nat.le_of_ble_eq_true rfl) rfl rfl
            have oSA : G.On wr.heap.size wr wSA := Below.trans oB (grown_nb hqA (fun q e => by cases e; omega) oB.size)
            obtain ⟨wSB, sSB, HSB, hqB⟩ := HA2.stA ty_player 4 rfl 0 (pcs s.q) (cs' := pcs s.q) rfl (L' := [(w.heap.size, 30, stc s ao cap), (w.heap.size + 1, 33, #[.int .u8 (i : Int), .int .u8 (j : Int)]), (g4, 30, stc T ao2 cap2), (wr.heap.size, 24, zpl), (wr.heap.size + 1, 24, pcs s.q)]) rfl (Nat.le_of_ble_eq_true rfl) rfl rfl
            obtain ⟨wTB, sTB, HTB, hrB⟩ := HSB.stA ty_player 3 rfl 0 (pcs T.q) (cs' := pcs T.q) rfl (L' := [(w.heap.size, 30, stc s ao cap), (w.heap.size + 1, 33, #[.int .u8 (i : Int), .int .u8 (j : Int)]), (g4, 30, stc T ao2 cap2), (wr.heap.size, 24, pcs T.q), (wr.heap.size + 1, 24, pcs s.q)]) rfl (Nat.le_of_ble_eq_true rfl) rfl rfl
            have oSB : G.On wr.heap.size wr wSB := Below.trans oB (grown_nb hqB (fun q e => by cases e; omega) oB.size)
            refine wp_region_till (S := fun w' => G.On wr.heap.size wr w') (by kernel_rfl) ?_
            refine wpTill_take (i := 0) (v := ?vt10) rfl (by kernel_rfl) (fun _ _ _ h => h) (Or.inl ⟨by rfl, ?hyt10⟩) o0 ?restt10
            case hyt10 => (intro W hW; (try dsimp only at hW); go_simp; try with_reducible rfl)
            simp only [Act.put, List.setIfInBounds_toArray, List.set_cons_zero, List.set_cons_succ]
            refine wpTill_take (i := 1) (v := ?vt11) rfl (by kernel_rfl) (fun _ _ _ h => h) (Or.inl ⟨by rfl, ?hyt11⟩) o0 ?restt11
            case hyt11 => (intro W hW; (try dsimp only at hW); go_simp; try with_reducible rfl)
            simp only [Act.put, List.setIfInBounds_toArray, List.set_cons_zero, List.set_cons_succ]
            refine wpTill_take (i := 2) (v := ?vt12) rfl (by kernel_rfl) (fun _ _ _ h => h) (Or.inl ⟨by rfl, ?hyt12⟩) o0 ?restt12
            case hyt12 => (intro W hW; (try dsimp only at hW); go_simp; try with_reducible rfl)
            simp only [Act.put, List.setIfInBounds_toArray, List.set_cons_zero, List.set_cons_succ]
            refine wpTill_take (i := 3) (v := ?vt13) rfl (by kernel_rfl) (fun _ _ _ h => h) (Or.inl ⟨by rfl, ?hyt13⟩) o0 ?restt13
            case hyt13 => (intro W hW; (try dsimp only at hW); go_simp; try with_reducible rfl)
            simp only [Act.put, List.setIfInBounds_toArray, List.set_cons_zero, List.set_cons_succ]
            refine wpTill_take (i := 4) (v := ?vt14) rfl (by kernel_rfl) (fun _ _ _ h => h) (Or.inl ⟨by rfl, ?hyt14⟩) o0 ?restt14
            case hyt14 => (intro W hW; (try dsimp only at hW); go_simp; try with_reducible rfl)
            simp only [Act.put, List.setIfInBounds_toArray, List.set_cons_zero, List.set_cons_succ]
            refine wpTill_take (i := 5) (v := ?vt15) rfl (by kernel_rfl) (fun _ _ _ h => h) (Or.inl ⟨by rfl, ?hyt15⟩) o0 ?restt15
            case hyt15 => (intro W hW; (try dsimp only at hW); go_simp; try with_reducible rfl)
            simp only [Act.put, List.setIfInBounds_toArray, List.set_cons_zero, List.set_cons_succ]
            refine wpTill_take (i := 6) (v := ?vt16) rfl (by kernel_rfl) (fun _ _ _ h => h) (Or.inl ⟨by rfl, ?hyt16⟩) o0 ?restt16
            case hyt16 => (intro W hW; (try dsimp only at hW); go_simp; try with_reducible rfl)
            simp only [Act.put, List.setIfInBounds_toArray, List.set_cons_zero, List.set_cons_succ]
            refine wpTill_take (i := 7) (v := ?vt17) rfl (by kernel_rfl) (fun _ _ _ h => h) (Or.inl ⟨by rfl, ?hyt17⟩) o0 ?restt17
            case hyt17 => (intro W hW; (try dsimp only at hW); go_simp; try with_reducible rfl)
            simp only [Act.put, List.setIfInBounds_toArray, List.set_cons_zero, List.set_cons_succ]
            refine wpTill_duo (i := 8) (j := 9) (by kernel_rfl) rfl rfl o0 (fun K hK => ?_) (fun K hK => ?_)
            · go_simp
              refine hK _ _ ?_
              clear hK K
              refine wpTill_run (i := 9) (by kernel_rfl) rfl oA (fun K hK => ?_)
              go_simp
              refine hK _ _ ?_
              clear hK K
              refine wpTill_run (i := 10) (by kernel_rfl) rfl oB (fun K hK => ?_)
              go_simp
              refine hK _ _ ?_
              clear hK K
              refine wpTill_run (i := 11) (by kernel_rfl) rfl oSA (fun K hK => ?_)
              go_simp
              refine hK _ _ ?_
              clear hK K
              refine wpTill_done (by kernel_rfl) ?_
              go_wp2_with fail
              all_goals go_meet
              all_goals exact ⟨wr.heap.size, wr.heap.size + 1, rfl, rfl, HTA.drop 3 rfl, HTA.get 3 rfl, HTA.get 4 rfl⟩
            · go_simp
              refine hK _ _ ?_
              clear hK K
              refine wpTill_run (i := 8) (by kernel_rfl) rfl oA (fun K hK => ?_)
              go_simp
              refine hK _ _ ?_
              clear hK K
              refine wpTill_run (i := 10) (by kernel_rfl) rfl oB (fun K hK => ?_)
              go_simp
              refine hK _ _ ?_
              clear hK K
              refine wpTill_run (i := 11) (by kernel_rfl) rfl oSB (fun K hK => ?_)
              go_simp
              refine hK _ _ ?_
              clear hK K
              refine wpTill_done (by kernel_rfl) ?_
              go_wp2_with fail
              all_goals go_meet
              all_goals exact ⟨wr.heap.size + 1, wr.heap.size, rfl, rfl, HTB.drop 3 rfl, HTB.get 4 rfl, HTB.get 3 rfl⟩
          case rest =>
          obtain ⟨ga, gb, rfl, rfl, HR2, HCA, HCB⟩ := hcut
          clear HR
          have la0 := run_ldO ty_i32 HCA.out 0 (v := .int .i32 s.q.x) rfl
          have la1 := run_ldO ty_i32 HCA.out 1 (v := .int .i32 s.q.y) rfl
          have lb0 := run_ldO ty_i32 HCB.out 0 (v := .int .i32 T.q.x) rfl
          have lb1 := run_ldO ty_i32 HCB.out 1 (v := .int .i32 T.q.y) rfl
          have DX := Lib.hid (lapart_c s.q.x T.q.x wc (in32_x HSO.out.q).1 (in32_x HTO.out.q).1)
          have DY := Lib.hid (lapart_c s.q.y T.q.y wc (in32_x HSO.out.q).2 (in32_x HTO.out.q).2)
          have HFAR := Lib.hid (dist_far s.q T.q)
          generalize dist s.q.x T.q.x = dx at *
          generalize dist s.q.y T.q.y = dy at *
          go_upto_region 14 with fail
          go_cut [9] (fun s9 wx => ∃ far : Bool, s9 = .bool far ∧ wx = wc ∧ Hid (far = true → T.sd ≠ s.sd ∧ T.q.h = 100))
          case first =>
            by_cases hx : (1024 : Int) < dx
            · have hfar : T.sd ≠ s.sd ∧ T.q.h = 100 := (HN1.out.resolve_left (fun h => by have := (HFAR.out.2 h).1; simp [hx] at this))
              have HFA := Lib.hid hfar
              clear hfar
              go_wp2_with fail
              refine DX.out.mono ?_
              rintro E w7 ⟨rfl, rfl⟩
              go_wp2_with fail
              all_goals go_meet
              all_goals exact ⟨true, rfl, rfl, fun _ => HFA.out⟩
            · go_wp2_with fail
              refine DX.out.mono ?_
              rintro E w7 ⟨rfl, rfl⟩
              go_wp2_with fail
              refine DY.out.mono ?_
              rintro E w8 ⟨rfl, rfl⟩
              by_cases hy : (1024 : Int) < dy
              · have hfar : T.sd ≠ s.sd ∧ T.q.h = 100 := (HN1.out.resolve_left (fun h => by have := (HFAR.out.2 h).2; simp [hy] at this))
                have HFA := Lib.hid hfar
                clear hfar
                go_wp2_with fail
                all_goals go_meet
                all_goals exact ⟨true, rfl, rfl, fun _ => HFA.out⟩
              · go_wp2_with fail
                all_goals go_meet
                all_goals exact ⟨false, by simp [hx, hy] <;> omega, rfl, fun h => by cases h⟩
          case rest =>
          obtain ⟨far, rfl, rfl, HFA⟩ := hcut
          clear la0 la1 lb0 lb1 DX DY HFAR HCA
          go_upto_region 15 with fail
          have du11 := fun n => (HR2.out.to (below_drewN (Below.refl _ _) n)).ldO ty_u64 2 rfl 1 (v := .int .u64 (T.sd : Int)) rfl
          have du12 := fun n => (HR2.out.to (below_drewN (Below.refl _ _) n)).ldO ty_u64 0 rfl 1 (v := .int .u64 (s.sd : Int)) rfl
          have du13 := fun n => (HR2.out.to (below_drewN (Below.refl _ _) n)).ldO ty_u16 2 rfl 18 (v := .int .u16 (T.s1 : Int)) rfl
          have du14 := fun n => (HR2.out.to (below_drewN (Below.refl _ _) n)).ldO ty_u16 0 rfl 18 (v := .int .u16 (s.s1 : Int)) rfl
          have hsc : ¬ ((T.s1 : Int) < (s.s1 : Int)) := by have := HT1.out; omega
          cases far
          · go_quiet (fail)
            go_wp2
            go_roundw
            case rel => exact ⟨2, by omega, by go_num, HR2.out.to (below_drewN (Below.refl _ _) _)⟩
            case measure => simp [intOf]
          · obtain ⟨hsd, hh⟩ := HFA.out rfl
            have hsdi : ((T.sd : Int) == (s.sd : Int)) = false := beq_eq_false_iff_ne.2 (by omega)
            have db := fun n => run_ldO ty_u8 (HCB.out.below (below_drewN (Below.refl _ _) n) HCB.out.lt) 4 (v := .int .u8 100) (by show some (Value.int .u8 (T.q.h : Int)) = _; rw [hh]; rfl)
            clear hsd hh
            go_quiet (fail)
            go_wp2
            go_roundw
            case rel => exact ⟨2, by omega, by go_num, HR2.out.to (below_drewN (Below.refl _ _) _)⟩
            case measure => simp [intOf]
        | 2, _ =>
          rw [show ((2 : Nat) : Int) = 2 from rfl]
          go_wp2_with fail
          refine (awake_c wr (HL.out.to HR.out.be)).mono ?_
          rintro E w9 ⟨rfl, hb9⟩
          go_wp2
          go_ret
          exact ⟨rfl, (HR.out.to hb9).be⟩
end Go.Proofs.YtldpmbklkbbnmaaDoor
