/- Texts of the walk. -/
import Derived.Test.YtgeaacabpnepmaaGreatDoorLq8
/- An opening, whole. -/
namespace Go.Proofs.YtgeaacabpnepmaaGreatDoor
open Go.RowKit
set_option linter.unusedVariables false
set_option linter.unusedSimpArgs false
set_option maxRecDepth 20000

theorem op_ans (q pl : Nat) (P1 : Pw) (m' : Mf) (x : Cn) (l : List Rc) (f : Bool) (rows os : Nat) (hos : os = x.c + x.ah.length) : ∃ A : Ans, A = bgA q P1 ⟨rows, x.c, x.ah, x.c, os, mz, 0, false⟩ m' l ((clr q (jfs m') (swP q m' (SBP P1 q (hdM m') l)).names (swP q m' (SBP P1 q (hdM m') l))).1 : Nat) (clr q (jfs m') (swP q m' (SBP P1 q (hdM m') l)).names (swP q m' (SBP P1 q (hdM m') l))).2 ⟨rows, x.c, x.ah, x.c, os, m', 0, false⟩ ∧
    A.e = (opB q pl P1 m' x l f).e ∧ A.p = (opB q pl P1 m' x l f).p ∧ (A.e = 0 → A.j = opJ rows (opB q pl P1 m' x l f) ∧ (opB q pl P1 m' x l f).m = m' ∧ (opB q pl P1 m' x l f).x = x ∧ (opB q pl P1 m' x l f).f = f) := by
  refine ⟨_, rfl, ?_⟩
  subst hos
  unfold bgA opB swA jsE jsP
  by_cases h1 : SBE P1 q (hdM m') l = 0
  · rw [if_pos h1, if_pos h1]
    by_cases h2 : swE q m' (SBP P1 q (hdM m') l) = 0
    · rw [if_pos h2, if_pos h2, if_pos h2]
      generalize clr q (jfs m') (swP q m' (SBP P1 q (hdM m') l)).names (swP q m' (SBP P1 q (hdM m') l)) = C
      by_cases h3 : ((C.1 : Nat) : Int) = 0
      · rw [if_pos h3]
        refine ⟨h3, rfl, fun _ => ⟨?_, rfl, rfl, rfl⟩⟩
        unfold Jn.hold opJ
        rw [h3]; rfl
      · rw [if_neg h3]
        exact ⟨rfl, rfl, fun h => absurd h h3⟩
    · rw [if_neg h2, if_neg h2, if_neg h2]
      have h3 : ¬ ((swE q m' (SBP P1 q (hdM m') l) : Nat) : Int) = 0 := by omega
      rw [if_neg h3]
      exact ⟨rfl, rfl, fun h => absurd h h3⟩
  · rw [if_neg h1, if_neg h1]
    exact ⟨rfl, rfl, fun h => absurd h h1⟩
theorem JTo.newer {V V1 : Nat → Prop} {w w1 w2 : World} {A : Nat → Prop} (h : JTo V w V1 w1) (hb : Below w1.heap.size w1 w2) (hA : ∀ x, A x → V1 x ∨ w.heap.size ≤ x) : JTo V w A w2 :=
  ⟨fun x hx => (hA x hx).elim (h.more x) .inr, (h.below (hb.mono h.tu.size)).tu⟩
section
variable {V : Nat → Prop} {w w1 : World} {gp q kc gj : Nat} {dv : Value} {ko : Option Addr} {p : Pw} {j : Jn}
attribute [local go_sem ↓] ld_pw ld_man st_man ld_jcont st_jcont ld_found st_found ld_tally ld_u64 st_u64 ld_nums' ld_prs ld_inps
set_option maxHeartbeats 32000000 in
theorem open_ok (pl rows : Nat) (w : World) (h : PJ V w gp q dv ko kc p) (hpl : pl ≤ 1) (h4 : 4 ≤ rows) (h32 : rows ≤ 32) (hn : p.n + 300 < 1000000) (ht : Tab w) (hV : ¬ V 1) :
    Calls Tryz.prog 28 #[.pointer (some ⟨gp, 0, none⟩), .int .u8 (pl : Int), .int .i64 (rows : Int)] w (OpnPost V w gp q dv ko kc rows (opR q pl (rows : Int) p)) := by
  have H0 := Loc.two w 50 49 #[.pointer (some ⟨gp, 0, none⟩)] fz
  have HP := Lib.hid (h.new H0.be)
  have HT := Lib.hid (tab_below ht H0.be)
  have HTL := Lib.hid ht.1
  have HV := Lib.hid hV
  have HVL := Lib.hid h.lt
  have HPL := Lib.hid (And.intro hpl (And.intro h4 h32))
  have HNM := Lib.hid h.names.1
  have HN := Lib.hid hn
  have hR0 : opR q pl (rows : Int) p = if (fdR q pl p).e = 0 then opB q pl (fdR q pl p).p (opM pl (fdR q pl p).m (cnOut (fdR q pl p).m.ck (fdR q pl p).x)) (cnOut (fdR q pl p).m.ck (fdR q pl p).x) (cnRecs pl (cnOut (fdR q pl p).m.ck (fdR q pl p).x)) (decide ((fdR q pl p).m.ep = 0)) else ⟨(fdR q pl p).e, (fdR q pl p).p, mz, cn0, false⟩ := by
    unfold opR
    rw [if_pos ⟨hpl, by omega, by omega⟩]
  have HR0 := Lib.hid hR0
  have g1 : decide ((1 : Int) < (pl : Int)) = false := decide_eq_false (by omega)
  have g2 : decide ((rows : Int) < 4) = false := decide_eq_false (by omega)
  have g3 : decide ((32 : Int) < (rows : Int)) = false := decide_eq_false (by omega)
  have l0 := H0.ldO ty_pw 0 rfl 0 (v := .pointer (some ⟨gp, 0, none⟩)) rfl
  obtain ⟨Q, hQ⟩ : ∃ Q : Ending → World → Prop, Q = OpnPost V w gp q dv ko kc rows (opR q pl (rows : Int) p) := ⟨_, rfl⟩
  rw [← hQ]
  have HQ := Lib.hid hQ
  have HL0 : Hid (Loc w.heap.size w _ [(w.heap.size, 50, #[.pointer (some ⟨gp, 0, none⟩)]), (w.heap.size + 1, 49, fz)]) := H0
  have HAL : Hid (w.heap.size + 1 < _) := HL0.out.low (e := (w.heap.size + 1, 49, fz)) (by simp)
  clear hQ h hpl h4 h32 hn ht hV hR0 H0
  go_enter Tryz.func28, Tryz.ntmps28
  go_upto_region 1 with fail
  rw [show (#[.int .u64 0, .bool false, .slice none 0 0, .int .u64 0, .slice none 0 0, .slice none 0 0] : Array Value) = fz from rfl]
  generalize (w.alloc (.cells #[.pointer (some ⟨gp, 0, none⟩)] 50)).alloc (.cells fz 49) = wa at *
  go_wp2_with fail
  clear l0 g1 g2 g3
  refine (jfind_c pl wa HP.out (by have := HN.out; omega) HT.out HV.out).mono ?_
  have hfo := fd_of q pl p
  have hfn := fd_n q pl p
  obtain ⟨⟨e1, P1, m, x⟩, hr⟩ : ∃ r, r = fdR q pl p := ⟨_, rfl⟩
  rw [← hr] at HR0 hfo hfn ⊢
  dsimp only at HR0 hfo hfn
  rintro R w1 ⟨so, sc, co, cc, ao, ac, po, pc, rfl, hm1, hcc1, hi1, hr1, hic1, hpc1, V1, hp1, ht1, hnm, hna, hnp, hap, ham, hpm⟩
  dsimp only at hm1 hi1 hr1 hic1 hpc1 hp1 hnm hna hnp hap ham hpm
  have HTO1 := Lib.hid ((JTo.new (V := V) HL0.out.be).trans ht1)
  have HL1 : Hid (Loc w.heap.size w1 w1 [(w.heap.size, 50, #[.pointer (some ⟨gp, 0, none⟩)]), (w.heap.size + 1, 49, fz)]) := HL0.out.rebase ht1.tu (fun e he hv => by have := HVL.out _ hv; have := HL0.out.ge e he; omega)
  have HT1 := Lib.hid (tab_tu HT.out ht1.tu HV.out)
  have HV1 := Lib.hid (ht1.notab HT.out HV.out)
  have HV1L := Lib.hid hp1.lt
  have HWA : Hid (w.heap.size + 1 < wa.heap.size ∧ wa.heap.size ≤ w1.heap.size) := ⟨HAL.out, ht1.tu.size⟩
  have HV1N : Hid (∀ x, w.heap.size ≤ x → x < wa.heap.size → ¬ V1 x) := fun x h1 h2 h3 => by
    rcases ht1.more x h3 with h4 | h4
    · have := HVL.out x h4; omega
    · omega
  have HF : Hid (e1 = 0 → CnOk x ∧ x.ps.length ≤ 131064 ∧ x.ah.length ≤ 11000 ∧ m.fit ∧ m.sg.length ≤ 12 ∧ m.ck.length ≤ 2 ∧ m.ep ≠ 18446744073709551615) := fun h0 => by
    obtain ⟨k1, k2⟩ := hfo h0
    obtain ⟨j1, j2, j3, j4, j5, j6⟩ := jlM_says p pl
    rw [← k1] at j1 j2 j3 j5 k2
    have hrd : ∀ n, (P1.rd (sgn n)).length ≤ 65536 := fun n => jrd_len hp1.good' (sgn n)
    obtain ⟨a1, a2⟩ := rd_okc hrd m.sg true cn0 true cn0_ok (fun _ => rfl)
    have a3 := rd_ah hrd m.sg true cn0 true (Nat.zero_le _)
    rw [k2]
    refine ⟨a1, ?_, a3, j1, j2, j3, j5⟩
    have : (cn0.ps.length : Nat) = 0 := rfl
    omega
  have HM1 := Lib.hid hm1
  have HX1 := Lib.hid (And.intro hi1 (And.intro hr1 (And.intro hic1 hpc1)))
  have HNB := Lib.hid (And.intro hnm (And.intro hna (And.intro hnp (And.intro hap (And.intro ham hpm)))))
  have HP1 := Lib.hid hp1
  have HPN1 : Hid (P1.n + 200 < 1000000) := by have h1 := HN.out; have h2 := HNM.out; show _ < _; omega
  have Hm := HL1.out.more2 60 133 #[.int .u64 0, .int .u8 0, .slice none 0 0, .slice none 0 0] #[.int .u64 0, .slice none 0 0, .int .u64 0, .slice none 0 0]
  obtain ⟨g9, hg9⟩ : ∃ g, w1.heap.size = g := ⟨_, rfl⟩
  rw [hg9] at Hm
  replace Hm : Loc w.heap.size w1 _ [(w.heap.size, 50, #[.pointer (some ⟨gp, 0, none⟩)]), (w.heap.size + 1, 49, fz), (g9, 60, #[.int .u64 0, .int .u8 0, .slice none 0 0, .slice none 0 0]), (g9 + 1, 133, #[.int .u64 0, .slice none 0 0, .int .u64 0, .slice none 0 0])] := Hm
  have HBA : Below w1.heap.size w1 ((w1.alloc (.cells #[.int .u64 0, .int .u8 0, .slice none 0 0, .slice none 0 0] 60)).alloc (.cells #[.int .u64 0, .slice none 0 0, .int .u64 0, .slice none 0 0] 133)) := ((Below.refl _ w1).alloc (Nat.le_refl _) _).alloc (by simp) _
  obtain ⟨w2, s2, H2, q2⟩ := Hm.stA ty_man 2 rfl 0 (mcs m so sc co cc) (cs' := mcs m so sc co cc) rfl (L' := [(w.heap.size, 50, #[.pointer (some ⟨gp, 0, none⟩)]), (w.heap.size + 1, 49, fz), (g9, 60, mcs m so sc co cc), (g9 + 1, 133, #[.int .u64 0, .slice none 0 0, .int .u64 0, .slice none 0 0])]) rfl (Nat.le_of_ble_eq_true rfl) rfl (mcs_one _ _ _ _ _)
  obtain ⟨w3, s3, H3, q3⟩ := H2.stA ty_jcont 3 rfl 0 (cts x ao ac po pc) (cs' := cts x ao ac po pc) rfl (L' := [(w.heap.size, 50, #[.pointer (some ⟨gp, 0, none⟩)]), (w.heap.size + 1, 49, fz), (g9, 60, mcs m so sc co cc), (g9 + 1, 133, cts x ao ac po pc)]) rfl (Nat.le_of_ble_eq_true rfl) rfl rfl
  have hb2 : Below w1.heap.size w1 w2 := HBA.trans (grown_nb q2 (fun y e => by cases e; omega) HBA.size)
  have HB3 : Hid (Below w1.heap.size w1 w3) := hb2.trans (grown_nb q3 (fun y e => by cases e; omega) hb2.size)
  have H3' := Lib.hid H3
  have HG9 : Hid (w1.heap.size = g9) := hg9
  clear H2 H3 q2 q3 hb2 HBA Hm hfo hfn hr hm1 hcc1 hi1 hr1 hic1 hpc1 hp1 ht1 hnm hna hnp hap ham hpm HL0 HP HT HL1
  by_cases he : e1 = 0
  case neg =>
    have hq : (e1 != 0) = true := by rw [bne_iff_ne]; exact he
    obtain ⟨w4, s4, H4, q4⟩ := H3'.out.stA ty_found 1 rfl 0 #[.int .u64 0, .bool false, .slice none 0 0, .int .u64 0, .slice none 0 0, .slice none 0 0] (cs' := fz) rfl (L' := [(w.heap.size, 50, #[.pointer (some ⟨gp, 0, none⟩)]), (w.heap.size + 1, 49, fz), (g9, 60, mcs m so sc co cc), (g9 + 1, 133, cts x ao ac po pc)]) rfl (Nat.le_of_ble_eq_true rfl) rfl rfl
    have HFin : Hid (Q (.returned (.tuple #[.pointer none, .agg fz, .int .i64 e1])) w4) := by
      show Q _ _
      rw [HQ.out, HR0.out, if_neg he]
      refine .inl ⟨he, rfl, V1, (HP1.out.new HB3.out).tu (Tu.of_same q4) fun x hx e => HV1N.out _ (by have := HWA.out; omega) (by have := HWA.out; omega) (e ▸ hx), HTO1.out.below H4.be⟩
    have HC4 : Hid (Cells w4 (w.heap.size + 1) 49 fz) := H4.get 1 rfl
    clear H4 q4 he
    go_wp2
    refine bodyPost_ret (shut_op _ _ e1 _ Tryz.results28 ty_found HC4.out rfl rfl rfl rfl) rfl ?_
    exact HFin.out
  case pos =>
  have hq : (e1 != 0) = false := by rw [he]; rfl
  rw [if_pos he] at HR0
  have HFF := Lib.hid (HF.out he)
  clear he HF
  -- the floor
  have l6 := H3'.out.ldO ty_nums' 2 rfl 3 (v := .slice co m.ck.length cc) rfl
  have HCT : Hid (JCt w3 (g9 + 1) x ao ac po pc) := ⟨H3'.out.get 3 rfl, HX1.out.1.to HB3.out, HX1.out.2.1.to HB3.out, HX1.out.2.2.1, HX1.out.2.2.2, fun a e h0 h => by have := HX1.out.1.lt h0 a e; have := HG9.out; omega, fun a e h0 h => by have := HX1.out.2.1.lt h0 a e; have := HG9.out; omega⟩
  have HLV := Lib.hid (leave_c (g9 + 1) x m.ck ao ac po pc co cc w3 HCT.out HFF.out.1 ((HM1.out.to HB3.out).ns) HFF.out.2.2.2.1.ck (by have := HFF.out.2.2.2.2.2.1; omega))
  have HOK := Lib.hid (out_okc m.ck HFF.out.1)
  obtain ⟨y, hy⟩ : ∃ y, y = cnOut m.ck x := ⟨_, rfl⟩
  rw [← hy] at HLV HOK HR0
  clear hy
  go_wp2_with fail
  clear l6 s2 s3
  refine HLV.out.mono ?_
  rintro R w4 ⟨rfl, po2, pc2, hj4, hg4, hp4⟩
  have k4 : Tu (fun y => y = g9 + 1) w3 w4 := Tu.of_same hg4
  have HB4 : Hid (Below w1.heap.size w1 w4) := HB3.out.trans (grown_nb hg4 (fun y e => by cases e; have := HG9.out; omega) HB3.out.size)
  have HL4 : Hid (Loc w.heap.size w1 w4 [(w.heap.size, 50, #[.pointer (some ⟨gp, 0, none⟩)]), (w.heap.size + 1, 49, fz), (g9, 60, mcs m so sc co cc), (g9 + 1, 133, cts y ao ac po2 pc2)]) := H3'.out.turn (k := 3) (cts y ao ac po2 pc2) rfl rfl hg4 hj4.blk
  have HJ4 := Lib.hid hj4
  have HPO : Hid (∀ a, po2 = some a → y.ps ≠ [] → (wa.heap.size ≤ a.block ∧ a.block < g9 ∧ ¬ V1 a.block ∧ (∀ b, ao = some b → x.ah ≠ [] → b.block ≠ a.block) ∧ ¬ mbl m so co a.block)) := fun a e h0 => by
    obtain ⟨b, e2, h2⟩ := hp4 a e
    have hx0 : x.ps ≠ [] := fun h => h0 (List.eq_nil_of_length_eq_zero (by have := HOK.out.2.1; rw [h] at this; simpa using this))
    have h3 := HNB.out.2.2.1 b e2 hx0
    have h4 := HX1.out.2.1.lt hx0 b e2
    rw [← h2]
    refine ⟨h3.1, by have := HG9.out; omega, h3.2, fun c e3 h5 => HNB.out.2.2.2.1 h5 c b e3 e2, HNB.out.2.2.2.2.2 b e2 hx0⟩
  have HAO : Hid (∀ a, ao = some a → x.ah ≠ [] → (wa.heap.size ≤ a.block ∧ a.block < g9 ∧ ¬ V1 a.block ∧ ¬ mbl m so co a.block)) := fun a e h0 => by
    have h3 := HNB.out.2.1 a e h0
    have h4 := HX1.out.1.lt h0 a e
    exact ⟨h3.1, by have := HG9.out; omega, h3.2, HNB.out.2.2.2.2.1 a e h0⟩
  have HMB : Hid (∀ x, mbl m so co x → wa.heap.size ≤ x ∧ x < g9 ∧ ¬ V1 x) := fun x hx => by
    have h1 := HNB.out.1 x hx
    have h2 := mbl_lt HM1.out hx
    have h3 := HG9.out
    exact ⟨h1.1, by omega, h1.2⟩
  have HYA : Hid (y.c = x.c ∧ y.ah = x.ah) := HOK.out.2.2
  have HP4 := Lib.hid (HP1.out.new HB4.out)
  have HM4 := Lib.hid (HM1.out.to HB4.out)
  clear hj4 hg4 hp4 k4 H3' HCT HLV HB3 HNB HX1 HM1 HP1
  -- the journal
  go_upto_region 7 with fail
  have HLd := Lib.hid HL4.out.drew
  generalize hwd : w4.drew = wd at *
  have a1 := HLd.out.onO ty_pw 0 rfl 0 (v := .pointer (some ⟨gp, 0, none⟩)) rfl
  have a2 := HLd.out.onA ty_tally 3 rfl 0 (vs := #[.int .u64 (y.c : Int), .slice ao y.ah.length ac]) rfl (Nat.le_of_ble_eq_true rfl)
  have a3 := HLd.out.onO ty_u64 3 rfl 0 (v := .int .u64 (y.c : Int)) rfl
  have HOW := Lib.hid (owned_c (g9 + 1) 0 y.c y.ah.length ac ao wd (by rw [(HLd.out.get 3 rfl : Cells wd (g9 + 1) _ _).cell]; rfl) (by rw [(HLd.out.get 3 rfl : Cells wd (g9 + 1) _ _).cell]; rfl) HOK.out.1.o)
  obtain ⟨os, hos⟩ : ∃ os : Nat, os = y.c + y.ah.length := ⟨_, rfl⟩
  rw [← hos] at HOW
  have HOS := Lib.hid hos
  have HBd : Hid (Below w4.heap.size w4 wd) := by rw [← hwd]; exact (Below.refl _ w4).drew
  have o0 : G.On wd.heap.size wd wd := Below.refl _ wd
  clear hos
  go_cut [12] (fun v wx => ∃ W, W = wx ∧ ∃ gj, v = .pointer (some ⟨gj, 0, none⟩) ∧ Hid (Cells W gj 69 (jcs gp ⟨rows, y.c, y.ah, y.c, os, mz, 0, false⟩ ao ac none 0 none 0)) ∧ Hid (w4.heap.size ≤ gj) ∧ Hid (Below w4.heap.size w4 W))
  case first =>
    refine wp_region_till (S := fun W => G.On wd.heap.size wd W) (by kernel_rfl) ?_
    rw [hwd]
    clear hwd
    refine wpTill_take (i := 0) (v := ?va0) rfl (by kernel_rfl) (fun _ _ _ h => h) (Or.inl ⟨by rfl, ?hya0⟩) o0 ?resta0
    case hya0 => (intro W hW; (try dsimp only at hW); go_simp; try with_reducible rfl)
    simp only [Act.put, List.setIfInBounds_toArray, List.set_cons_zero, List.set_cons_succ, List.getElem_toArray, List.getElem_cons_succ, List.getElem_cons_zero]
    refine wpTill_take (i := 1) (v := ?va1) rfl (by kernel_rfl) (fun _ _ _ h => h) (Or.inl ⟨by rfl, ?hya1⟩) o0 ?resta1
    case hya1 => (intro W hW; (try dsimp only at hW); go_simp; try with_reducible rfl)
    simp only [Act.put, List.setIfInBounds_toArray, List.set_cons_zero, List.set_cons_succ, List.getElem_toArray, List.getElem_cons_succ, List.getElem_cons_zero]
    refine wpTill_take (i := 2) (v := ?va2) rfl (by kernel_rfl) (fun _ _ _ h => h) (Or.inl ⟨by rfl, ?hya2⟩) o0 ?resta2
    case hya2 => (intro W hW; (try dsimp only at hW); go_simp; try with_reducible rfl)
    simp only [Act.put, List.setIfInBounds_toArray, List.set_cons_zero, List.set_cons_succ, List.getElem_toArray, List.getElem_cons_succ, List.getElem_cons_zero]
    refine wpTill_take (i := 3) (v := ?va3) rfl (by kernel_rfl) (fun _ _ _ h => h) (Or.inl ⟨by rfl, ?hya3⟩) o0 ?resta3
    case hya3 => (intro W hW; (try dsimp only at hW); go_simp; try with_reducible rfl)
    simp only [Act.put, List.setIfInBounds_toArray, List.set_cons_zero, List.set_cons_succ, List.getElem_toArray, List.getElem_cons_succ, List.getElem_cons_zero]
    refine wpTill_take (i := 4) (v := ?va4) rfl (by kernel_rfl) (fun _ _ _ h => h) (Or.inl ⟨by rfl, ?hya4⟩) o0 ?resta4
    case hya4 => (intro W hW; (try dsimp only at hW); go_simp; try with_reducible rfl)
    simp only [Act.put, List.setIfInBounds_toArray, List.set_cons_zero, List.set_cons_succ, List.getElem_toArray, List.getElem_cons_succ, List.getElem_cons_zero]
    refine wpTill_take (i := 5) (v := ?va5) rfl (by kernel_rfl) (fun _ _ _ h => h) (Or.inl ⟨by rfl, ?hya5⟩) o0 ?resta5
    case hya5 => (intro W hW; (try dsimp only at hW); go_simp; try with_reducible rfl)
    simp only [Act.put, List.setIfInBounds_toArray, List.set_cons_zero, List.set_cons_succ, List.getElem_toArray, List.getElem_cons_succ, List.getElem_cons_zero]
    refine wpTill_take (i := 6) (v := ?va6) rfl (by kernel_rfl) (fun _ _ _ h => h) (Or.inl ⟨by rfl, ?hya6⟩) o0 ?resta6
    case hya6 => (intro W hW; (try dsimp only at hW); go_simp; try with_reducible rfl)
    simp only [Act.put, List.setIfInBounds_toArray, List.set_cons_zero, List.set_cons_succ, List.getElem_toArray, List.getElem_cons_succ, List.getElem_cons_zero]
    refine wpTill_take (i := 7) (v := ?va7) rfl (by kernel_rfl) (fun _ _ _ h => h) (Or.inl ⟨by rfl, ?hya7⟩) o0 ?resta7
    case hya7 => (intro W hW; (try dsimp only at hW); go_simp; try with_reducible rfl)
    simp only [Act.put, List.setIfInBounds_toArray, List.set_cons_zero, List.set_cons_succ, List.getElem_toArray, List.getElem_cons_succ, List.getElem_cons_zero]
    refine wpTill_run (i := 8) (by kernel_rfl) rfl o0 (fun K hK => ?_)
    go_simp
    go_at_call 57
    refine HOW.out.mono ?_
    rintro R w5 ⟨rfl, n5, rfl⟩
    have hb5 : Below wd.heap.size wd (wd.drewN n5) := below_drewN (Below.refl _ wd) n5
    have o5 : G.On wd.heap.size wd (wd.drewN n5) := hb5
    refine hK _ _ ?_
    clear hK K
    refine wpTill_take (i := 9) (v := ?va9) rfl (by kernel_rfl) (fun _ _ _ h => h) (Or.inl ⟨by rfl, ?hya9⟩) o5 ?resta9
    case hya9 => (intro W hW; (try dsimp only at hW); go_simp; try with_reducible rfl)
    simp only [Act.put, List.setIfInBounds_toArray, List.set_cons_zero, List.set_cons_succ, List.getElem_toArray, List.getElem_cons_succ, List.getElem_cons_zero]
    refine wpTill_run (i := 10) (by kernel_rfl) rfl o5 (fun K hK => ?_)
    go_simp
    refine hK _ _ ?_
    clear hK K
    refine wpTill_run (i := 11) (by kernel_rfl) rfl (hb5.trans (below_alloc _ _ |> fun h => h.mono hb5.size)) (fun K hK => ?_)
    go_simp
    refine hK _ _ ?_
    clear hK K
    refine wpTill_done (by kernel_rfl) ?_
    clear a1 a2 a3
    go_wp2_with fail
    all_goals go_meet
    all_goals exact ⟨_, rfl, _, rfl, (Cells.made (wd.drewN n5) 69 (jcs gp ⟨rows, y.c, y.ah, y.c, os, mz, 0, false⟩ ao ac none 0 none 0)), HBd.out.size, HBd.out.trans (hb5.mono HBd.out.size |>.trans ((below_alloc _ _).mono (Nat.le_trans HBd.out.size hb5.size)))⟩
  case rest =>
  obtain ⟨w5, rfl, gj, rfl, HCJ, HGJ, HB5⟩ := hcut
  have HL5 : Hid (Loc w.heap.size w1 w5 [(w.heap.size, 50, #[.pointer (some ⟨gp, 0, none⟩)]), (w.heap.size + 1, 49, fz), (g9, 60, mcs m so sc co cc), (g9 + 1, 133, cts y ao ac po2 pc2)]) := HL4.to HB5.out
  have HB15 : Hid (Below w1.heap.size w1 w5) := HB4.out.trans (HB5.out.mono HB4.out.size)
  have HP5 := Lib.hid (HP4.out.new HB5.out)
  have HM5 := Lib.hid (HM4.out.to HB5.out)
  have HY5 : Hid (JCt w5 (g9 + 1) y ao ac po2 pc2) := HJ4.out.to HB5.out
  have HSZ : Hid (w.heap.size + 1 < wa.heap.size ∧ wa.heap.size ≤ g9 ∧ g9 ≤ gj ∧ gj < w5.heap.size ∧ w1.heap.size = g9 ∧ g9 + 1 < gj) := by
    have h1 := HWA.out; have h2 := HG9.out; have h3 := HB4.out.size; have h4 := HGJ.out; have h5 := HCJ.out.lt; have h6 := HJ4.out.blk.lt
    exact ⟨by omega, by omega, by omega, h5, h2, by omega⟩
  have HJN : Hid (JnF ⟨rows, y.c, y.ah, y.c, os, mz, 0, false⟩) := by
    have ho := HOK.out.1.o
    have h1 := HFF.out.2.2.1
    have h2 := HYA.out.2
    have h3 := HOS.out
    have h4 := HPL.out
    refine ⟨ho, HOK.out.1.ah, ?_, ?_, ?_, Nat.zero_le _, h4.2, Nat.zero_le _, Nat.zero_le _, Nat.zero_le _⟩
    · show y.ah.length ≤ _; rw [h2]; omega
    · show y.c < _; omega
    · show os < _; omega
  have HAY : Hid (∀ a, ao = some a → y.ah ≠ [] → (wa.heap.size ≤ a.block ∧ a.block < g9 ∧ ¬ V1 a.block ∧ ¬ mbl m so co a.block)) := fun a e h0 => HAO.out a e (by rw [← HYA.out.2]; exact h0)
  obtain ⟨SJ, hxJ⟩ := HP5.out.jc HCJ.out HJN.out rfl HY5.out.ins HY5.out.ic (fun hv => by have := HV1L.out _ hv; have := HSZ.out; omega) fun a e h0 => by
    have h1 := HAY.out a e h0
    have h2 := HSZ.out
    exact ⟨h1.2.2.1, by omega⟩
  have HJ5 : Hid (JCb (fun x => V1 x ∨ x = gj ∨ (y.ah ≠ [] ∧ ∃ a, ao = some a ∧ a.block = x)) w5 gj gp q dv ko kc P1 ⟨rows, y.c, y.ah, y.c, os, mz, 0, false⟩ ao ac none 0 none 0) := ⟨SJ, hxJ⟩
  clear hxJ
  clear HL4 HP4 HM4 HJ4 HB5 HOW HAO hwd a1 a2 a3 o0 HLd HBd
  -- the manifest
  go_upto_region 8 with fail
  have HLd := Lib.hid HL5.out.drew
  have HBd : Hid (Below w5.heap.size w5 w5.drew) := (Below.refl _ w5).drew
  have HMd := Lib.hid (HM5.out.to HBd.out)
  generalize hwd : w5.drew = wd at *
  have a1 := HLd.out.onO ty_u64 2 rfl 0 (v := .int .u64 (m.ep : Int)) rfl
  have a2 := HLd.out.onA ty_man 2 rfl 0 (vs := mcs m so sc co cc) rfl (Nat.le_of_ble_eq_true rfl)
  have a3 := HLd.out.onO ty_u64 3 rfl 2 (v := .int .u64 (y.fr : Int)) rfl
  have a4 := HLd.out.onO ty_nums' 2 rfl 3 (v := .slice co m.ck.length cc) rfl
  have hfd := fld_part ((lastS m.sg).1 : Int) ((lastS m.sg).2 : Int)
  have hi1 := inc_wrap m.ep
  have hi2 := inc_wrap (lastS m.sg).1
  have o0 : G.On wd.heap.size wd wd := Below.refl _ wd
  go_cut [13] (fun v wx => ∃ W, W = wx ∧ ∃ g13 sb, v = .pointer (some ⟨g13, 0, none⟩) ∧ Hid (Cells W g13 60 (mcs (opM pl m y) (some ⟨sb, 0, none⟩) 1 co cc)) ∧ Hid (Cells W sb 122 #[.int .u64 ((inc (lastS m.sg).1 : Nat) : Int), .int .u64 (y.fr : Int)]) ∧ Hid (w5.heap.size ≤ g13 ∧ w5.heap.size ≤ sb ∧ g13 ≠ sb) ∧ Hid (Below w5.heap.size w5 W))
  case first =>
    refine wp_region_till (S := fun W => G.On wd.heap.size wd W) (by kernel_rfl) ?_
    rw [hwd]
    clear hwd
    refine wpTill_take (i := 0) (v := ?vb0) rfl (by kernel_rfl) (fun _ _ _ h => h) (Or.inl ⟨by rfl, ?hyb0⟩) o0 ?restb0
    case hyb0 => (intro W hW; (try dsimp only at hW); go_simp; try with_reducible rfl)
    simp only [Act.put, List.setIfInBounds_toArray, List.set_cons_zero, List.set_cons_succ, List.getElem_toArray, List.getElem_cons_succ, List.getElem_cons_zero]
    refine wpTill_take (i := 1) (v := ?vb1) rfl (by kernel_rfl) (fun _ _ _ h => h) (Or.inl ⟨by rfl, ?hyb1⟩) o0 ?restb1
    case hyb1 => (intro W hW; (try dsimp only at hW); go_simp; try with_reducible rfl)
    simp only [Act.put, List.setIfInBounds_toArray, List.set_cons_zero, List.set_cons_succ, List.getElem_toArray, List.getElem_cons_succ, List.getElem_cons_zero]
    refine wpTill_take (i := 2) (v := ?vb2) rfl (by kernel_rfl) (fun _ _ _ h => h) (Or.inl ⟨by rfl, ?hyb2⟩) o0 ?restb2
    case hyb2 => (intro W hW; (try dsimp only at hW); go_simp; try with_reducible rfl)
    simp only [Act.put, List.setIfInBounds_toArray, List.set_cons_zero, List.set_cons_succ, List.getElem_toArray, List.getElem_cons_succ, List.getElem_cons_zero]
    refine wpTill_take (i := 3) (v := ?vb3) rfl (by kernel_rfl) (fun _ _ _ h => h) (Or.inl ⟨by rfl, ?hyb3⟩) o0 ?restb3
    case hyb3 => (intro W hW; (try dsimp only at hW); go_simp; try with_reducible rfl)
    simp only [Act.put, List.setIfInBounds_toArray, List.set_cons_zero, List.set_cons_succ, List.getElem_toArray, List.getElem_cons_succ, List.getElem_cons_zero]
    refine wpTill_take (i := 4) (v := ?vb4) rfl (by kernel_rfl) (fun _ _ _ h => h) (Or.inl ⟨by rfl, ?hyb4⟩) o0 ?restb4
    case hyb4 => (intro W hW; (try dsimp only at hW); go_simp; try with_reducible rfl)
    simp only [Act.put, List.setIfInBounds_toArray, List.set_cons_zero, List.set_cons_succ, List.getElem_toArray, List.getElem_cons_succ, List.getElem_cons_zero]
    refine wpTill_take (i := 8) (v := ?vb8) rfl (by kernel_rfl) (fun _ _ _ h => h) (Or.inl ⟨by rfl, ?hyb8⟩) o0 ?restb8
    case hyb8 => (intro W hW; (try dsimp only at hW); go_simp; try with_reducible rfl)
    simp only [Act.put, List.setIfInBounds_toArray, List.set_cons_zero, List.set_cons_succ, List.getElem_toArray, List.getElem_cons_succ, List.getElem_cons_zero]
    refine wpTill_take (i := 9) (v := ?vb9) rfl (by kernel_rfl) (fun _ _ _ h => h) (Or.inl ⟨by rfl, ?hyb9⟩) o0 ?restb9
    case hyb9 => (intro W hW; (try dsimp only at hW); go_simp; try with_reducible rfl)
    simp only [Act.put, List.setIfInBounds_toArray, List.set_cons_zero, List.set_cons_succ, List.getElem_toArray, List.getElem_cons_succ, List.getElem_cons_zero]
    refine wpTill_take (i := 12) (v := ?vb12) rfl (by kernel_rfl) (fun _ _ _ h => h) (Or.inl ⟨by rfl, ?hyb12⟩) o0 ?restb12
    case hyb12 => (intro W hW; (try dsimp only at hW); go_simp; try with_reducible rfl)
    simp only [Act.put, List.setIfInBounds_toArray, List.set_cons_zero, List.set_cons_succ, List.getElem_toArray, List.getElem_cons_succ, List.getElem_cons_zero]
    refine wpTill_take (i := 13) (v := ?vb13) rfl (by kernel_rfl) (fun _ _ _ h => h) (Or.inl ⟨by rfl, ?hyb13⟩) o0 ?restb13
    case hyb13 => (intro W hW; (try dsimp only at hW); go_simp; try with_reducible rfl)
    simp only [Act.put, List.setIfInBounds_toArray, List.set_cons_zero, List.set_cons_succ, List.getElem_toArray, List.getElem_cons_succ, List.getElem_cons_zero]
    refine wpTill_two' (i := 5) (j := 15) (by kernel_rfl) rfl rfl o0 (fun K hK => ?_) (fun K hK => ?_)
    · go_simp
      go_at_call 66
      refine (newest_c0 m so sc co cc wd (HMd.out.to o0) HMd.out.l1).mono ?_
      rintro R w6 ⟨rfl, hb6⟩
      have o6 : G.On wd.heap.size wd w6 := o0.trans (hb6.mono o0.size)
      have HB6 := Lib.hid hb6
      clear hb6
      refine hK _ _ ?_
      clear hK K
      refine wpTill_take (i := 6) (v := ?vc6) rfl (by kernel_rfl) (fun _ _ _ h => h) (Or.inl ⟨by rfl, ?hyc6⟩) o6 ?restc6
      case hyc6 => (intro W hW; (try dsimp only at hW); go_simp; try with_reducible rfl)
      simp only [Act.put, List.setIfInBounds_toArray, List.set_cons_zero, List.set_cons_succ, List.getElem_toArray, List.getElem_cons_succ, List.getElem_cons_zero]
      refine wpTill_take (i := 7) (v := ?vc7) rfl (by kernel_rfl) (fun _ _ _ h => h) (Or.inl ⟨by rfl, ?hyc7⟩) o6 ?restc7
      case hyc7 => (intro W hW; (try dsimp only at hW); go_simp; try with_reducible rfl)
      simp only [Act.put, List.setIfInBounds_toArray, List.set_cons_zero, List.set_cons_succ, List.getElem_toArray, List.getElem_cons_succ, List.getElem_cons_zero]
      refine wpTill_take (i := 10) (v := ?vc10) rfl (by kernel_rfl) (fun _ _ _ h => h) (Or.inl ⟨by rfl, ?hyc10⟩) o6 ?restc10
      case hyc10 => (intro W hW; (try dsimp only at hW); go_simp; try with_reducible rfl)
      simp only [Act.put, List.setIfInBounds_toArray, List.set_cons_zero, List.set_cons_succ, List.getElem_toArray, List.getElem_cons_succ, List.getElem_cons_zero]
      have HL6 := Lib.hid ((Loc.nil (B := wd.heap.size) (w := wd) (Nat.le_refl _)).to o6)
      refine wpTill_two' (i := 11) (j := 15) (by kernel_rfl) rfl rfl o6 (fun K hK => ?_) (fun K hK => ?_)
      · go_simp
        have HLA := HL6.out.more2 122 60 #[.int .u64 ((inc (lastS m.sg).1 : Nat) : Int), .int .u64 (y.fr : Int)] #[.int .u64 0, .int .u8 0, .slice none 0 0, .slice none 0 0]
        obtain ⟨w8, s8, H8, q8⟩ := HLA.stA ty_man 1 rfl 0 #[.int .u64 ((inc m.ep : Nat) : Int), .int .u8 (pl : Int), .slice (some ⟨w6.heap.size, 0, none⟩) 1 1, .slice co m.ck.length cc] (cs' := mcs (opM pl m y) (some ⟨w6.heap.size, 0, none⟩) 1 co cc) rfl (L' := [(w6.heap.size, 122, #[.int .u64 ((inc (lastS m.sg).1 : Nat) : Int), .int .u64 (y.fr : Int)]), (w6.heap.size + 1, 60, mcs (opM pl m y) (some ⟨w6.heap.size, 0, none⟩) 1 co cc)]) rfl (Nat.le_of_ble_eq_true rfl) rfl rfl
        have o7 : G.On wd.heap.size wd (w6.alloc (.cells #[.int .u64 ((inc (lastS m.sg).1 : Nat) : Int), .int .u64 (y.fr : Int)] 122)) := o6.alloc o6.size _
        have o8 : G.On wd.heap.size wd ((w6.alloc (.cells #[.int .u64 ((inc (lastS m.sg).1 : Nat) : Int), .int .u64 (y.fr : Int)] 122)).alloc (.cells #[.int .u64 0, .int .u8 0, .slice none 0 0, .slice none 0 0] 60)) := o7.alloc o7.size _
        refine hK _ _ ?_
        clear hK K
        refine wpTill_take (i := 14) (v := ?vd14) rfl (by kernel_rfl) (fun _ _ _ h => h) (Or.inl ⟨by rfl, ?hyd14⟩) o7 ?restd14
        case hyd14 => (intro W hW; (try dsimp only at hW); go_simp; try with_reducible rfl)
        simp only [Act.put, List.setIfInBounds_toArray, List.set_cons_zero, List.set_cons_succ, List.getElem_toArray, List.getElem_cons_succ, List.getElem_cons_zero]
        refine wpTill_run (i := 15) (by kernel_rfl) rfl o7 (fun K hK => ?_)
        go_simp
        refine hK _ _ ?_
        clear hK K
        refine wpTill_run (i := 16) (by kernel_rfl) rfl o8 (fun K hK => ?_)
        go_simp
        refine hK _ _ ?_
        clear hK K
        refine wpTill_done (by kernel_rfl) ?_
        have HFN : Hid (∃ W, W = w8 ∧ ∃ g13 sb, (.pointer (some ⟨w6.heap.size + 1, 0, none⟩) : Value) = .pointer (some ⟨g13, 0, none⟩) ∧ Hid (Cells W g13 60 (mcs (opM pl m y) (some ⟨sb, 0, none⟩) 1 co cc)) ∧ Hid (Cells W sb 122 #[.int .u64 ((inc (lastS m.sg).1 : Nat) : Int), .int .u64 (y.fr : Int)]) ∧ Hid (w5.heap.size ≤ g13 ∧ w5.heap.size ≤ sb ∧ g13 ≠ sb) ∧ Hid (Below w5.heap.size w5 W)) := ⟨_, rfl, w6.heap.size + 1, w6.heap.size, rfl, H8.get 1 rfl, H8.get 0 rfl, ⟨Nat.le_trans HBd.out.size (H8.bge 1 rfl), Nat.le_trans HBd.out.size (H8.bge 0 rfl), by omega⟩, HBd.out.trans (H8.be.mono HBd.out.size)⟩
        clear a1 a2 a3 a4 hfd hi1 hi2
        go_wp2_with fail
        all_goals go_meet
        all_goals exact HFN.out
      · go_simp
        have HLA := HL6.out.more2 60 122 #[.int .u64 0, .int .u8 0, .slice none 0 0, .slice none 0 0] #[.int .u64 ((inc (lastS m.sg).1 : Nat) : Int), .int .u64 (y.fr : Int)]
        obtain ⟨w8, s8, H8, q8⟩ := HLA.stA ty_man 0 rfl 0 #[.int .u64 ((inc m.ep : Nat) : Int), .int .u8 (pl : Int), .slice (some ⟨w6.heap.size + 1, 0, none⟩) 1 1, .slice co m.ck.length cc] (cs' := mcs (opM pl m y) (some ⟨w6.heap.size + 1, 0, none⟩) 1 co cc) rfl (L' := [(w6.heap.size, 60, mcs (opM pl m y) (some ⟨w6.heap.size + 1, 0, none⟩) 1 co cc), (w6.heap.size + 1, 122, #[.int .u64 ((inc (lastS m.sg).1 : Nat) : Int), .int .u64 (y.fr : Int)])]) rfl (Nat.le_of_ble_eq_true rfl) rfl rfl
        have o7 : G.On wd.heap.size wd (w6.alloc (.cells #[.int .u64 0, .int .u8 0, .slice none 0 0, .slice none 0 0] 60)) := o6.alloc o6.size _
        have o8 : G.On wd.heap.size wd ((w6.alloc (.cells #[.int .u64 0, .int .u8 0, .slice none 0 0, .slice none 0 0] 60)).alloc (.cells #[.int .u64 ((inc (lastS m.sg).1 : Nat) : Int), .int .u64 (y.fr : Int)] 122)) := o7.alloc o7.size _
        refine hK _ _ ?_
        clear hK K
        refine wpTill_run (i := 11) (by kernel_rfl) rfl o7 (fun K hK => ?_)
        go_simp
        refine hK _ _ ?_
        clear hK K
        refine wpTill_take (i := 14) (v := ?ve14) rfl (by kernel_rfl) (fun _ _ _ h => h) (Or.inl ⟨by rfl, ?hye14⟩) o8 ?reste14
        case hye14 => (intro W hW; (try dsimp only at hW); go_simp; try with_reducible rfl)
        simp only [Act.put, List.setIfInBounds_toArray, List.set_cons_zero, List.set_cons_succ, List.getElem_toArray, List.getElem_cons_succ, List.getElem_cons_zero]
        refine wpTill_run (i := 16) (by kernel_rfl) rfl o8 (fun K hK => ?_)
        go_simp
        refine hK _ _ ?_
        clear hK K
        refine wpTill_done (by kernel_rfl) ?_
        have HFN : Hid (∃ W, W = w8 ∧ ∃ g13 sb, (.pointer (some ⟨w6.heap.size, 0, none⟩) : Value) = .pointer (some ⟨g13, 0, none⟩) ∧ Hid (Cells W g13 60 (mcs (opM pl m y) (some ⟨sb, 0, none⟩) 1 co cc)) ∧ Hid (Cells W sb 122 #[.int .u64 ((inc (lastS m.sg).1 : Nat) : Int), .int .u64 (y.fr : Int)]) ∧ Hid (w5.heap.size ≤ g13 ∧ w5.heap.size ≤ sb ∧ g13 ≠ sb) ∧ Hid (Below w5.heap.size w5 W)) := ⟨_, rfl, w6.heap.size, w6.heap.size + 1, rfl, H8.get 0 rfl, H8.get 1 rfl, ⟨Nat.le_trans HBd.out.size (H8.bge 0 rfl), Nat.le_trans HBd.out.size (H8.bge 1 rfl), by omega⟩, HBd.out.trans (H8.be.mono HBd.out.size)⟩
        clear a1 a2 a3 a4 hfd hi1 hi2
        go_wp2_with fail
        all_goals go_meet
        all_goals exact HFN.out
    · go_simp
      have oc : G.On wd.heap.size wd (wd.alloc (.cells #[.int .u64 0, .int .u8 0, .slice none 0 0, .slice none 0 0] 60)) := o0.alloc o0.size _
      refine hK _ _ ?_
      clear hK K
      refine wpTill_run (i := 5) (by kernel_rfl) rfl oc (fun K hK => ?_)
      go_simp
      go_at_call 66
      refine (newest_c0 m so sc co cc (wd.alloc (.cells #[.int .u64 0, .int .u8 0, .slice none 0 0, .slice none 0 0] 60)) (HMd.out.to oc) HMd.out.l1).mono ?_
      rintro R w6 ⟨rfl, hb6⟩
      have o6 : G.On wd.heap.size wd w6 := oc.trans (hb6.mono oc.size)
      have HB6 := Lib.hid hb6
      clear hb6
      refine hK _ _ ?_
      clear hK K
      refine wpTill_take (i := 6) (v := ?vf6) rfl (by kernel_rfl) (fun _ _ _ h => h) (Or.inl ⟨by rfl, ?hyf6⟩) o6 ?restf6
      case hyf6 => (intro W hW; (try dsimp only at hW); go_simp; try with_reducible rfl)
      simp only [Act.put, List.setIfInBounds_toArray, List.set_cons_zero, List.set_cons_succ, List.getElem_toArray, List.getElem_cons_succ, List.getElem_cons_zero]
      refine wpTill_take (i := 7) (v := ?vf7) rfl (by kernel_rfl) (fun _ _ _ h => h) (Or.inl ⟨by rfl, ?hyf7⟩) o6 ?restf7
      case hyf7 => (intro W hW; (try dsimp only at hW); go_simp; try with_reducible rfl)
      simp only [Act.put, List.setIfInBounds_toArray, List.set_cons_zero, List.set_cons_succ, List.getElem_toArray, List.getElem_cons_succ, List.getElem_cons_zero]
      refine wpTill_take (i := 10) (v := ?vf10) rfl (by kernel_rfl) (fun _ _ _ h => h) (Or.inl ⟨by rfl, ?hyf10⟩) o6 ?restf10
      case hyf10 => (intro W hW; (try dsimp only at hW); go_simp; try with_reducible rfl)
      simp only [Act.put, List.setIfInBounds_toArray, List.set_cons_zero, List.set_cons_succ, List.getElem_toArray, List.getElem_cons_succ, List.getElem_cons_zero]
      have HLA := (((Loc.one wd 60 #[.int .u64 0, .int .u8 0, .slice none 0 0, .slice none 0 0]).to HB6.out).more 122 #[.int .u64 ((inc (lastS m.sg).1 : Nat) : Int), .int .u64 (y.fr : Int)])
      obtain ⟨gs, hgs⟩ : ∃ g, w6.heap.size = g := ⟨_, rfl⟩
      rw [hgs] at HLA
      obtain ⟨w8, s8, H8, q8⟩ := HLA.stA ty_man 0 rfl 0 #[.int .u64 ((inc m.ep : Nat) : Int), .int .u8 (pl : Int), .slice (some ⟨gs, 0, none⟩) 1 1, .slice co m.ck.length cc] (cs' := mcs (opM pl m y) (some ⟨gs, 0, none⟩) 1 co cc) rfl (L' := [(wd.heap.size, 60, mcs (opM pl m y) (some ⟨gs, 0, none⟩) 1 co cc), (gs, 122, #[.int .u64 ((inc (lastS m.sg).1 : Nat) : Int), .int .u64 (y.fr : Int)])]) rfl (Nat.le_of_ble_eq_true rfl) rfl rfl
      have hne : wd.heap.size < gs := by have := HB6.out.size; simp at this; omega
      have o8 : G.On wd.heap.size wd (w6.alloc (.cells #[.int .u64 ((inc (lastS m.sg).1 : Nat) : Int), .int .u64 (y.fr : Int)] 122)) := o6.alloc o6.size _
      refine wpTill_run (i := 11) (by kernel_rfl) rfl o6 (fun K hK => ?_)
      go_simp
      refine hK _ _ ?_
      clear hK K
      refine wpTill_take (i := 14) (v := ?vg14) rfl (by kernel_rfl) (fun _ _ _ h => h) (Or.inl ⟨by rfl, ?hyg14⟩) o8 ?restg14
      case hyg14 => (intro W hW; (try dsimp only at hW); go_simp; try with_reducible rfl)
      simp only [Act.put, List.setIfInBounds_toArray, List.set_cons_zero, List.set_cons_succ, List.getElem_toArray, List.getElem_cons_succ, List.getElem_cons_zero]
      refine wpTill_run (i := 16) (by kernel_rfl) rfl o8 (fun K hK => ?_)
      go_simp
      refine hK _ _ ?_
      clear hK K
      refine wpTill_done (by kernel_rfl) ?_
      have HFN : Hid (∃ W, W = w8 ∧ ∃ g13 sb, (.pointer (some ⟨wd.heap.size, 0, none⟩) : Value) = .pointer (some ⟨g13, 0, none⟩) ∧ Hid (Cells W g13 60 (mcs (opM pl m y) (some ⟨sb, 0, none⟩) 1 co cc)) ∧ Hid (Cells W sb 122 #[.int .u64 ((inc (lastS m.sg).1 : Nat) : Int), .int .u64 (y.fr : Int)]) ∧ Hid (w5.heap.size ≤ g13 ∧ w5.heap.size ≤ sb ∧ g13 ≠ sb) ∧ Hid (Below w5.heap.size w5 W)) := ⟨_, rfl, wd.heap.size, gs, rfl, H8.get 0 rfl, H8.get 1 rfl, ⟨Nat.le_trans HBd.out.size (H8.bge 0 rfl), Nat.le_trans HBd.out.size (H8.bge 1 rfl), by omega⟩, HBd.out.trans (H8.be.mono HBd.out.size)⟩
      clear a1 a2 a3 a4 hfd hi1 hi2
      go_wp2_with fail
      all_goals go_meet
      all_goals exact HFN.out
  case rest =>
  obtain ⟨w6, rfl, g13, sb, rfl, HC13, HCS, HGS, HB6⟩ := hcut
  have HL6 : Hid (Loc w.heap.size w1 w6 [(w.heap.size, 50, #[.pointer (some ⟨gp, 0, none⟩)]), (w.heap.size + 1, 49, fz), (g9, 60, mcs m so sc co cc), (g9 + 1, 133, cts y ao ac po2 pc2)]) := HL5.out.to HB6.out
  have HB16 : Hid (Below w1.heap.size w1 w6) := HB15.out.trans (HB6.out.mono HB15.out.size)
  have HY6 := Lib.hid (HY5.out.to HB6.out)
  have HJ6 := Lib.hid (HJ5.out.new HB6.out)
  have HNS6 := Lib.hid ((HM5.out.to HB6.out).ns)
  have HLT6 : Hid (g13 < w6.heap.size ∧ sb < w6.heap.size) := ⟨HC13.out.lt, HCS.out.lt⟩
  have HM13 : Hid (MfAt w6 (opM pl m y) (some ⟨sb, 0, none⟩) co) := by
    have hyo := HOK.out.1.o
    have hyn := HOK.out.1.n
    refine ⟨⟨inc_lt _, by show pl < 256; have := HPL.out.1; omega, fun x hx => ?_, HFF.out.2.2.2.1.ck⟩, fun k hk => ?_, HNS6.out, (show 1 ≤ maxLen by decide), by show m.ck.length ≤ _; have := HFF.out.2.2.2.2.2.1; simp only [maxLen]; omega⟩
    · have hx : x = (inc (lastS m.sg).1, y.fr) := by simpa [opM] using hx
      subst hx
      exact ⟨inc_lt _, by show y.fr < _; omega⟩
    · have hk : k < 1 := hk
      obtain rfl : k = 0 := by omega
      refine ⟨sb, 0, rfl, fun i v hv => ?_⟩
      rw [show 0 + 0 * 2 + i = i by omega, HCS.out.cell]
      have hv : (gpv (inc (lastS m.sg).1, y.fr))[i]? = some v := hv
      rw [← hv]; simp [gpv]
  have HCK : Hid ((opM pl m y).ck = m.ck ∧ (opM pl m y).sg.length = 1 ∧ (opM pl m y).ck.length ≤ 2 ∧ (opM pl m y).ep = inc m.ep ∧ (opM pl m y).pl = pl) := ⟨rfl, rfl, HFF.out.2.2.2.2.2.1, rfl, rfl⟩
  obtain ⟨M, hM⟩ : ∃ M, M = opM pl m y := ⟨_, rfl⟩
  rw [← hM] at HC13 HM13 HCK HR0
  clear hM HL5 HB15 HJ5 HM5 HB6 HY5 hwd a1 a2 a3 a4 hfd hi1 hi2 o0 HLd HBd HMd HNS6 HP5
  -- its records, and the segment
  go_upto_region 9 with fail
  have HB1d : Hid (Below w6.heap.size w6 w6.drew) := (Below.refl _ w6).drew
  have hLd := HL6.out.drew
  have hYd := HY6.out.to HB1d.out
  have hJd := HJ6.out.new HB1d.out
  have hMd := HM13.out.to HB1d.out
  have hCd := cells_new HC13.out HB1d.out
  generalize hwd : w6.drew = wd at *
  have HLd := Lib.hid hLd
  have HYd := Lib.hid hYd
  have HRC := Lib.hid (records_c (g9 + 1) pl y ao ac po2 pc2 wd hYd HOK.out.1 HPL.out.1 (by have h1 := HOK.out.2.1; have h2 := HFF.out.2.1; have h3 := HFF.out.2.2.1; have h4 := HYA.out.2; rw [h4]; omega))
  have HJd := Lib.hid hJd
  have HMd := Lib.hid hMd
  have HCd := Lib.hid hCd
  have hmf : ∀ (fn : Fn) (first cap : Array Value) (w : World), (Instr.makeFunc fn first cap).run Tryz.prog w = .ok (.func fn first cap) w := fun _ _ _ _ => rfl
  have hs0 : (ldT 60 (.pointer (some ⟨g13, 0, none⟩))).run Tryz.prog wd = .ok (.agg (mcs M (some ⟨sb, 0, none⟩) 1 co cc)) wd := run_ldA ty_man HCd.out 0 (Nat.le_of_ble_eq_true rfl)
  clear hLd hYd hJd hMd hCd
  refine wp_region_to (K := [3, 5]) (S := fun W => (ldT 60 (.pointer (some ⟨g13, 0, none⟩))).run Tryz.prog W = .ok (.agg (mcs M (some ⟨sb, 0, none⟩) 1 co cc)) W) (by kernel_rfl) ?_
  rw [hwd]
  clear hwd HL6 HY6 HJ6 HM13 HC13 HCS HCJ
  refine wpTo_take (i := 0) (v := ?vh0) rfl (by kernel_rfl) (fun _ _ _ h => h) (Or.inl ⟨by rfl, ?hyh0⟩) hs0 ?resth0
  case hyh0 => (rintro W hW1; go_simp; try with_reducible rfl)
  simp only [Act.put, List.setIfInBounds_toArray, List.set_cons_zero, List.set_cons_succ, List.getElem_toArray, List.getElem_cons_succ, List.getElem_cons_zero]
  refine wpTo_take (i := 1) (v := ?vh1) rfl (by kernel_rfl) (fun _ _ _ h => h) (Or.inl ⟨by rfl, ?hyh1⟩) hs0 ?resth1
  case hyh1 => (rintro W hW1; go_simp; try with_reducible rfl)
  simp only [Act.put, List.setIfInBounds_toArray, List.set_cons_zero, List.set_cons_succ, List.getElem_toArray, List.getElem_cons_succ, List.getElem_cons_zero]
  refine wpTo_take (i := 2) (v := ?vh2) rfl (by kernel_rfl) (fun _ _ _ h => h) (Or.inl ⟨by rfl, ?hyh2⟩) hs0 ?resth2
  case hyh2 => (rintro W hW1; go_simp; try with_reducible rfl)
  simp only [Act.put, List.setIfInBounds_toArray, List.set_cons_zero, List.set_cons_succ, List.getElem_toArray, List.getElem_cons_succ, List.getElem_cons_zero]
  refine wpTo_take (i := 4) (v := ?vh4) rfl (by kernel_rfl) (fun _ _ _ h => h) (Or.inl ⟨by rfl, ?hyh4⟩) hs0 ?resth4
  case hyh4 => (rintro W hW1; go_simp; try with_reducible rfl)
  simp only [Act.put, List.setIfInBounds_toArray, List.set_cons_zero, List.set_cons_succ, List.getElem_toArray, List.getElem_cons_succ, List.getElem_cons_zero]
  refine wpTo_run (i := 3) (by kernel_rfl) rfl (fun _ => hs0) (fun K hK => ?_)
  go_simp
  go_at_call 80
  refine HRC.out.mono ?_
  rintro R w8 ⟨a8, c8, rfl, hrc, hn8, hlc, _, hb8⟩
  have HRC8 := Lib.hid hrc
  have HL8 := Lib.hid (HLd.out.to hb8)
  have HJ8 := Lib.hid (HJd.out.new hb8)
  have HY8 := Lib.hid (HYd.out.to hb8)
  have HM8 := Lib.hid (HMd.out.to hb8)
  have HC8 := Lib.hid (cells_new HCd.out hb8)
  have HB18 : Hid (Below w1.heap.size w1 w8) := (HB16.out.trans (HB1d.out.mono HB16.out.size)).trans (hb8.mono (Nat.le_trans HB16.out.size HB1d.out.size))
  have HS8 : Hid (w6.heap.size ≤ w8.heap.size) := Nat.le_trans HB1d.out.size hb8.size
  have hs8 : (ldT 60 (.pointer (some ⟨g13, 0, none⟩))).run Tryz.prog w8 = .ok (.agg (mcs M (some ⟨sb, 0, none⟩) 1 co cc)) w8 := run_ldA ty_man HC8.out 0 (Nat.le_of_ble_eq_true rfl)
  clear hrc hn8 hlc hb8
  refine hK _ _ ?_
  clear hK K
  refine wpTo_run (i := 5) (by kernel_rfl) rfl (fun _ => hs8) (fun K hK => ?_)
  go_simp
  go_at_call 71
  obtain ⟨l, hl⟩ : ∃ l, l = cnRecs pl y := ⟨_, rfl⟩
  have hlen : l.length ≤ 400000 := by rw [hl, cnRecs_len]; have h1 := HOK.out.2.1; have h2 := HFF.out.2.1; have h3 := HFF.out.2.2.1; have h4 := HYA.out.2; rw [h4]; omega
  have hlf : ∀ r ∈ l, r.fit := fun r hr => (cnRecs_fit (pl := pl) HOK.out.1 r (by rw [← hl]; exact hr)).1
  have hra : RcsAt w8 a8 l := by rw [hl]; exact HRC8.out
  rw [← hl] at HR0 ⊢
  have HLN := Lib.hid (And.intro hlen (And.intro hlf hra))
  clear hl hlen hlf hra
  have HFAR : Hid (∀ x, mbl M (some ⟨sb, 0, none⟩) co x → ¬ (V1 x ∨ x = gj ∨ (y.ah ≠ [] ∧ ∃ a, ao = some a ∧ a.block = x))) := fun x hx hv => by
    have h1 := HSZ.out
    have h2 := HGS.out
    rcases hx with ⟨_, a, e, rfl⟩ | ⟨h0, a, e, rfl⟩
    · cases e
      dsimp only at hv
      rcases hv with hv | hv | ⟨h3, b, e2, h4⟩
      · have := HV1L.out _ hv; omega
      · omega
      · have := HAY.out b e2 h3; omega
    · rw [HCK.out.1] at h0
      have h3 := HMB.out a.block (.inr ⟨h0, a, e, rfl⟩)
      rcases hv with hv | hv | ⟨h4, b, e2, h5⟩
      · exact h3.2.2 hv
      · omega
      · exact (HAY.out b e2 h4).2.2.2 (.inr ⟨h0, a, e, h5.symm⟩)
  have HVC : Hid (¬ (V1 1 ∨ 1 = gj ∨ (y.ah ≠ [] ∧ ∃ a, ao = some a ∧ a.block = 1))) := fun hv => by
    have h1 := HSZ.out
    have h2 := HTL.out
    rcases hv with hv | hv | ⟨h3, b, e2, h4⟩
    · exact HV1.out hv
    · omega
    · have := HAY.out b e2 h3; omega
  have HBXF : Hid (∀ x, w.heap.size ≤ x → x ≤ g9 + 1 → x < wa.heap.size ∨ g9 ≤ x → ¬ ((V1 x ∨ x = gj ∨ (y.ah ≠ [] ∧ ∃ a, ao = some a ∧ a.block = x)) ∨ mbl M (some ⟨sb, 0, none⟩) co x)) := fun x h1 h2 h3 hv => by
    have h4 := HSZ.out
    have h5 := HGS.out
    rcases hv with (hv | hv | ⟨h6, b, e2, h7⟩) | (⟨_, a, e, h6⟩ | ⟨h0, a, e, h6⟩)
    · rcases h3 with h3 | h3
      · exact HV1N.out x h1 h3 hv
      · have := HV1L.out x hv; omega
    · omega
    · have := HAY.out b e2 h6; omega
    · cases e; dsimp only at h6; omega
    · rw [HCK.out.1] at h0
      have := HMB.out a.block (.inr ⟨h0, a, e, rfl⟩); omega
  have HG13F : Hid (¬ ((V1 g13 ∨ g13 = gj ∨ (y.ah ≠ [] ∧ ∃ a, ao = some a ∧ a.block = g13)) ∨ mbl M (some ⟨sb, 0, none⟩) co g13)) := fun hv => by
    have h4 := HSZ.out
    have h5 := HGS.out
    rcases hv with (hv | hv | ⟨h6, b, e2, h7⟩) | (⟨_, a, e, h6⟩ | ⟨h0, a, e, h6⟩)
    · have := HV1L.out _ hv; omega
    · omega
    · have := HAY.out b e2 h6; omega
    · cases e; dsimp only at h6; omega
    · rw [HCK.out.1] at h0
      have := HMB.out a.block (.inr ⟨h0, a, e, rfl⟩); omega
  have HBC : Hid (w8.cell? ⟨w.heap.size, 0, none⟩ = some (.pointer (some ⟨gp, 0, none⟩))) := by
    have := (HL8.out.get 0 rfl : Cells _ _ _ _).cell 0
    exact this
  have HPN2 : Hid ((swP q M (SBP P1 q (hdM M) l)).n + 100 < 1000000) := by
    have h1 := (SBP_says P1 q (hdM M) l).2.2
    have h2 := (swP_says q M (SBP P1 q (hdM M) l)).2.2
    have h3 := HPN1.out
    show _ < _
    omega
  have HJN2 : Hid (JnF ⟨rows, y.c, y.ah, y.c, os, M, 0, false⟩) := by
    have h := HJN.out
    refine ⟨h.o, h.ah, h.ahl, h.sy, h.os, h.ap, h.rows, ?_, ?_, ?_⟩
    · show M.pl ≤ 1; rw [HCK.out.2.2.2.2]; exact HPL.out.1
    · have := HCK.out.2.1; show M.sg.length ≤ _; omega
    · have := HCK.out.2.2.1; show M.ck.length ≤ _; omega
  obtain ⟨A, hA, hAe, hAp, hAj⟩ := op_ans q pl P1 M y l (decide (m.ep = 0)) rows os HOS.out
  refine (jbegin_cb (K := 81) (cap := #[.pointer (some ⟨w.heap.size, 0, none⟩), .pointer (some ⟨g13, 0, none⟩)]) (e2 := ((clr q (jfs M) (swP q M (SBP P1 q (hdM M) l)).names (swP q M (SBP P1 q (hdM M) l))).1 : Nat)) (p2 := (clr q (jfs M) (swP q M (SBP P1 q (hdM M) l)).names (swP q M (SBP P1 q (hdM M) l))).2) (j2 := ⟨rows, y.c, y.ah, y.c, os, M, 0, false⟩) l (enters Tryz.func81 (by kernel_rfl) rfl) w8 HJ8.out HM8.out ⟨by rw [HCK.out.2.1]; exact Nat.le_refl _, by decide⟩ HFAR.out HJN2.out (by have := HPN1.out; omega) (tab_below HT1.out HB18.out) HVC.out HLN.out.2.1 HLN.out.1 HLN.out.2.2 fun _ _ w10 V10 h10 t10 m10 => open1_cb w.heap.size g13 w10 h10 (t10.tu.cell HBC.out (HBXF.out w.heap.size (Nat.le_refl _) (by have := HSZ.out; omega) (.inl (by have := HSZ.out; omega)))) (Cells.tu HC8.out t10.tu HG13F.out) m10 (by have := HCK.out.2.1; omega) (by have := HCK.out.2.2.1; omega) HPN2.out).mono ?_
  rw [← hA]
  rintro R w9 ⟨rfl, V9, hj9, hb9, ht9⟩
  have HAN := Lib.hid (And.intro hAe (And.intro hAp hAj))
  have HJ9 := Lib.hid hj9
  have HJB9 := Lib.hid hb9
  have HT9 := Lib.hid ht9
  clear hA hAe hAp hAj hj9 hb9 ht9
  refine hK _ _ ?_
  clear hK K
  refine wpTo_run (i := 6) (by kernel_rfl) rfl (wpTo_off (by kernel_rfl)) (fun K hK => ?_)
  go_simp
  refine hK _ _ ?_
  clear hK K
  refine wpTo_done (by kernel_rfl) (by kernel_rfl) ?_
  clear hs0 hs8 hmf
  have HTO9 : Hid (JTo V w V9 w9) := (HTO1.out.newer (A := fun x => (V1 x ∨ x = gj ∨ (y.ah ≠ [] ∧ ∃ a, ao = some a ∧ a.block = x)) ∨ mbl M (some ⟨sb, 0, none⟩) co x) HB18.out fun x hx => by
    have h4 := HSZ.out
    have h5 := HGS.out
    rcases hx with (hv | hv | ⟨h6, b, e2, h7⟩) | (⟨_, a, e, h6⟩ | ⟨h0, a, e, h6⟩)
    · exact .inl hv
    · right; omega
    · right; have := HAY.out b e2 h6; omega
    · right; cases e; dsimp only at h6; omega
    · right
      rw [HCK.out.1] at h0
      have := HMB.out a.block (.inr ⟨h0, a, e, rfl⟩)
      omega).trans HT9.out
  have HL9 : Hid (Loc w.heap.size w9 w9 [(w.heap.size, 50, #[.pointer (some ⟨gp, 0, none⟩)]), (w.heap.size + 1, 49, fz), (g9, 60, mcs m so sc co cc), (g9 + 1, 133, cts y ao ac po2 pc2)]) := HL8.out.rebase HT9.out.tu (fun e he => by
    have h4 := HSZ.out
    have hz := HL8.out.ge e he
    rcases List.mem_cons.1 he with rfl | he
    · exact HBXF.out _ (Nat.le_refl _) (by dsimp only; omega) (.inl (by dsimp only; omega))
    rcases List.mem_cons.1 he with rfl | he
    · exact HBXF.out _ (by dsimp only; omega) (by dsimp only; omega) (.inl (by dsimp only; omega))
    rcases List.mem_cons.1 he with rfl | he
    · exact HBXF.out _ (by dsimp only; omega) (by dsimp only; omega) (.inr (by dsimp only; omega))
    rw [List.mem_singleton] at he
    subst he
    exact HBXF.out _ (by dsimp only; omega) (by dsimp only; omega) (.inr (by dsimp only; omega)))
  have HC9 := Lib.hid (Cells.tu HC8.out HT9.out.tu HG13F.out)
  have HPV : Hid (∀ a, po2 = some a → y.ps ≠ [] → ¬ ((V1 a.block ∨ a.block = gj ∨ (y.ah ≠ [] ∧ ∃ b, ao = some b ∧ b.block = a.block)) ∨ mbl M (some ⟨sb, 0, none⟩) co a.block)) := fun a e h0 hv => by
    have h1 := HPO.out a e h0
    have h4 := HSZ.out
    have h5 := HGS.out
    rcases hv with (hv | hv | ⟨h6, b, e2, h7⟩) | (⟨_, b, e2, h6⟩ | ⟨h0', b, e2, h6⟩)
    · exact h1.2.2.1 hv
    · omega
    · exact h1.2.2.2.1 b e2 (by rw [← HYA.out.2]; exact h6) h7
    · cases e2; dsimp only at h6; omega
    · rw [HCK.out.1] at h0'
      exact h1.2.2.2.2 (.inr ⟨h0', b, e2, h6⟩)
  have HP9 : Hid (∀ a, po2 = some a → y.ps ≠ [] → wa.heap.size ≤ a.block ∧ ¬ V9 a.block) := fun a e h0 => ⟨(HPO.out a e h0).1, fun hv => by
    have h1 := HPO.out a e h0
    have h4 := HSZ.out
    rcases HT9.out.more _ hv with h6 | h6
    · exact HPV.out a e h0 h6
    · have := HB18.out.size; omega⟩
  have HV9N : Hid (¬ V9 (w.heap.size + 1) ∧ w.heap.size + 1 < w9.heap.size ∧ (∀ x, V9 x → x < w9.heap.size)) := ⟨fun hv => by
    have h4 := HSZ.out
    have h6 := HB18.out.size
    rcases HT9.out.more _ hv with h | h
    · exact HBXF.out _ (by omega) (by omega) (.inl (by omega)) h
    · omega, HL9.out.low (e := (w.heap.size + 1, 49, fz)) (by simp), HJ9.out.lt⟩
  have HPR9 : Hid (PrAt w9 po2 y.ps) := HY8.out.prs.tu HT9.out.tu fun h0 a e => HPV.out a e h0
  have HCP := Lib.hid (And.intro HY8.out.ic HY8.out.pc)
  have HJC9 := HJ9
  obtain ⟨O, hO⟩ : ∃ O, O = opB q pl P1 M y l (decide (m.ep = 0)) := ⟨_, rfl⟩
  rw [← hO] at HAN HR0
  clear hO
  obtain ⟨⟨eA, pA, jA⟩, hA⟩ : ∃ B, B = A := ⟨_, rfl⟩
  rw [← hA] at HAN HJB9 HJC9 ⊢
  clear hA
  dsimp only at HAN HJB9 HJC9 ⊢
  clear HJ9 HL8 HRC8 HM8 HC8 HY8 HBC HPN2 HJN2 HFAR HVC HLN HJ8 HRC HJd HMd HCd HYd HLd HB1d HS8
  by_cases hea : eA = 0
  case neg =>
    have hq3 : (eA != 0) = true := by rw [bne_iff_ne]; exact hea
    obtain ⟨w10, s10, H10, q10⟩ := HL9.out.stA ty_found 1 rfl 0 #[.int .u64 0, .bool false, .slice none 0 0, .int .u64 0, .slice none 0 0, .slice none 0 0] (cs' := fz) rfl (L' := [(w.heap.size, 50, #[.pointer (some ⟨gp, 0, none⟩)]), (w.heap.size + 1, 49, fz), (g9, 60, mcs m so sc co cc), (g9 + 1, 133, cts y ao ac po2 pc2)]) rfl (Nat.le_of_ble_eq_true rfl) rfl rfl
    have HFin : Hid (Q (.returned (.tuple #[.pointer none, .agg fz, .int .i64 eA])) w10) := by
      show Q _ _
      rw [HQ.out, HR0.out]
      refine .inl ⟨by rw [← HAN.out.1]; exact hea, by rw [← HAN.out.1], V9, ?_, HTO9.out.below H10.be⟩
      rw [← HAN.out.2.1]
      exact HJC9.out.pj.tu (Tu.of_same q10) fun x hx e => HV9N.out.1 (e ▸ hx)
    have HC10 : Hid (Cells w10 (w.heap.size + 1) 49 fz) := H10.get 1 rfl
    clear H10 q10 hea
    go_wp2
    refine bodyPost_ret (shut_op _ _ eA _ Tryz.results28 ty_found HC10.out rfl rfl rfl rfl) rfl ?_
    exact HFin.out
  case pos =>
  have hq3 : (eA != 0) = false := by rw [hea]; rfl
  obtain ⟨k1, k2, k3, k4⟩ := HAN.out.2.2 hea
  have HIN : Hid (InAt w9 ao y.ah ∧ NsAt w9 co M.ck) := by
    obtain ⟨S9, hx9⟩ := HJB9.out hea
    have h1 := hx9.jn.ins
    have h2 := hx9.jn.man.ns
    have e1 : jA.ah = y.ah := by rw [k1]; show O.x.ah = _; rw [k3]
    have e2 : jA.m = M := by rw [k1]; exact k2
    rw [e1] at h1
    rw [e2] at h2
    exact ⟨h1, h2⟩
  have HKK := Lib.hid (And.intro k1 (And.intro k2 (And.intro k3 k4)))
  have HEA := Lib.hid hea
  clear k1 k2 k3 k4 hea HJB9
  go_upto_region 12 with fail
  have HBd : Hid (Below w9.heap.size w9 w9.drew) := (Below.refl _ w9).drew
  have HLd := Lib.hid HL9.out.drew
  have HCd := Lib.hid (cells_new HC9.out HBd.out)
  have HINd := Lib.hid (And.intro (HIN.out.1.to HBd.out) (And.intro (HIN.out.2.to HBd.out) (HPR9.out.to HBd.out)))
  generalize hwd : w9.drew = wd at *
  have a1 : ∀ W, G.On wd.heap.size wd W → (ldT 37 (.pointer (some ⟨g13, 0, none⟩))).run Tryz.prog W = .ok (.int .u64 (M.ep : Int)) W := fun W hW => run_ldO ty_u64 (cells_new HCd.out hW) 0 rfl
  have a2 := HLd.out.onA ty_man 2 rfl 0 (vs := mcs m so sc co cc) rfl (Nat.le_of_ble_eq_true rfl)
  have a3 : ∀ W, G.On wd.heap.size wd W → (ldT 41 (.pointer (some ⟨g13, 3, none⟩))).run Tryz.prog W = .ok (.slice co M.ck.length cc) W := fun W hW => run_ldO ty_nums' (cells_new HCd.out hW) 3 rfl
  have a4 := HLd.out.onO ty_u64 3 rfl 2 (v := .int .u64 (y.fr : Int)) rfl
  have a5 := HLd.out.onO ty_prs 3 rfl 3 (v := .slice po2 y.ps.length pc2) rfl
  have a6 := HLd.out.onO ty_inps 3 rfl 1 (v := .slice ao y.ah.length ac) rfl
  have o0 : G.On wd.heap.size wd wd := Below.refl _ wd
  refine wp_region_to (K := [2, 4, 6, 7, 9, 11, 13, 14, 15, 16, 17, 18]) (S := fun W => G.On wd.heap.size wd W) (by kernel_rfl) ?_
  rw [hwd]
  clear hwd
  refine wpTo_take (i := 0) (v := ?vk0) rfl (by kernel_rfl) (fun _ _ _ h => h) (Or.inl ⟨by rfl, ?hyk0⟩) o0 ?restk0
  case hyk0 => (rintro W hW; go_simp; try with_reducible rfl)
  simp only [Act.put, List.setIfInBounds_toArray, List.set_cons_zero, List.set_cons_succ, List.getElem_toArray, List.getElem_cons_succ, List.getElem_cons_zero]
  refine wpTo_take (i := 1) (v := ?vk1) rfl (by kernel_rfl) (fun _ _ _ h => h) (Or.inl ⟨by rfl, ?hyk1⟩) o0 ?restk1
  case hyk1 => (rintro W hW; go_simp; try with_reducible rfl)
  simp only [Act.put, List.setIfInBounds_toArray, List.set_cons_zero, List.set_cons_succ, List.getElem_toArray, List.getElem_cons_succ, List.getElem_cons_zero]
  refine wpTo_take (i := 2) (v := ?vk2) rfl (by kernel_rfl) (fun _ _ _ h => h) (Or.inl ⟨by rfl, ?hyk2⟩) o0 ?restk2
  case hyk2 => (rintro W hW; go_simp; try with_reducible rfl)
  simp only [Act.put, List.setIfInBounds_toArray, List.set_cons_zero, List.set_cons_succ, List.getElem_toArray, List.getElem_cons_succ, List.getElem_cons_zero]
  refine wpTo_take (i := 3) (v := ?vk3) rfl (by kernel_rfl) (fun _ _ _ h => h) (Or.inl ⟨by rfl, ?hyk3⟩) o0 ?restk3
  case hyk3 => (rintro W hW; go_simp; try with_reducible rfl)
  simp only [Act.put, List.setIfInBounds_toArray, List.set_cons_zero, List.set_cons_succ, List.getElem_toArray, List.getElem_cons_succ, List.getElem_cons_zero]
  refine wpTo_take (i := 5) (v := ?vk5) rfl (by kernel_rfl) (fun _ _ _ h => h) (Or.inl ⟨by rfl, ?hyk5⟩) o0 ?restk5
  case hyk5 => (rintro W hW; go_simp; try with_reducible rfl)
  simp only [Act.put, List.setIfInBounds_toArray, List.set_cons_zero, List.set_cons_succ, List.getElem_toArray, List.getElem_cons_succ, List.getElem_cons_zero]
  refine wpTo_take (i := 6) (v := ?vk6) rfl (by kernel_rfl) (fun _ _ _ h => h) (Or.inl ⟨by rfl, ?hyk6⟩) o0 ?restk6
  case hyk6 => (rintro W hW; go_simp; try with_reducible rfl)
  simp only [Act.put, List.setIfInBounds_toArray, List.set_cons_zero, List.set_cons_succ, List.getElem_toArray, List.getElem_cons_succ, List.getElem_cons_zero]
  refine wpTo_take (i := 8) (v := ?vk8) rfl (by kernel_rfl) (fun _ _ _ h => h) (Or.inl ⟨by rfl, ?hyk8⟩) o0 ?restk8
  case hyk8 => (rintro W hW; go_simp; try with_reducible rfl)
  simp only [Act.put, List.setIfInBounds_toArray, List.set_cons_zero, List.set_cons_succ, List.getElem_toArray, List.getElem_cons_succ, List.getElem_cons_zero]
  refine wpTo_take (i := 9) (v := ?vk9) rfl (by kernel_rfl) (fun _ _ _ h => h) (Or.inl ⟨by rfl, ?hyk9⟩) o0 ?restk9
  case hyk9 => (rintro W hW; go_simp; try with_reducible rfl)
  simp only [Act.put, List.setIfInBounds_toArray, List.set_cons_zero, List.set_cons_succ, List.getElem_toArray, List.getElem_cons_succ, List.getElem_cons_zero]
  refine wpTo_take (i := 10) (v := ?vk10) rfl (by kernel_rfl) (fun _ _ _ h => h) (Or.inl ⟨by rfl, ?hyk10⟩) o0 ?restk10
  case hyk10 => (rintro W hW; go_simp; try with_reducible rfl)
  simp only [Act.put, List.setIfInBounds_toArray, List.set_cons_zero, List.set_cons_succ, List.getElem_toArray, List.getElem_cons_succ, List.getElem_cons_zero]
  refine wpTo_take (i := 11) (v := ?vk11) rfl (by kernel_rfl) (fun _ _ _ h => h) (Or.inl ⟨by rfl, ?hyk11⟩) o0 ?restk11
  case hyk11 => (rintro W hW; go_simp; try with_reducible rfl)
  simp only [Act.put, List.setIfInBounds_toArray, List.set_cons_zero, List.set_cons_succ, List.getElem_toArray, List.getElem_cons_succ, List.getElem_cons_zero]
  refine wpTo_take (i := 12) (v := ?vk12) rfl (by kernel_rfl) (fun _ _ _ h => h) (Or.inl ⟨by rfl, ?hyk12⟩) o0 ?restk12
  case hyk12 => (rintro W hW; go_simp; try with_reducible rfl)
  simp only [Act.put, List.setIfInBounds_toArray, List.set_cons_zero, List.set_cons_succ, List.getElem_toArray, List.getElem_cons_succ, List.getElem_cons_zero]
  refine wpTo_take (i := 13) (v := ?vk13) rfl (by kernel_rfl) (fun _ _ _ h => h) (Or.inl ⟨by rfl, ?hyk13⟩) o0 ?restk13
  case hyk13 => (rintro W hW; go_simp; try with_reducible rfl)
  simp only [Act.put, List.setIfInBounds_toArray, List.set_cons_zero, List.set_cons_succ, List.getElem_toArray, List.getElem_cons_succ, List.getElem_cons_zero]
  refine wpTo_take (i := 14) (v := ?vk14) rfl (by kernel_rfl) (fun _ _ _ h => h) (Or.inl ⟨by rfl, ?hyk14⟩) o0 ?restk14
  case hyk14 => (rintro W hW; go_simp; try with_reducible rfl)
  simp only [Act.put, List.setIfInBounds_toArray, List.set_cons_zero, List.set_cons_succ, List.getElem_toArray, List.getElem_cons_succ, List.getElem_cons_zero]
  refine wpTo_run (i := 4) (by kernel_rfl) rfl (fun _ => o0) (fun K hK => ?_)
  go_simp
  go_at_call 82
  refine (fresh_c wd).mono ?_
  rintro R w10 ⟨rfl, hb10⟩
  have o10 : G.On wd.heap.size wd w10 := hb10
  clear hb10
  refine hK _ _ ?_
  clear hK K
  refine wpTo_run (i := 7) (by kernel_rfl) rfl (fun _ => o10) (fun K hK => ?_)
  go_simp
  go_at_call 68
  refine (nclone_c co M.ck cc w10 (HINd.out.2.1.to o10) (by have := HCK.out.2.2.1; omega)).mono ?_
  rintro R w11 ⟨co2, cc2, rfl, hn11, hnb11, hnc11, hnm11, hb11, _⟩
  have o11 : G.On wd.heap.size wd w11 := o10.trans (hb11.mono o10.size)
  have HN11 := Lib.hid (And.intro hn11 (And.intro (And.intro hnc11 hnm11) (fun a (e : co2 = some a) => show wd.heap.size ≤ a.block from Nat.le_trans o10.size (hnb11 a e).1)))
  clear hn11 hnb11 hnc11 hnm11 hb11
  refine hK _ _ ?_
  clear hK K
  refine wpTo_run (i := 15) (by kernel_rfl) rfl (fun _ => o11) (fun K hK => ?_)
  go_simp
  go_at_call 83
  refine (inclone_c ao y.ah ac w11 (HINd.out.1.to o11) (by have h3 := HFF.out.2.2.1; have h4 := HYA.out.2; rw [h4]; omega)).mono ?_
  rintro R w12 ⟨io, ic, rfl, hi12, hib12, hic12, him12, hb12, _⟩
  have o12 : G.On wd.heap.size wd w12 := o11.trans (hb12.mono o11.size)
  have HI12 := Lib.hid (And.intro hi12 (And.intro (And.intro hic12 him12) (fun a (e : io = some a) => show wd.heap.size ≤ a.block from Nat.le_trans o11.size (hib12 a e).1)))
  have HN12 := Lib.hid (HN11.out.1.to hb12)
  clear hi12 hib12 hic12 him12 hb12
  obtain ⟨w13, s13, H13, q13⟩ := (HLd.out.to o12).stA ty_found 1 rfl 0 #[.int .u64 (M.ep : Int), .bool (decide (m.ep = 0)), .slice co2 M.ck.length cc2, .int .u64 (y.fr : Int), .slice po2 y.ps.length pc2, .slice io y.ah.length ic] (cs' := #[.int .u64 (M.ep : Int), .bool (decide (m.ep = 0)), .slice co2 M.ck.length cc2, .int .u64 (y.fr : Int), .slice po2 y.ps.length pc2, .slice io y.ah.length ic]) rfl (L' := [(w.heap.size, 50, #[.pointer (some ⟨gp, 0, none⟩)]), (w.heap.size + 1, 49, #[.int .u64 (M.ep : Int), .bool (decide (m.ep = 0)), .slice co2 M.ck.length cc2, .int .u64 (y.fr : Int), .slice po2 y.ps.length pc2, .slice io y.ah.length ic]), (g9, 60, mcs m so sc co cc), (g9 + 1, 133, cts y ao ac po2 pc2)]) rfl (Nat.le_of_ble_eq_true rfl) rfl rfl
  have HL13 := Lib.hid H13
  have HQ13 := Lib.hid q13
  clear H13 q13
  refine hK _ _ ?_
  clear hK K
  refine wpTo_take (i := 16) (v := ?vk16) rfl (by kernel_rfl) (fun _ _ _ h => h) (Or.inl ⟨by rfl, ?hyk16⟩) o12 ?restk16
  case hyk16 => (rintro W hW; go_simp; try with_reducible rfl)
  simp only [Act.put, List.setIfInBounds_toArray, List.set_cons_zero, List.set_cons_succ, List.getElem_toArray, List.getElem_cons_succ, List.getElem_cons_zero]
  refine wpTo_run (i := 17) (by kernel_rfl) rfl (fun _ => o12) (fun K hK => ?_)
  go_simp
  refine hK _ _ ?_
  clear hK K
  refine wpTo_run (i := 18) (by kernel_rfl) rfl (fun _ => o12) (fun K hK => ?_)
  go_simp
  refine hK _ _ ?_
  clear hK K
  refine wpTo_run (i := 19) (by kernel_rfl) rfl (wpTo_off (by kernel_rfl)) (fun K hK => ?_)
  go_simp
  refine hK _ _ ?_
  clear hK K
  refine wpTo_done (by kernel_rfl) (by kernel_rfl) ?_
  have HO12 := Lib.hid o12
  have HFin : Hid (Q (.returned (.tuple #[.pointer (some ⟨gj, 0, none⟩), .agg #[.int .u64 (M.ep : Int), .bool (decide (m.ep = 0)), .slice co2 M.ck.length cc2, .int .u64 (y.fr : Int), .slice po2 y.ps.length pc2, .slice io y.ah.length ic], .int .i64 0])) w13) := by
    show Q _ _
    obtain ⟨k1, k2, k3, k4⟩ := HKK.out
    have he := HAN.out.1
    have hp := HAN.out.2.1
    have hsz := HSZ.out
    have hv9 := HV9N.out
    have kt : Tu (fun x => x = w.heap.size + 1) w12 w13 := Tu.of_same HQ13.out
    have hbw : Below w9.heap.size w9 w12 := HBd.out.trans (HO12.out.mono HBd.out.size)
    have hww : wd.heap.size = w9.heap.size ∨ w9.heap.size ≤ wd.heap.size := .inr HBd.out.size
    have hgo : w.heap.size + 1 < wd.heap.size := Nat.lt_of_lt_of_le hv9.2.1 HBd.out.size
    rw [HQ.out, HR0.out]
    refine .inr ⟨by rw [← he]; exact HEA.out, gj, co2, cc2, po2, pc2, io, ic, V9, ?_, ?_, HTO9.out.below (hbw.mono ?_ |>.trans (kt.below (fun x hx e => by omega) ?_)), ?_⟩
    · show (Ending.returned _ : Ending) = _
      unfold fcs
      rw [k2, k3, k4]
    · rw [← hp, ← k1]
      exact (HJC9.out.new hbw).tu kt fun x hx e => hv9.1 (e ▸ hx)
    · have := HTO9.out.tu.size; omega
    · have := HTO9.out.tu.size; have := hbw.size; omega
    · rw [k2, k3]
      refine ⟨HN12.out.tuS kt fun _ a e h => ?_, (HINd.out.2.2.to HO12.out).tu kt fun h0 a e h => ?_, HI12.out.1.tu kt fun h0 a e h => ?_, HN11.out.2.1, HCP.out.2, HI12.out.2.1, fun a e h0 => ⟨?_, fun hv => ?_⟩, fun a e h0 => ⟨?_, (HP9.out a e h0).2⟩, fun a e h0 => ⟨?_, fun hv => ?_⟩, HOK.out.1⟩
      · have := HN11.out.2.2 a e; omega
      · have := (HP9.out a e h0).1; omega
      · have := HI12.out.2.2 a e; omega
      · have := HN11.out.2.2 a e; omega
      · have := HN11.out.2.2 a e; have := hv9.2.2 _ hv; have := HBd.out.size; omega
      · have := (HP9.out a e h0).1; omega
      · have := HI12.out.2.2 a e; omega
      · have := HI12.out.2.2 a e; have := hv9.2.2 _ hv; have := HBd.out.size; omega
  have HC13 : Hid (Cells w13 (w.heap.size + 1) 49 #[.int .u64 (M.ep : Int), .bool (decide (m.ep = 0)), .slice co2 M.ck.length cc2, .int .u64 (y.fr : Int), .slice po2 y.ps.length pc2, .slice io y.ah.length ic]) := HL13.out.get 1 rfl
  clear a1 a2 a3 a4 a5 a6 o0 o10 o11 o12 s13
  go_wp2
  refine bodyPost_ret (shut_op _ _ 0 _ Tryz.results28 ty_found HC13.out rfl rfl rfl rfl) rfl ?_
  exact HFin.out
end
end Go.Proofs.YtgeaacabpnepmaaGreatDoor
