/- Texts of the walk. -/
import Derived.Test.YtgeaacabpnepmaaGreatDoorLa8
import Derived.Test.YtgeaacabpnepmaaGreatDoorMe8
/- Keep. -/
namespace Go.Proofs.YtgeaacabpnepmaaGreatDoor
open Go.RowKit
set_option linter.unusedVariables false
set_option linter.unusedSimpArgs false
set_option maxRecDepth 20000

section
variable {V : Nat → Prop} {w w1 : World} {gj gp q kc : Nat} {dv : Value} {ko : Option Addr} {p : Pw} {j : Jn} {so co ao : Option Addr} {sc cc ac : Nat} {m : Mf}
theorem keep_ans (q : Nat) (p : Pw) (j : Jn) (b : Nat) (ck : List Nat) (hb : j.br = false) (hk : (⟨j.m.ep, j.m.pl, j.m.sg, ck⟩ : Mf).ok = true) :
    swA q p j (kpM j b ck) ((clr q (jfs (kpM j b ck)) (swP q (kpM j b ck) p).names (swP q (kpM j b ck) p)).1 : Nat) (clr q (jfs (kpM j b ck)) (swP q (kpM j b ck) p).names (swP q (kpM j b ck) p)).2 { j with m := kpM j b ck } = jKeep q p j b ck := by
  unfold swA jKeep jsE jsP
  rw [if_neg (show ¬ j.br = true by rw [hb]; exact Bool.false_ne_true), if_neg (show ¬ (⟨j.m.ep, j.m.pl, j.m.sg, ck⟩ : Mf).ok = false by rw [hk]; exact fun h => Bool.noConfusion h)]
  by_cases h : swE q (kpM j b ck) p = 0
  · simp only [if_pos h]; rfl
  · simp only [if_neg h]
attribute [local go_sem ↓] ld_pw ld_man st_man ld_parts' st_parts' st_nums' ld_jp ld_u64
theorem keep1_c (b g : Nat) (w : World) (h : JC V w gj gp q dv ko kc p j) (hb : w.cell? ⟨b, 0, none⟩ = some (.pointer (some ⟨gj, 0, none⟩))) (hc : Cells w g 60 (mcs m so sc co cc)) (hm : MfAt w m so co) (h1 : m.sg.length ≤ 400) (h2 : m.ck.length ≤ 400) (hn : p.n + 100 < 1000000) :
    Calls Tryz.prog 76 #[.pointer (some ⟨b, 0, none⟩), .pointer (some ⟨g, 0, none⟩)] w (JPost V w gj gp q dv ko kc ((clr q (jfs m) p.names p).1 : Nat) (clr q (jfs m) p.names p).2 j) := by
  have HJ := Lib.hid h
  have HM := Lib.hid hm
  have HSZ := Lib.hid (And.intro h1 (And.intro h2 hn))
  have HB := Lib.hid hb
  have HC := Lib.hid hc
  obtain ⟨Q, hQ⟩ : ∃ Q : Ending → World → Prop, Q = JPost V w gj gp q dv ko kc ((clr q (jfs m) p.names p).1 : Nat) (clr q (jfs m) p.names p).2 j := ⟨_, rfl⟩
  rw [← hQ]
  have HQ := Lib.hid hQ
  clear h hb hc hm h1 h2 hn hQ
  go_enter Tryz.func76, Tryz.ntmps76
  go_upto_region 1 with fail
  obtain ⟨wd, hwd⟩ : ∃ wd, ({ w with drawn := w.drawn + 1 } : World) = wd := ⟨_, rfl⟩
  have hbd : Below w.heap.size w wd := by rw [← hwd]; exact (Below.refl _ w).drew
  have HJd := Lib.hid (HJ.out.new hbd)
  have HMd := Lib.hid (HM.out.to hbd)
  have HBd := Lib.hid hbd
  have l1 := run_ldC ty_jp (show wd.cell? ⟨b, 0, none⟩ = some (.pointer (some ⟨gj, 0, none⟩)) by rw [← hwd]; exact HB.out)
  have l3 : (ldT 60 (.pointer (some ⟨g, 0, none⟩))).run Tryz.prog wd = .ok (.agg (mcs m so sc co cc)) wd := run_ldA ty_man (cells_new HC.out hbd) 0 (Nat.le_of_ble_eq_true rfl)
  obtain ⟨S, ao, ac, so2, sc2, co2, cc2, hx⟩ := HJd.out
  have l2 := run_ldO ty_pw hx.jn.blk 0 (v := .pointer (some ⟨gp, 0, none⟩)) rfl
  obtain ⟨Vp, hpj, hback⟩ := HJd.out.split
  have HPJ := Lib.hid hpj
  have HBK := Lib.hid hback
  clear hx hpj hback hbd
  refine wp_region_still_tail 5 (by kernel_rfl) (by kernel_rfl) ?_
  simp only [List.take_succ_cons, List.take_zero, List.drop_succ_cons, List.drop_zero]
  rw [hwd]
  clear hwd
  repeat still_step
  refine wpStill_nil ?_
  clear l1 l2 l3
  go_wp2_with fail
  refine (clear_c m so sc co cc wd HPJ.out HMd.out HSZ.out.1 HSZ.out.2.1 HSZ.out.2.2).mono ?_
  rintro R w2 ⟨rfl, Vp2, hp2, ht2⟩
  obtain ⟨V2, hj2, hto2⟩ := HBK.out w2 Vp2 _ hp2 (clr_says _ _ _ _).1 ht2
  have HFin : Hid (Q (.returned (.int .i64 ((clr q (jfs m) p.names p).1 : Nat))) w2) := by
    show Q _ _
    rw [HQ.out]
    exact ⟨rfl, V2, hj2, (JTo.new (V := V) HBd.out).trans hto2⟩
  clear hp2 ht2 hj2 hto2
  go_wp2
  exact HFin.out
def cnt2 (g : Nat) (w : World) : Nat := match w.cell? ⟨g, 2, none⟩ with | some (.slice _ n _) => n | _ => 0
theorem dropS_go {b : Nat} {s t : Nat × Nat} {l : List (Nat × Nat)} (h : t.2 ≤ b) : dropS b (s :: t :: l) = dropS b (t :: l) := if_pos h
theorem dropS_stop {b : Nat} {s t : Nat × Nat} {l : List (Nat × Nat)} (h : ¬ t.2 ≤ b) : dropS b (s :: t :: l) = s :: t :: l := if_neg h
theorem dropS_len (b : Nat) : ∀ (l : List (Nat × Nat)), l.length ≤ 1 → dropS b l = l
  | [], _ => rfl
  | [s], _ => rfl
  | s :: t :: l, h => by simp at h
theorem PsAt.tail {w : World} {x o : Nat} {s : Nat × Nat} {l : List (Nat × Nat)} (h : PsAt w (some ⟨x, o, none⟩) (s :: l)) : PsAt w (some ⟨x, o + 2, none⟩) l := fun k hk => by
  obtain ⟨b', o', e, hc⟩ := h (k + 1) (by simpa using hk)
  cases e
  exact ⟨x, o + 2, rfl, fun i v hv => by rw [show o + 2 + k * 2 + i = o + (k + 1) * 2 + i by omega]; exact hc i v (by simpa using hv)⟩
set_option maxHeartbeats 16000000 in
theorem jkeep_c (b : Nat) (ck : List Nat) (co0 : Option Addr) (cc0 : Nat) (w : World) (h : JC V w gj gp q dv ko kc p j) (hck : NsAt w co0 ck) (hcf : ckFit ck) (hcl : ck.length ≤ 400) (hbf : b < 18446744073709551616) (hn : p.n + 110 < 1000000) (ht : Tab w) :
    Calls Tryz.prog 27 #[.pointer (some ⟨gj, 0, none⟩), .int .u64 (b : Int), .slice co0 ck.length cc0] w (JPost V w gj gp q dv ko kc (jKeep q p j b ck).e (jKeep q p j b ck).p (jKeep q p j b ck).j) := by
  have HN := Lib.hid hn
  have HCK := Lib.hid (And.intro hck (And.intro hcf hcl))
  have H0 := Loc.one w 32 #[.pointer (some ⟨gj, 0, none⟩)]
  have HJ := Lib.hid (h.new H0.be)
  have HJ0 := Lib.hid h
  have HT0 := Lib.hid ht
  have HT := Lib.hid (tab_below ht H0.be)
  have HB := Lib.hid H0.be
  have HVL := Lib.hid h.lt
  have l0 := H0.ldO ty_jp 0 rfl 0 (v := .pointer (some ⟨gj, 0, none⟩)) rfl
  have H0' := Lib.hid H0
  obtain ⟨Q, hQ⟩ : ∃ Q : Ending → World → Prop, Q = JPost V w gj gp q dv ko kc (jKeep q p j b ck).e (jKeep q p j b ck).p (jKeep q p j b ck).j := ⟨_, rfl⟩
  rw [← hQ]
  have HQ := Lib.hid hQ
  clear h hn ht hck hcf hcl H0 hQ
  go_enter Tryz.func27, Tryz.ntmps27
  go_upto_region 1 with fail
  generalize hwa : w.alloc (.cells #[.pointer (some ⟨gj, 0, none⟩)] 32) = wa at *
  clear hwa
  have HW := Lib.hid (works_c wa HJ.out)
  cases hb : j.br
  case true =>
    have HFin : Hid (Q (.returned (.int .i64 13)) wa) := by
      show Q _ _
      rw [HQ.out, show jKeep q p j b ck = ⟨13, p, j⟩ from if_pos hb]
      exact ⟨rfl, V, HJ.out, JTo.new HB.out⟩
    rw [hb] at HW
    go_wp2_with fail
    refine HW.out.mono ?_
    rintro R w' ⟨rfl, rfl⟩
    go_wp2
    exact HFin.out
  case false =>
  rw [hb] at HW
  have HBR := Lib.hid hb
  have HM1 := Lib.hid (jman_c wa HJ.out)
  rw [show jMan j = j.m from if_neg (by rw [hb]; exact Bool.false_ne_true)] at HM1
  clear hb
  go_wp2_with fail
  refine HW.out.mono ?_
  rintro R w' ⟨rfl, rfl⟩
  go_wp2_with fail
  refine HM1.out.mono ?_
  rintro R w3 ⟨so2, sc2, co2, cc2, rfl, hm3, hs3, hc3, hn3, hb3, ho3, hco3⟩
  clear l0 HW HM1
  have HS3 := Lib.hid hs3
  have hL3 := H0'.out.to hb3
  obtain ⟨g4, w4, z4, s4, H4, q4⟩ := hL3.newA ty_man #[.int .u64 0, .int .u8 0, .slice none 0 0, .slice none 0 0] (mcs j.m so2 sc2 co2 cc2) rfl rfl rfl
  replace H4 : Loc w.heap.size w w4 [(w.heap.size, 32, #[.pointer (some ⟨gj, 0, none⟩)]), (g4, 60, mcs j.m so2 sc2 co2 cc2)] := H4
  have HPS : Hid (PsAt w4 so2 j.m.sg ∧ (∀ a, so2 = some a → j.m.sg ≠ [] → w.heap.size < a.block ∧ a.block < g4) ∧ j.m.fit) := ⟨(hm3.to (below_of_grown q4)).ps, fun a e h0 => by
    have h1 := hn3 _ (.inl ⟨h0, a, e, rfl⟩)
    have h2 := mbl_lt hm3 (.inl ⟨h0, a, e, rfl⟩)
    have h3 := (H0'.out.get 0 rfl : Cells wa w.heap.size _ _).lt
    omega, hm3.fit⟩
  obtain ⟨w5, s5, H5, q5⟩ := H4.stO ty_nums' 1 rfl 3 (.slice co0 ck.length cc0) (cs' := mcs ⟨j.m.ep, j.m.pl, j.m.sg, ck⟩ so2 sc2 co0 cc0) rfl (L' := [(w.heap.size, 32, #[.pointer (some ⟨gj, 0, none⟩)]), (g4, 60, mcs ⟨j.m.ep, j.m.pl, j.m.sg, ck⟩ so2 sc2 co0 cc0)]) rfl (Nat.le_of_ble_eq_true rfl) rfl rfl
  have k5 : Tu (fun x => x = g4) w4 w5 := Tu.of_same q5
  have HPS5 : Hid (PsAt w5 so2 j.m.sg) := HPS.out.1.tuS k5 fun h0 a e h => by have := HPS.out.2.1 a e h0; omega
  have H5' := Lib.hid H5
  have HM5 : Hid (MfAt w5 ⟨j.m.ep, j.m.pl, j.m.sg, ck⟩ so2 co0) := ⟨⟨HPS.out.2.2.ep, HPS.out.2.2.pl, HPS.out.2.2.sg, HCK.out.2.1⟩, HPS5.out, HCK.out.1.to H5.be, hm3.l1, by have := HCK.out.2.2; simp [maxLen]; omega⟩
  have l5 : (ldT 60 (.pointer (some ⟨g4, 0, none⟩))).run Tryz.prog w5 = .ok (.agg (mcs ⟨j.m.ep, j.m.pl, j.m.sg, ck⟩ so2 sc2 co0 cc0)) w5 := H5.ldA ty_man 1 rfl 0 rfl (Nat.le_of_ble_eq_true rfl)
  have HZ5 : Hid (w3.heap.size = g4 ∧ w.heap.size < g4) := ⟨z4, by have h3 := (H0'.out.get 0 rfl : Cells wa w.heap.size _ _).lt; have := hb3.size; omega⟩
  clear H5 H4 q4 q5 k5 hL3 hm3 hs3 hc3 hn3 hb3 ho3 hco3 HT
  go_wp2_with fail
  refine (mcheck_c ⟨j.m.ep, j.m.pl, j.m.sg, ck⟩ so2 sc2 co0 cc0 w5 HM5.out).mono ?_
  rintro R w6 ⟨rfl, hb6⟩
  have HL6 := Lib.hid (H5'.out.to hb6)
  have HP6 := Lib.hid (HPS5.out.to hb6)
  have HN6 := Lib.hid (HM5.out.to hb6).ns
  have HJ6 := Lib.hid (HJ0.out.new HL6.out.be)
  clear hb6 l5 s5 s4 z4
  cases hok : (⟨j.m.ep, j.m.pl, j.m.sg, ck⟩ : Mf).ok
  case false =>
    rw [(pt_no hok).2]
    have HFin : Hid (Q (.returned (.int .i64 4)) w6) := by
      show Q _ _
      rw [HQ.out, show jKeep q p j b ck = ⟨4, p, j⟩ from by unfold jKeep; rw [if_neg (by rw [HBR.out]; exact Bool.false_ne_true), if_pos hok]]
      exact ⟨rfl, V, HJ6.out, JTo.new HL6.out.be⟩
    clear hok
    go_wp2
    exact HFin.out
  case true =>
  rw [(pt_yes hok).2]
  have HOK := Lib.hid hok
  clear hok
  go_wp2_with fail
  refine (nclone_c co0 ck cc0 w6 HN6.out (by have := HCK.out.2.2; omega)).mono ?_
  rintro R w7 ⟨co3, cc3, rfl, hns, hnw, hc1, hc2, hb7, hown⟩
  obtain ⟨w8, s8, H8, q8⟩ := (HL6.out.to hb7).stO ty_nums' 1 rfl 3 (.slice co3 ck.length cc3) (cs' := mcs ⟨j.m.ep, j.m.pl, j.m.sg, ck⟩ so2 sc2 co3 cc3) rfl (L' := [(w.heap.size, 32, #[.pointer (some ⟨gj, 0, none⟩)]), (g4, 60, mcs ⟨j.m.ep, j.m.pl, j.m.sg, ck⟩ so2 sc2 co3 cc3)]) rfl (Nat.le_of_ble_eq_true rfl) rfl rfl
  have k8 : Tu (fun x => x = g4) w7 w8 := Tu.of_same q8
  have hg6 := (HL6.out.get 1 rfl : Cells w6 g4 _ _).lt
  have HC4 : Hid (∀ a, co3 = some a → g4 < a.block) := fun a e => by have := (hnw a e).1; omega
  have HC3 : Hid (∀ a, co3 = some a → w.heap.size < a.block) := fun a e => by have := HC4.out a e; have := HZ5.out.2; omega
  have HN8 := Lib.hid (hns.tuS k8 fun _ a e h => by have := HC4.out a e; omega)
  have HP8 := Lib.hid ((HP6.out.to hb7).tuS k8 fun h0 a e h => by have := HPS.out.2.1 a e h0; omega)
  have HL8 := Lib.hid H8
  clear hns hnw hc1 hc2 hb7 hown H8 q8 k8 hg6 HL6 HP6 HN6 HJ6 H5' HPS5 HM5
  go_wp2
  go_loopw [24] (fun v wr => ∃ (sg' : List (Nat × Nat)) (so' : Option Addr) (sc' : Nat), Hid (Loc w.heap.size w wr [(w.heap.size, 32, #[.pointer (some ⟨gj, 0, none⟩)]), (g4, 60, mcs ⟨j.m.ep, j.m.pl, sg', ck⟩ so' sc' co3 cc3)]) ∧ Hid (PsAt wr so' sg') ∧ Hid (∀ a, so' = some a → sg' ≠ [] → w.heap.size < a.block ∧ a.block < g4) ∧ Hid (sg'.length ≤ sc' ∧ sc' ≤ maxLen ∧ sg'.length ≤ j.m.sg.length) ∧ Hid (dropS b j.m.sg = dropS b sg') ∧ Hid (NsAt wr co3 ck)) (fun _ wr => cnt2 g4 wr)
  case atStart => exact ⟨j.m.sg, so2, sc2, HL8.out, HP8.out, HPS.out.2.1, ⟨HS3.out.1, HS3.out.2, Nat.le_refl _⟩, rfl, HN8.out⟩
  case round =>
    obtain ⟨sg', so', sc', HL, HP, HFar, HLn, HD, HNs⟩ := hrel
    have l2 := HL.out.ldO ty_parts 1 rfl 2 (v := .slice so' sg'.length sc') rfl
    by_cases h1 : 1 < sg'.length
    case neg =>
      have hgt : ¬ (1 : Int) < (sg'.length : Int) := by omega
      have hdr : dropS b sg' = sg' := dropS_len b sg' (by omega)
      clear h1
      have HL9 := Lib.hid HL.out
      have lb := HL.out.ldO ty_jp 0 rfl 0 (v := .pointer (some ⟨gj, 0, none⟩)) rfl
      have lm : (ldT 60 (.pointer (some ⟨g4, 0, none⟩))).run Tryz.prog wr = .ok (.agg (mcs ⟨j.m.ep, j.m.pl, sg', ck⟩ so' sc' co3 cc3)) wr := HL.out.ldA ty_man 1 rfl 0 rfl (Nat.le_of_ble_eq_true rfl)
      have hkp : kpM j b ck = ⟨j.m.ep, j.m.pl, sg', ck⟩ := by unfold kpM; rw [HD.out, hdr]
      have HKA := Lib.hid (keep_ans q p j b ck HBR.out HOK.out)
      rw [hkp] at HKA
      have HMB : Hid (∀ x, mbl ⟨j.m.ep, j.m.pl, sg', ck⟩ so' co3 x → w.heap.size < x) := fun x hx => by
        rcases hx with ⟨h0, a, e, rfl⟩ | ⟨h0, a, e, rfl⟩
        · exact (HFar.out a e h0).1
        · exact HC3.out a e
      have HMr : Hid (MfAt wr ⟨j.m.ep, j.m.pl, sg', ck⟩ so' co3) := by
        have hsgf : sgFit sg' := by
          have h1 := dropS_fit b HPS.out.2.2.sg
          rw [HD.out, hdr] at h1
          exact h1
        exact ⟨⟨HPS.out.2.2.ep, HPS.out.2.2.pl, hsgf, HCK.out.2.1⟩, HP.out, HNs.out, by have := HLn.out.1; have := HLn.out.2.1; show sg'.length ≤ _; omega, by have := HCK.out.2.2; simp [maxLen]; omega⟩
      have HJr := Lib.hid (HJ0.out.new HL.out.be)
      have HTr := Lib.hid (tab_below HT0.out HL.out.be)
      have HJF : Hid (JnF { j with m := ⟨j.m.ep, j.m.pl, sg', ck⟩ }) := by
        have hf := HJ0.out.jnf.1
        exact ⟨hf.o, hf.ah, hf.ahl, hf.sy, hf.os, hf.ap, hf.rows, hf.pl, by have h1 := hf.sgl; have h2 := HLn.out.2.2; show sg'.length ≤ 400; omega, HCK.out.2.2⟩
      clear hdr hkp
      obtain ⟨m', hm'⟩ : ∃ m' : Mf, m' = ⟨j.m.ep, j.m.pl, sg', ck⟩ := ⟨_, rfl⟩
      have hml : m'.sg.length = sg'.length := by rw [hm']
      have hmk : m'.ck.length ≤ 400 := by rw [hm']; exact HCK.out.2.2
      have HML := Lib.hid (And.intro hml hmk)
      rw [← hm'] at lm HKA HMB HMr HJF HL9
      clear hm' hml hmk
      have hmf : ∀ (fn : Fn) (first cap : Array Value) (w : World), (Instr.makeFunc fn first cap).run Tryz.prog w = .ok (.func fn first cap) w := fun _ _ _ _ => rfl
      go_wp2_with fail
      refine (jswap_c (K := 76) (cap := #[.pointer (some ⟨w.heap.size, 0, none⟩), .pointer (some ⟨g4, 0, none⟩)]) (e2 := ((clr q (jfs m') (swP q m' p).names (swP q m' p)).1 : Nat)) (p2 := (clr q (jfs m') (swP q m' p).names (swP q m' p)).2) (j2 := { j with m := m' }) (enters Tryz.func76 (by kernel_rfl) rfl) wr HJr.out HMr.out (by rw [HML.out.1]; exact ⟨HLn.out.1, HLn.out.2.1⟩) (fun x hx hv => by have := HMB.out x hx; have := HVL.out x hv; omega) HJF.out (by have := HN.out; omega) HTr.out fun _ w10 V10 h10 t10 m10 => keep1_c w.heap.size g4 w10 h10 (t10.tu.cell ((HL9.out.get 0 rfl : Cells _ _ _ _).cell 0) fun hv => by
        rcases hv with hv | hv
        · have := HVL.out _ hv; exact absurd this (Nat.lt_irrefl _)
        · exact absurd (HMB.out _ hv) (Nat.lt_irrefl _)) (Cells.tu (HL9.out.get 1 rfl) t10.tu fun hv => by
        have h7 := HL9.out.bge 1 rfl
        rcases hv with hv | hv
        · have := HVL.out _ hv; omega
        · rcases hv with ⟨h0, a, e, h⟩ | ⟨h0, a, e, h⟩
          · have := (HFar.out a e (fun e0 => h0 (List.eq_nil_of_length_eq_zero (by rw [HML.out.1, e0]; rfl)))).2; omega
          · have := HC4.out a e; omega) m10 (by have := HLn.out.2.2; have := HJ0.out.jnf.1.sgl; rw [HML.out.1]; omega) HML.out.2 (by have := (swP_says q m' p).2.2; have := HN.out; omega)).mono ?_
      rw [HKA.out]
      rintro R w11 ⟨rfl, V11, h11, t11⟩
      have HFin : Hid (Q (.returned (.int .i64 (jKeep q p j b ck).e)) w11) := by
        show Q _ _
        rw [HQ.out]
        exact ⟨rfl, V11, h11, ((JTo.new (V := V) HL9.out.be).with (A := mbl m' so' co3) (fun x hx => Nat.le_of_lt (HMB.out x hx))).trans t11⟩
      clear h11 t11 lb lm
      go_wp2
      exact HFin.out
    case pos =>
      have hgt : (1 : Int) < (sg'.length : Int) := by omega
      obtain ⟨s, t, l, hst⟩ : ∃ s t l, sg' = s :: t :: l := by
        rcases sg' with _ | ⟨s, _ | ⟨t, l⟩⟩
        · simp at h1
        · simp at h1
        · exact ⟨s, t, l, rfl⟩
      obtain ⟨y, o, hso, hc⟩ := HP.out 1 h1
      have hcell : wr.cell? ⟨y, o + 1 * 2 + 1, none⟩ = some (.int .u64 (t.2 : Int)) := by
        have h2 : sg'[1]'h1 = t := by simp only [hst]; rfl
        rw [h2] at hc
        exact hc 1 _ rfl
      have l3 := run_ldC ty_u64 hcell
      subst hso
      by_cases ht : t.2 ≤ b
      case neg =>
        have hle : ¬ (t.2 : Int) ≤ (b : Int) := by omega
        have hdr : dropS b sg' = sg' := by rw [hst]; exact dropS_stop ht
        clear ht hst hc hcell h1
        have HL9 := Lib.hid HL.out
        have lb := HL.out.ldO ty_jp 0 rfl 0 (v := .pointer (some ⟨gj, 0, none⟩)) rfl
        have lm : (ldT 60 (.pointer (some ⟨g4, 0, none⟩))).run Tryz.prog wr = .ok (.agg (mcs ⟨j.m.ep, j.m.pl, sg', ck⟩ (some ⟨y, o, none⟩) sc' co3 cc3)) wr := HL.out.ldA ty_man 1 rfl 0 rfl (Nat.le_of_ble_eq_true rfl)
        have hkp : kpM j b ck = ⟨j.m.ep, j.m.pl, sg', ck⟩ := by unfold kpM; rw [HD.out, hdr]
        have HKA := Lib.hid (keep_ans q p j b ck HBR.out HOK.out)
        rw [hkp] at HKA
        have HMB : Hid (∀ x, mbl ⟨j.m.ep, j.m.pl, sg', ck⟩ (some ⟨y, o, none⟩) co3 x → w.heap.size < x) := fun x hx => by
          rcases hx with ⟨h0, a, e, rfl⟩ | ⟨h0, a, e, rfl⟩
          · exact (HFar.out a e h0).1
          · exact HC3.out a e
        have HMr : Hid (MfAt wr ⟨j.m.ep, j.m.pl, sg', ck⟩ (some ⟨y, o, none⟩) co3) := by
          have hsgf : sgFit sg' := by
            have h1 := dropS_fit b HPS.out.2.2.sg
            rw [HD.out, hdr] at h1
            exact h1
          exact ⟨⟨HPS.out.2.2.ep, HPS.out.2.2.pl, hsgf, HCK.out.2.1⟩, HP.out, HNs.out, by have := HLn.out.1; have := HLn.out.2.1; show sg'.length ≤ _; omega, by have := HCK.out.2.2; simp [maxLen]; omega⟩
        have HJr := Lib.hid (HJ0.out.new HL.out.be)
        have HTr := Lib.hid (tab_below HT0.out HL.out.be)
        have HJF : Hid (JnF { j with m := ⟨j.m.ep, j.m.pl, sg', ck⟩ }) := by
          have hf := HJ0.out.jnf.1
          exact ⟨hf.o, hf.ah, hf.ahl, hf.sy, hf.os, hf.ap, hf.rows, hf.pl, by have h1 := hf.sgl; have h2 := HLn.out.2.2; show sg'.length ≤ 400; omega, HCK.out.2.2⟩
        clear hdr hkp
        obtain ⟨m', hm'⟩ : ∃ m' : Mf, m' = ⟨j.m.ep, j.m.pl, sg', ck⟩ := ⟨_, rfl⟩
        have hml : m'.sg.length = sg'.length := by rw [hm']
        have hmk : m'.ck.length ≤ 400 := by rw [hm']; exact HCK.out.2.2
        have HML := Lib.hid (And.intro hml hmk)
        rw [← hm'] at lm HKA HMB HMr HJF HL9
        clear hm' hml hmk
        have hmf : ∀ (fn : Fn) (first cap : Array Value) (w : World), (Instr.makeFunc fn first cap).run Tryz.prog w = .ok (.func fn first cap) w := fun _ _ _ _ => rfl
        go_wp2_with fail
        refine (jswap_c (K := 76) (cap := #[.pointer (some ⟨w.heap.size, 0, none⟩), .pointer (some ⟨g4, 0, none⟩)]) (e2 := ((clr q (jfs m') (swP q m' p).names (swP q m' p)).1 : Nat)) (p2 := (clr q (jfs m') (swP q m' p).names (swP q m' p)).2) (j2 := { j with m := m' }) (enters Tryz.func76 (by kernel_rfl) rfl) wr HJr.out HMr.out (by rw [HML.out.1]; exact ⟨HLn.out.1, HLn.out.2.1⟩) (fun x hx hv => by have := HMB.out x hx; have := HVL.out x hv; omega) HJF.out (by have := HN.out; omega) HTr.out fun _ w10 V10 h10 t10 m10 => keep1_c w.heap.size g4 w10 h10 (t10.tu.cell ((HL9.out.get 0 rfl : Cells _ _ _ _).cell 0) fun hv => by
          rcases hv with hv | hv
          · have := HVL.out _ hv; exact absurd this (Nat.lt_irrefl _)
          · exact absurd (HMB.out _ hv) (Nat.lt_irrefl _)) (Cells.tu (HL9.out.get 1 rfl) t10.tu fun hv => by
          have h7 := HL9.out.bge 1 rfl
          rcases hv with hv | hv
          · have := HVL.out _ hv; omega
          · rcases hv with ⟨h0, a, e, h⟩ | ⟨h0, a, e, h⟩
            · have := (HFar.out a e (fun e0 => h0 (List.eq_nil_of_length_eq_zero (by rw [HML.out.1, e0]; rfl)))).2; omega
            · have := HC4.out a e; omega) m10 (by have := HLn.out.2.2; have := HJ0.out.jnf.1.sgl; rw [HML.out.1]; omega) HML.out.2 (by have := (swP_says q m' p).2.2; have := HN.out; omega)).mono ?_
        rw [HKA.out]
        rintro R w11 ⟨rfl, V11, h11, t11⟩
        have HFin : Hid (Q (.returned (.int .i64 (jKeep q p j b ck).e)) w11) := by
          show Q _ _
          rw [HQ.out]
          exact ⟨rfl, V11, h11, ((JTo.new (V := V) HL9.out.be).with (A := mbl m' (some ⟨y, o, none⟩) co3) (fun x hx => Nat.le_of_lt (HMB.out x hx))).trans t11⟩
        clear h11 t11 lb lm
        go_wp2
        exact HFin.out
      case pos =>
        have hle : (t.2 : Int) ≤ (b : Int) := by omega
        have hmx : maxLen = 9223372036854775807 := by simp [maxLen]
        have hln := HLn.out
        have i1 : (1 : Int) ≤ (sg'.length : Int) := by omega
        have i2 : (1 : Int) ≤ (sc' : Int) := by omega
        have i3 : IntKind.i64.wrap ((sg'.length : Int) - 1) = ((sg'.length - 1 : Nat) : Int) := by rw [IntWalk.i64_in _ (by omega)]; omega
        have i4 : IntKind.i64.wrap ((sc' : Int) - 1) = ((sc' - 1 : Nat) : Int) := by rw [IntWalk.i64_in _ (by omega)]; omega
        have hnac : (sg'.length : Int) ≤ (sc' : Int) := by omega
        have hk : ¬ sc' = 1 := by omega
        have hl1 : (t :: l).length = sg'.length - 1 := by rw [hst]; rfl
        obtain ⟨w9, s9, H9, q9⟩ := HL.out.stO ty_parts 1 rfl 2 (.slice (some ⟨y, o + 2, none⟩) (sg'.length - 1) (sc' - 1)) (cs' := mcs ⟨j.m.ep, j.m.pl, t :: l, ck⟩ (some ⟨y, o + 2, none⟩) (sc' - 1) co3 cc3) (by simp only [mcs, hl1]; rfl) (L' := [(w.heap.size, 32, #[.pointer (some ⟨gj, 0, none⟩)]), (g4, 60, mcs ⟨j.m.ep, j.m.pl, t :: l, ck⟩ (some ⟨y, o + 2, none⟩) (sc' - 1) co3 cc3)]) rfl (Nat.le_of_ble_eq_true rfl) rfl rfl
        have k9 : Tu (fun x => x = g4) wr w9 := Tu.of_same q9
        have hfx := HFar.out _ rfl (by rw [hst]; simp)
        have HREL : Hid (Loc w.heap.size w w9 [(w.heap.size, 32, #[.pointer (some ⟨gj, 0, none⟩)]), (g4, 60, mcs ⟨j.m.ep, j.m.pl, t :: l, ck⟩ (some ⟨y, o + 2, none⟩) (sc' - 1) co3 cc3)] ∧ PsAt w9 (some ⟨y, o + 2, none⟩) (t :: l) ∧ (w.heap.size < y ∧ y < g4) ∧ ((t :: l).length ≤ sc' - 1 ∧ sc' - 1 ≤ maxLen ∧ (t :: l).length ≤ j.m.sg.length) ∧ dropS b j.m.sg = dropS b (t :: l) ∧ NsAt w9 co3 ck) := by
          refine ⟨H9, ?_, hfx, ⟨by omega, by omega, by omega⟩, ?_, HNs.out.tuS k9 fun _ a e h => by have := HC4.out a e; omega⟩
          · have h5 := HP.out
            rw [hst] at h5
            exact h5.tail.tuS k9 fun _ a e h => by cases e; dsimp only at hfx h; omega
          · rw [HD.out, hst, dropS_go ht]
        have hm1 : cnt2 g4 wr = sg'.length := by
          unfold cnt2
          rw [(HL.out.get 1 rfl : Cells _ _ _ _).cell]; rfl
        have hm2 : cnt2 g4 w9 = sg'.length - 1 := by
          unfold cnt2
          rw [(H9.get 1 rfl : Cells _ _ _ _).cell, ← hl1]; rfl
        have HMS : Hid (cnt2 g4 w9 < cnt2 g4 wr) := by show _ < _; omega
        clear H9 q9 k9 hfx hm1 hm2 hl1 hln hmx ht hst hc hcell h1
        go_wp2
        go_roundw
        case rel =>
          obtain ⟨r1, r2, r3, r4, r5, r6⟩ := HREL.out
          exact ⟨t :: l, _, _, r1, r2, fun a e _ => by cases e; exact r3, r4, r5, r6⟩
        case measure => exact HMS.out
end
end Go.Proofs.YtgeaacabpnepmaaGreatDoor
