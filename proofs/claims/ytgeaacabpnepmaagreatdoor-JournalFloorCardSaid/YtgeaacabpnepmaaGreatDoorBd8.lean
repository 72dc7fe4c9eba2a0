/- Texts of the walk. -/
import Derived.Test.YtgeaacabpnepmaaGreatDoorBc8
/- A record that goes on, taken: own, sure. -/
namespace Go.Proofs.YtgeaacabpnepmaaGreatDoor
open Go.RowKit
set_option linter.unusedVariables false
set_option linter.unusedSimpArgs false
set_option maxRecDepth 20000

attribute [local go_sem ↓] ld_rec ld_u64 ld_recs ld_input ld_u8 st_rec st_u64 st_recs st_input
attribute [local go_sem ↓] bs_m
attribute [local go_sem] bs_rec
set_option maxHeartbeats 2000000 in
theorem own_ok {g n : Nat} {x : Sg} {v : List Nat} {ao : Option Addr} {cap : Nat} {r : Rc} {w : World} (h : CtC w g n x v ao cap) (hf : r.fit) (h1 : r.f = x.o) (h2 : x.o - x.c < 12) (h3 : r.f ≠ 18446744073709551615) (hfw : x.l.length < 1000000) :
    Calls Tryz.prog 281 #[.pointer (some ⟨g, 0, none⟩), .agg (rcs r)] w fun E w' => E = .returned (.int .i64 0) ∧ ∃ a' c', Cells w' g 280 (ccs n ⟨x.b, x.h, x.l ++ [r], x.c, (x.o + 1)⟩ (v.set (r.f % 12) r.o) a' c') ∧ w'.ownsRow (g + 1) 114 9 (.slice a' (x.l ++ [r]).length c') (x.l ++ [r]).length (Rall (x.l ++ [r])) ∧ Below g w w' := by
  have hco := h.okg.co
  have hoc := h.okg.oc
  have ho6 := h.okg.o64
  have hfr := hf.f
  have g1 : ((r.f : Int) != (x.o : Int)) = false := by rw [bne_eq_false_iff_eq]; omega
  obtain ⟨d, hd, hdv⟩ : ∃ d : Nat, IntKind.u64.wrap ((r.f : Int) - (x.c : Int)) = (d : Int) ∧ d = x.o - x.c := ⟨x.o - x.c, by rw [IntWalk.u64_in _ (by omega)]; omega, rfl⟩
  have g2 : ¬ (12 : Int) ≤ (d : Int) := by omega
  have g3 : decide ((12 : Int) ≤ (d : Int)) = false := decide_eq_false g2
  have g4 : ((r.f : Int) == 18446744073709551615) = false := beq_eq_false_iff_ne.2 (by omega)
  obtain ⟨o1, ho1, ho1v⟩ : ∃ o1 : Nat, IntKind.u64.wrap ((x.o : Int) + 1) = (o1 : Int) ∧ o1 = x.o + 1 := ⟨x.o + 1, by rw [IntWalk.u64_in _ (by omega)]; omega, rfl⟩
  rw [← ho1v]
  obtain ⟨j, hj⟩ : ∃ j, j = r.f % 12 := ⟨_, rfl⟩
  obtain ⟨v2, hvv⟩ : ∃ v2, v2 = v.set j r.o := ⟨_, rfl⟩
  rw [← hj, ← hvv]
  have HJ := Lib.hid hj
  have HVV := Lib.hid hvv
  clear hco hoc ho6 hfr hf h1 h2 hdv ho1v hj hvv
  have H0 := Lib.hid ((Loc.hold h.blk).more 114 (rcs r))
  have hv := Lib.hid h.inp.1
  have HB := Lib.hid (below_alloc w (.cells (rcs r) 114))
  have HR0 : Hid (Rcr 114 (g + 1) (w.alloc (.cells (rcs r) 114)) [g, w.heap.size] ao x.l.length cap x.l) := h.rcr.fresh (below_alloc w _) (Nat.le_refl _) (by simp)
  have hgs : Hid (g + 1 ≤ w.heap.size) := h.blk.lt
  have hfew := Lib.hid hfw
  go_enter Tryz.func281, Tryz.ntmps281
  go_upto_region 1 with fail
  generalize w.alloc (.cells (rcs r) 114) = wa at *
  have H1 : Hid (∀ k, Loc g w (wa.drewN k) [(g, 280, ccs n x v ao cap), (w.heap.size, 114, rcs r)]) := fun k => H0.out.to (below_drewN (Below.refl _ _) k)
  have l1 := fun k => (H1.out k).ldO ty_u64 1 rfl 1 (v := .int .u64 (r.f : Int)) rfl
  have l11 := fun k => (H1.out k).ldO ty_u64 0 rfl 11 (v := .int .u64 (x.c : Int)) (ccs11 n x v ao cap)
  have l12 := fun k => (H1.out k).ldO ty_u64 0 rfl 12 (v := .int .u64 (x.o : Int)) (ccs12 n x v ao cap)
  go_quiet (fail)
  clear l1 l11 l12 g1 g2 g3 g4 hd
  have H2 := Lib.hid (H1.out nq)
  have HR2 := Lib.hid (HR0.out.to (below_drewN (Below.refl _ _) nq))
  clear H0 H1 HR0 HB
  generalize wa.drewN nq = wb at *
  go_upto_region 3 with fail
  obtain ⟨wd, hwd⟩ : ∃ wd, ({ wb with drawn := wb.drawn + 1 } : World) = wd := ⟨_, rfl⟩
  have H3 : Hid (Loc g w wd [(g, 280, ccs n x v ao cap), (w.heap.size, 114, rcs r)]) := by show Loc _ _ _ _; rw [← hwd]; exact H2.out.drew
  have HR3 : Hid (Rcr 114 (g + 1) wd [g, w.heap.size] ao x.l.length cap x.l) := by show Rcr _ _ _ _ _ _ _ _; rw [← hwd]; exact HR2.out.to (Below.refl _ wb).drew
  have l1 := H3.out.ldO ty_u64 1 rfl 1 (v := .int .u64 (r.f : Int)) rfl
  have l2 := H3.out.ldO ty_input 1 rfl 2 (v := .int .u8 (r.o : Int)) rfl
  have hil : Hid (j < v.length) := by show _ < _; rw [HJ.out, hv.out]; omega
  have hv2 : Hid (v2.length = 12) := by show _ = _; rw [HVV.out, List.length_set]; exact hv.out
  obtain ⟨w4, s4, h4, q4⟩ := H3.out.stO ty_input 0 rfl (13 + j) (.int .u8 (r.o : Int)) (by rw [HVV.out]; exact ccs_setI n x v ao cap j r.o hil.out) (L' := [(g, 280, ccs n x v2 ao cap), (w.heap.size, 114, rcs r)]) rfl (by rw [ccs_size _ _ _ _ _ hv.out]; have := hil.out; rw [hv.out] at this; omega) rfl rfl
  have HC : Hid (Calls Tryz.prog 308 #[.pointer (some ⟨g, 0, none⟩), .int .u64 (r.f : Int)] wd fun E w' => E = .returned (.pointer (some ⟨g, 13 + j, none⟩)) ∧ wd = w') := by show Calls _ _ _ _ _; rw [HJ.out]; exact cinput_c g r.f wd
  clear hil
  refine wp_region_still_tail 7 (by kernel_rfl) (by kernel_rfl) ?_
  simp only [List.take_succ_cons, List.take_zero, List.drop_succ_cons, List.drop_zero]
  rw [hwd]
  clear hwd
  repeat still_step
  still_call (HC.out.mono fun _ _ ⟨h1, h2⟩ => ⟨h1, h2.symm⟩)
  repeat still_step
  refine wpStill_nil ?_
  go_upto_region 4 with fail
  have H4 := Lib.hid h4
  have HR4 := Lib.hid (HR3.out.turn (by simp) q4)
  clear h4 q4 s4 l1 l2 H3 HR3 H2 HR2 HC
  have l12 := H4.out.ldO ty_u64 0 rfl 12 (v := .int .u64 (x.o : Int)) (ccs12 n x v2 ao cap)
  obtain ⟨w5, s5, h5, q5⟩ := H4.out.stO ty_u64 0 rfl 12 (.int .u64 (o1 : Int)) (ccs_setO n x v2 ao cap o1) (L' := [(g, 280, ccs n ⟨x.b, x.h, x.l, x.c, o1⟩ v2 ao cap), (w.heap.size, 114, rcs r)]) rfl (by rw [ccs_size _ _ _ _ _ hv2.out]; omega) rfl rfl
  have H5 := Lib.hid h5
  have HR5 := Lib.hid (HR4.out.turn (by simp) q5)
  clear h5 q5
  go_upto_region 5 with fail
  clear l12 s5 ho1 H4 HR4
  have a1 := fun W (hW : Cells W g 280 (ccs n ⟨x.b, x.h, x.l, x.c, o1⟩ v2 ao cap)) => run_ldO ty_recs hW 10 (ccs10 n ⟨x.b, x.h, x.l, x.c, o1⟩ v2 ao cap)
  have a2 := fun W (hW : Cells W w.heap.size 114 (rcs r)) => run_ldA ty_rec hW 0 (Nat.le_of_ble_eq_true rfl)
  have e0 : (((rcs r).toList.drop 0).take 9).toArray = rcs r := by simp [rcs]
  simp only [e0] at a2
  clear e0
  have HX := Lib.hid (H5.out.drew)
  have HRX := Lib.hid (HR5.out.to (Below.refl _ w5).drew)
  have o0 := (⟨HX.out.get 0 rfl, HX.out.get 1 rfl⟩ : Cells w5.drew g 280 (ccs n ⟨x.b, x.h, x.l, x.c, o1⟩ v2 ao cap) ∧ Cells w5.drew w.heap.size 114 (rcs r))
  refine wp_region_till (S := fun W => Cells W g 280 (ccs n ⟨x.b, x.h, x.l, x.c, o1⟩ v2 ao cap) ∧ Cells W w.heap.size 114 (rcs r)) (by kernel_rfl) ?_
  refine wpTill_take (i := 0) (v := ?vow0) rfl (by kernel_rfl) (fun _ _ _ h => h) (Or.inl ⟨by rfl, ?hyow0⟩) o0 ?restow0
  case hyow0 => (intro W hW; (try dsimp only at hW); go_simp; try with_reducible rfl)
  simp only [Act.put, List.setIfInBounds_toArray, List.set_cons_zero, List.set_cons_succ, List.getElem_toArray, List.getElem_cons_succ, List.getElem_cons_zero]
  refine wpTill_take (i := 1) (v := ?vow1) rfl (by kernel_rfl) (fun _ _ _ h => h) (Or.inl ⟨by rfl, ?hyow1⟩) o0 ?restow1
  case hyow1 => (intro W hW; (try dsimp only at hW); go_simp; try with_reducible rfl)
  simp only [Act.put, List.setIfInBounds_toArray, List.set_cons_zero, List.set_cons_succ, List.getElem_toArray, List.getElem_cons_succ, List.getElem_cons_zero]
  refine wpTill_take (i := 2) (v := ?vow2) rfl (by kernel_rfl) (fun _ _ _ h => h) (Or.inl ⟨by rfl, ?hyow2⟩) o0 ?restow2
  case hyow2 => (intro W hW; (try dsimp only at hW); go_simp; try with_reducible rfl)
  simp only [Act.put, List.setIfInBounds_toArray, List.set_cons_zero, List.set_cons_succ, List.getElem_toArray, List.getElem_cons_succ, List.getElem_cons_zero]
  refine wpTill_take (i := 3) (v := ?vow3) rfl (by kernel_rfl) (fun _ _ _ h => h) (Or.inl ⟨by rfl, ?hyow3⟩) o0 ?restow3
  case hyow3 => (intro W hW; (try dsimp only at hW); go_simp; try with_reducible rfl)
  simp only [Act.put, List.setIfInBounds_toArray, List.set_cons_zero, List.set_cons_succ, List.getElem_toArray, List.getElem_cons_succ, List.getElem_cons_zero]
  refine wpTill_take (i := 4) (v := ?vow4) rfl (by kernel_rfl) (fun _ _ _ h => h) (Or.inl ⟨by rfl, ?hyow4⟩) o0 ?restow4
  case hyow4 => (intro W hW; (try dsimp only at hW); go_simp; try with_reducible rfl)
  simp only [Act.put, List.setIfInBounds_toArray, List.set_cons_zero, List.set_cons_succ, List.getElem_toArray, List.getElem_cons_succ, List.getElem_cons_zero]
  refine wpTill_take (i := 5) (v := ?vow5) rfl (by kernel_rfl) (fun _ _ _ h => h) (Or.inl ⟨by rfl, ?hyow5⟩) o0 ?restow5
  case hyow5 => (intro W hW; (try dsimp only at hW); go_simp; try with_reducible rfl)
  simp only [Act.put, List.setIfInBounds_toArray, List.set_cons_zero, List.set_cons_succ, List.getElem_toArray, List.getElem_cons_succ, List.getElem_cons_zero]
  refine wpTill_run (i := 6) (by kernel_rfl) rfl o0 (fun K hK => ?_)
  go_simp
  have o6 := (⟨(HX.out.more 114 (rcs r)).get 0 rfl, (HX.out.more 114 (rcs r)).get 1 rfl⟩ : Cells (w5.drew.alloc (.cells (rcs r) 114)) g 280 (ccs n ⟨x.b, x.h, x.l, x.c, o1⟩ v2 ao cap) ∧ Cells (w5.drew.alloc (.cells (rcs r) 114)) w.heap.size 114 (rcs r))
  refine hK _ _ ?_
  clear hK K
  refine wpTill_run (i := 7) (by kernel_rfl) rfl o6 (fun K hK => ?_)
  refine step_append_rec Tryz.underlying127 info_rec rfl _ _ rfl (by simp [Act.eval]) r (by simp [Act.eval]) HRX.out HX.out (Nat.le_succ g) (by have := HX.out.be.size; have := hgs.out; omega) (by simp) (Nat.le_of_lt hfew.out) ?_
  intro r7 cap7 w7 hR7 hL7
  have HR7 := Lib.hid hR7
  have HL7 := Lib.hid hL7
  have o7 := (⟨HL7.out.get 0 rfl, HL7.out.get 1 rfl⟩ : Cells w7 g 280 (ccs n ⟨x.b, x.h, x.l, x.c, o1⟩ v2 ao cap) ∧ Cells w7 w.heap.size 114 (rcs r))
  clear hR7 hL7
  refine hK _ _ ?_
  clear hK K
  refine wpTill_run (i := 8) (by kernel_rfl) rfl o7 (fun K hK => ?_)
  go_simp
  refine hK _ _ ?_
  clear hK K
  refine wpTill_run (i := 9) (by kernel_rfl) rfl o7 (fun K hK => ?_)
  go_simp
  refine hK _ _ ?_
  clear hK K
  refine wpTill_run (i := 10) (by kernel_rfl) rfl o7 (fun K hK => ?_)
  obtain ⟨w8, s8, H8, q8⟩ := HL7.out.stO ty_recs 0 rfl 10 (.slice (some ⟨r7, 0, none⟩) (x.l.length + 1) cap7) (ccs_setL n ⟨x.b, x.h, x.l, x.c, o1⟩ v2 ao cap (x.l ++ [r]) (some ⟨r7, 0, none⟩) cap7 (x.l.length + 1) (by simp)) (L' := [(g, 280, ccs n ⟨x.b, x.h, x.l ++ [r], x.c, o1⟩ v2 (some ⟨r7, 0, none⟩) cap7), (w.heap.size, 114, rcs r)]) rfl (by rw [ccs_size _ _ _ _ _ hv2.out]; omega) rfl rfl
  go_simp
  refine hK _ _ ?_
  clear hK K
  refine wpTill_done (by kernel_rfl) ?_
  clear a1 a2 o0 o6 o7 s8
  have H9 := Lib.hid H8
  have R9 := Lib.hid (HR7.out.turn (by simp) q8)
  clear H8 q8 HR7 HL7 HX HRX
  go_wp2
  go_ret
  refine ⟨rfl, some ⟨r7, 0, none⟩, cap7, H9.out.get 0 rfl, ?_, H9.out.be⟩
  have h9 := R9.out.own
  rw [show x.l.length + 1 = (x.l ++ [r]).length by simp] at h9
  exact h9
set_option maxHeartbeats 1000000 in
theorem sure_bad {g n : Nat} {x : Sg} {v : List Nat} {ao : Option Addr} {cap : Nat} {r : Rc} {w : World} (h : CtC w g n x v ao cap) (hf : r.fit) (hb : r.f ≠ x.c ∨ x.o ≤ x.c) :
    Calls Tryz.prog 282 #[.pointer (some ⟨g, 0, none⟩), .agg (rcs r)] w fun E w' => E = .returned (.int .i64 11) ∧ Below w.heap.size w w' := by
  by_cases h1 : r.f = x.c
  · have g1 : ((r.f : Int) != (x.c : Int)) = false := by rw [bne_eq_false_iff_eq]; omega
    have g2 : (x.o : Int) ≤ (x.c : Int) := by omega
    have g3 : decide ((x.o : Int) ≤ (x.c : Int)) = true := decide_eq_true g2
    clear hb hf h1
    have H0 := Lib.hid ((Loc.hold h.blk).more 114 (rcs r))
    have HB := Lib.hid (below_alloc w (.cells (rcs r) 114))
    go_enter Tryz.func282, Tryz.ntmps282
    go_upto_region 1 with fail
    generalize w.alloc (.cells (rcs r) 114) = wa at *
    have H1 : Hid (∀ k, Loc g w (wa.drewN k) [(g, 280, ccs n x v ao cap), (w.heap.size, 114, rcs r)]) := fun k => H0.out.to (below_drewN (Below.refl _ _) k)
    have l1 := fun k => (H1.out k).ldO ty_u64 1 rfl 1 (v := .int .u64 (r.f : Int)) rfl
    have l11 := fun k => (H1.out k).ldO ty_u64 0 rfl 11 (v := .int .u64 (x.c : Int)) (ccs11 n x v ao cap)
    have l12 := fun k => (H1.out k).ldO ty_u64 0 rfl 12 (v := .int .u64 (x.o : Int)) (ccs12 n x v ao cap)
    go_quiet (fail)
    go_wp2
    go_ret
    exact ⟨rfl, below_drewN HB.out nq⟩
  · have g1 : ((r.f : Int) != (x.c : Int)) = true := bne_iff_ne.2 (by omega)
    clear hb hf h1
    have H0 := Lib.hid ((Loc.hold h.blk).more 114 (rcs r))
    have HB := Lib.hid (below_alloc w (.cells (rcs r) 114))
    go_enter Tryz.func282, Tryz.ntmps282
    go_upto_region 1 with fail
    generalize w.alloc (.cells (rcs r) 114) = wa at *
    have H1 : Hid (∀ k, Loc g w (wa.drewN k) [(g, 280, ccs n x v ao cap), (w.heap.size, 114, rcs r)]) := fun k => H0.out.to (below_drewN (Below.refl _ _) k)
    have l1 := fun k => (H1.out k).ldO ty_u64 1 rfl 1 (v := .int .u64 (r.f : Int)) rfl
    have l11 := fun k => (H1.out k).ldO ty_u64 0 rfl 11 (v := .int .u64 (x.c : Int)) (ccs11 n x v ao cap)
    have l12 := fun k => (H1.out k).ldO ty_u64 0 rfl 12 (v := .int .u64 (x.o : Int)) (ccs12 n x v ao cap)
    go_quiet (fail)
    go_wp2
    go_ret
    exact ⟨rfl, below_drewN HB.out nq⟩
set_option maxHeartbeats 2000000 in
theorem sure_clash0 {g n : Nat} {x : Sg} {v : List Nat} {ao : Option Addr} {cap : Nat} {r : Rc} {w : World} (h : CtC w g n x v ao cap) (hf : r.fit) (h1 : r.f = x.c) (h2 : x.c < x.o) (hy : x.h.y = 0) (h3 : r.p ≠ inp x.l r.f) (hfw : x.l.length < 1000000) :
    Calls Tryz.prog 282 #[.pointer (some ⟨g, 0, none⟩), .agg (rcs r)] w fun E w' => E = .returned (.int .i64 14) ∧ Below w.heap.size w w' := by
  have ho6 := h.okg.o64
  have g1 : ((r.f : Int) != (x.c : Int)) = false := by rw [bne_eq_false_iff_eq]; omega
  have g2 : ¬ (x.o : Int) ≤ (x.c : Int) := by omega
  have g3 : decide ((x.o : Int) ≤ (x.c : Int)) = false := decide_eq_false g2
  have HI : Hid (v[r.f % 12]? = some (inp x.l r.f)) := h.inp.2 r.f (by omega) (by omega)
  have g5 : ((r.p : Int) != (inp x.l r.f : Int)) = true := by rw [bne_iff_ne]; omega
  obtain ⟨k, hk⟩ : ∃ k, k = inp x.l r.f := ⟨_, rfl⟩
  rw [← hk] at HI g5
  obtain ⟨j, hj⟩ : ∃ j, j = r.f % 12 := ⟨_, rfl⟩
  rw [← hj] at HI
  have HJ := Lib.hid hj
  have HY := Lib.hid hy
  clear hk hj ho6 hf h1 h2 h3 hy
  have H0 := Lib.hid ((Loc.hold h.blk).more 114 (rcs r))
  have hv := Lib.hid h.inp.1
  have HB := Lib.hid (below_alloc w (.cells (rcs r) 114))
  have HR0 : Hid (Rcr 114 (g + 1) (w.alloc (.cells (rcs r) 114)) [g, w.heap.size] ao x.l.length cap x.l) := h.rcr.fresh (below_alloc w _) (Nat.le_refl _) (by simp)
  have hgs : Hid (g + 1 ≤ w.heap.size) := h.blk.lt
  have hfew := Lib.hid hfw
  go_enter Tryz.func282, Tryz.ntmps282
  go_upto_region 1 with fail
  generalize w.alloc (.cells (rcs r) 114) = wa at *
  have H1 : Hid (∀ k, Loc g w (wa.drewN k) [(g, 280, ccs n x v ao cap), (w.heap.size, 114, rcs r)]) := fun k => H0.out.to (below_drewN (Below.refl _ _) k)
  have l1 := fun k => (H1.out k).ldO ty_u64 1 rfl 1 (v := .int .u64 (r.f : Int)) rfl
  have l11 := fun k => (H1.out k).ldO ty_u64 0 rfl 11 (v := .int .u64 (x.c : Int)) (ccs11 n x v ao cap)
  have l12 := fun k => (H1.out k).ldO ty_u64 0 rfl 12 (v := .int .u64 (x.o : Int)) (ccs12 n x v ao cap)
  go_quiet (fail)
  clear l1 l11 l12 g1 g2 g3
  have H2 := Lib.hid (H1.out nq)
  have HR2 := Lib.hid (HR0.out.to (below_drewN (Below.refl _ _) nq))
  have HB2 := Lib.hid (below_drewN HB.out nq)
  clear H0 H1 HR0 HB
  generalize wa.drewN nq = wb at *
  go_upto_region 3 with fail
  have H3 : Hid (∀ k, Loc g w (wb.drewN k) [(g, 280, ccs n x v ao cap), (w.heap.size, 114, rcs r)]) := fun k => H2.out.to (below_drewN (Below.refl _ _) k)
  have l1 := fun k => (H3.out k).ldO ty_u64 1 rfl 1 (v := .int .u64 (r.f : Int)) rfl
  have l2 := fun k => (H3.out k).ldO ty_u8 0 rfl 9 (v := .int .u8 0) (by rw [ccs9, HY.out]; rfl)
  have l3 := fun k => (H3.out k).ldO ty_input 1 rfl 3 (v := .int .u8 (r.p : Int)) rfl
  have l4 := fun m => (H3.out m).ldO ty_input 0 rfl (13 + j) (v := .int .u8 (k : Int)) (ccs_inp n x v ao cap HI.out)
  have HC : Hid (∀ m, Calls Tryz.prog 308 #[.pointer (some ⟨g, 0, none⟩), .int .u64 (r.f : Int)] (wb.drewN m) fun E w' => E = .returned (.pointer (some ⟨g, 13 + j, none⟩)) ∧ wb.drewN m = w') := fun m => by rw [HJ.out]; exact cinput_c g r.f _
  go_quiet (first | (go_at_call 308; exact Calls.quiet_of_same ((HC.out _).mono fun _ _ hh => ⟨hh.1, hh.2.symm⟩)))
  go_wp2
  go_ret
  exact ⟨rfl, below_drewN HB2.out nq⟩
set_option maxHeartbeats 2000000 in
theorem sure_clash1 {g n : Nat} {x : Sg} {v : List Nat} {ao : Option Addr} {cap : Nat} {r : Rc} {w : World} (h : CtC w g n x v ao cap) (hf : r.fit) (h1 : r.f = x.c) (h2 : x.c < x.o) (hy : x.h.y = 1) (h3 : r.q ≠ inp x.l r.f) (hfw : x.l.length < 1000000) :
    Calls Tryz.prog 282 #[.pointer (some ⟨g, 0, none⟩), .agg (rcs r)] w fun E w' => E = .returned (.int .i64 14) ∧ Below w.heap.size w w' := by
  have ho6 := h.okg.o64
  have g1 : ((r.f : Int) != (x.c : Int)) = false := by rw [bne_eq_false_iff_eq]; omega
  have g2 : ¬ (x.o : Int) ≤ (x.c : Int) := by omega
  have g3 : decide ((x.o : Int) ≤ (x.c : Int)) = false := decide_eq_false g2
  have HI : Hid (v[r.f % 12]? = some (inp x.l r.f)) := h.inp.2 r.f (by omega) (by omega)
  have g5 : ((r.q : Int) != (inp x.l r.f : Int)) = true := by rw [bne_iff_ne]; omega
  obtain ⟨k, hk⟩ : ∃ k, k = inp x.l r.f := ⟨_, rfl⟩
  rw [← hk] at HI g5
  obtain ⟨j, hj⟩ : ∃ j, j = r.f % 12 := ⟨_, rfl⟩
  rw [← hj] at HI
  have HJ := Lib.hid hj
  have HY := Lib.hid hy
  clear hk hj ho6 hf h1 h2 h3 hy
  have H0 := Lib.hid ((Loc.hold h.blk).more 114 (rcs r))
  have hv := Lib.hid h.inp.1
  have HB := Lib.hid (below_alloc w (.cells (rcs r) 114))
  have HR0 : Hid (Rcr 114 (g + 1) (w.alloc (.cells (rcs r) 114)) [g, w.heap.size] ao x.l.length cap x.l) := h.rcr.fresh (below_alloc w _) (Nat.le_refl _) (by simp)
  have hgs : Hid (g + 1 ≤ w.heap.size) := h.blk.lt
  have hfew := Lib.hid hfw
  go_enter Tryz.func282, Tryz.ntmps282
  go_upto_region 1 with fail
  generalize w.alloc (.cells (rcs r) 114) = wa at *
  have H1 : Hid (∀ k, Loc g w (wa.drewN k) [(g, 280, ccs n x v ao cap), (w.heap.size, 114, rcs r)]) := fun k => H0.out.to (below_drewN (Below.refl _ _) k)
  have l1 := fun k => (H1.out k).ldO ty_u64 1 rfl 1 (v := .int .u64 (r.f : Int)) rfl
  have l11 := fun k => (H1.out k).ldO ty_u64 0 rfl 11 (v := .int .u64 (x.c : Int)) (ccs11 n x v ao cap)
  have l12 := fun k => (H1.out k).ldO ty_u64 0 rfl 12 (v := .int .u64 (x.o : Int)) (ccs12 n x v ao cap)
  go_quiet (fail)
  clear l1 l11 l12 g1 g2 g3
  have H2 := Lib.hid (H1.out nq)
  have HR2 := Lib.hid (HR0.out.to (below_drewN (Below.refl _ _) nq))
  have HB2 := Lib.hid (below_drewN HB.out nq)
  clear H0 H1 HR0 HB
  generalize wa.drewN nq = wb at *
  go_upto_region 3 with fail
  have H3 : Hid (∀ k, Loc g w (wb.drewN k) [(g, 280, ccs n x v ao cap), (w.heap.size, 114, rcs r)]) := fun k => H2.out.to (below_drewN (Below.refl _ _) k)
  have l1 := fun k => (H3.out k).ldO ty_u64 1 rfl 1 (v := .int .u64 (r.f : Int)) rfl
  have l2 := fun k => (H3.out k).ldO ty_u8 0 rfl 9 (v := .int .u8 1) (by rw [ccs9, HY.out]; rfl)
  have l3 := fun k => (H3.out k).ldO ty_input 1 rfl 4 (v := .int .u8 (r.q : Int)) rfl
  have l4 := fun m => (H3.out m).ldO ty_input 0 rfl (13 + j) (v := .int .u8 (k : Int)) (ccs_inp n x v ao cap HI.out)
  have HC : Hid (∀ m, Calls Tryz.prog 308 #[.pointer (some ⟨g, 0, none⟩), .int .u64 (r.f : Int)] (wb.drewN m) fun E w' => E = .returned (.pointer (some ⟨g, 13 + j, none⟩)) ∧ wb.drewN m = w') := fun m => by rw [HJ.out]; exact cinput_c g r.f _
  go_quiet (first | (go_at_call 308; exact Calls.quiet_of_same ((HC.out _).mono fun _ _ hh => ⟨hh.1, hh.2.symm⟩)))
  go_wp2
  go_ret
  exact ⟨rfl, below_drewN HB2.out nq⟩
set_option maxHeartbeats 2000000 in
theorem sure_ok0 {g n : Nat} {x : Sg} {v : List Nat} {ao : Option Addr} {cap : Nat} {r : Rc} {w : World} (h : CtC w g n x v ao cap) (hf : r.fit) (h1 : r.f = x.c) (h2 : x.c < x.o) (hy : x.h.y = 0) (h3 : r.p = inp x.l r.f) (hfw : x.l.length < 1000000) :
    Calls Tryz.prog 282 #[.pointer (some ⟨g, 0, none⟩), .agg (rcs r)] w fun E w' => E = .returned (.int .i64 0) ∧ ∃ a' c', Cells w' g 280 (ccs n ⟨x.b, x.h, x.l ++ [r], (x.c + 1), x.o⟩ v a' c') ∧ w'.ownsRow (g + 1) 114 9 (.slice a' (x.l ++ [r]).length c') (x.l ++ [r]).length (Rall (x.l ++ [r])) ∧ Below g w w' := by
  have ho6 := h.okg.o64
  have g1 : ((r.f : Int) != (x.c : Int)) = false := by rw [bne_eq_false_iff_eq]; omega
  have g2 : ¬ (x.o : Int) ≤ (x.c : Int) := by omega
  have g3 : decide ((x.o : Int) ≤ (x.c : Int)) = false := decide_eq_false g2
  obtain ⟨o1, ho1, ho1v⟩ : ∃ o1 : Nat, IntKind.u64.wrap ((x.c : Int) + 1) = (o1 : Int) ∧ o1 = x.c + 1 := ⟨x.c + 1, by rw [IntWalk.u64_in _ (by omega)]; omega, rfl⟩
  rw [← ho1v]
  clear ho1v
  have HI : Hid (v[r.f % 12]? = some (inp x.l r.f)) := h.inp.2 r.f (by omega) (by omega)
  have g5 : ((r.p : Int) != (inp x.l r.f : Int)) = false := by rw [bne_eq_false_iff_eq]; omega
  obtain ⟨k, hk⟩ : ∃ k, k = inp x.l r.f := ⟨_, rfl⟩
  rw [← hk] at HI g5
  obtain ⟨j, hj⟩ : ∃ j, j = r.f % 12 := ⟨_, rfl⟩
  rw [← hj] at HI
  have HJ := Lib.hid hj
  have HY := Lib.hid hy
  clear hk hj ho6 hf h1 h2 h3 hy
  have H0 := Lib.hid ((Loc.hold h.blk).more 114 (rcs r))
  have hv := Lib.hid h.inp.1
  have HB := Lib.hid (below_alloc w (.cells (rcs r) 114))
  have HR0 : Hid (Rcr 114 (g + 1) (w.alloc (.cells (rcs r) 114)) [g, w.heap.size] ao x.l.length cap x.l) := h.rcr.fresh (below_alloc w _) (Nat.le_refl _) (by simp)
  have hgs : Hid (g + 1 ≤ w.heap.size) := h.blk.lt
  have hfew := Lib.hid hfw
  go_enter Tryz.func282, Tryz.ntmps282
  go_upto_region 1 with fail
  generalize w.alloc (.cells (rcs r) 114) = wa at *
  have H1 : Hid (∀ k, Loc g w (wa.drewN k) [(g, 280, ccs n x v ao cap), (w.heap.size, 114, rcs r)]) := fun k => H0.out.to (below_drewN (Below.refl _ _) k)
  have l1 := fun k => (H1.out k).ldO ty_u64 1 rfl 1 (v := .int .u64 (r.f : Int)) rfl
  have l11 := fun k => (H1.out k).ldO ty_u64 0 rfl 11 (v := .int .u64 (x.c : Int)) (ccs11 n x v ao cap)
  have l12 := fun k => (H1.out k).ldO ty_u64 0 rfl 12 (v := .int .u64 (x.o : Int)) (ccs12 n x v ao cap)
  go_quiet (fail)
  clear l1 l11 l12 g1 g2 g3
  have H2 := Lib.hid (H1.out nq)
  have HR2 := Lib.hid (HR0.out.to (below_drewN (Below.refl _ _) nq))
  have HB2 := Lib.hid (below_drewN HB.out nq)
  clear H0 H1 HR0 HB
  generalize wa.drewN nq = wb at *
  go_upto_region 3 with fail
  have H3 : Hid (∀ k, Loc g w (wb.drewN k) [(g, 280, ccs n x v ao cap), (w.heap.size, 114, rcs r)]) := fun k => H2.out.to (below_drewN (Below.refl _ _) k)
  have l1 := fun k => (H3.out k).ldO ty_u64 1 rfl 1 (v := .int .u64 (r.f : Int)) rfl
  have l2 := fun k => (H3.out k).ldO ty_u8 0 rfl 9 (v := .int .u8 0) (by rw [ccs9, HY.out]; rfl)
  have l3 := fun k => (H3.out k).ldO ty_input 1 rfl 3 (v := .int .u8 (r.p : Int)) rfl
  have l4 := fun m => (H3.out m).ldO ty_input 0 rfl (13 + j) (v := .int .u8 (k : Int)) (ccs_inp n x v ao cap HI.out)
  have HC : Hid (∀ m, Calls Tryz.prog 308 #[.pointer (some ⟨g, 0, none⟩), .int .u64 (r.f : Int)] (wb.drewN m) fun E w' => E = .returned (.pointer (some ⟨g, 13 + j, none⟩)) ∧ wb.drewN m = w') := fun m => by rw [HJ.out]; exact cinput_c g r.f _
  go_quiet (first | (go_at_call 308; exact Calls.quiet_of_same ((HC.out _).mono fun _ _ hh => ⟨hh.1, hh.2.symm⟩)))
  clear l1 l2 l3 l4 HC g5
  have H4 := Lib.hid (H3.out nq)
  have HR4 := Lib.hid (HR2.out.to (below_drewN (Below.refl _ _) nq))
  clear H2 H3 HR2 HB2
  generalize wb.drewN nq = wc at *
  go_upto_region 5 with fail
  have l11 := H4.out.ldO ty_u64 0 rfl 11 (v := .int .u64 (x.c : Int)) (ccs11 n x v ao cap)
  obtain ⟨w5, s5, h5, q5⟩ := H4.out.stO ty_u64 0 rfl 11 (.int .u64 (o1 : Int)) (ccs_setC n x v ao cap o1) (L' := [(g, 280, ccs n ⟨x.b, x.h, x.l, o1, x.o⟩ v ao cap), (w.heap.size, 114, rcs r)]) rfl (by rw [ccs_size _ _ _ _ _ hv.out]; omega) rfl rfl
  have H5 := Lib.hid h5
  have HR5 := Lib.hid (HR4.out.turn (by simp) q5)
  clear h5 q5
  go_upto_region 6 with fail
  clear l11 s5 ho1 H4 HR4
  have a1 := fun W (hW : Cells W g 280 (ccs n ⟨x.b, x.h, x.l, o1, x.o⟩ v ao cap)) => run_ldO ty_recs hW 10 (ccs10 n ⟨x.b, x.h, x.l, o1, x.o⟩ v ao cap)
  have a2 := fun W (hW : Cells W w.heap.size 114 (rcs r)) => run_ldA ty_rec hW 0 (Nat.le_of_ble_eq_true rfl)
  have e0 : (((rcs r).toList.drop 0).take 9).toArray = rcs r := by simp [rcs]
  simp only [e0] at a2
  clear e0
  have HX := Lib.hid (H5.out.drew)
  have HRX := Lib.hid (HR5.out.to (Below.refl _ w5).drew)
  have o0 := (⟨HX.out.get 0 rfl, HX.out.get 1 rfl⟩ : Cells w5.drew g 280 (ccs n ⟨x.b, x.h, x.l, o1, x.o⟩ v ao cap) ∧ Cells w5.drew w.heap.size 114 (rcs r))
  refine wp_region_till (S := fun W => Cells W g 280 (ccs n ⟨x.b, x.h, x.l, o1, x.o⟩ v ao cap) ∧ Cells W w.heap.size 114 (rcs r)) (by kernel_rfl) ?_
  refine wpTill_take (i := 0) (v := ?vsr0) rfl (by kernel_rfl) (fun _ _ _ h => h) (Or.inl ⟨by rfl, ?hysr0⟩) o0 ?restsr0
  case hysr0 => (intro W hW; (try dsimp only at hW); go_simp; try with_reducible rfl)
  simp only [Act.put, List.setIfInBounds_toArray, List.set_cons_zero, List.set_cons_succ, List.getElem_toArray, List.getElem_cons_succ, List.getElem_cons_zero]
  refine wpTill_take (i := 1) (v := ?vsr1) rfl (by kernel_rfl) (fun _ _ _ h => h) (Or.inl ⟨by rfl, ?hysr1⟩) o0 ?restsr1
  case hysr1 => (intro W hW; (try dsimp only at hW); go_simp; try with_reducible rfl)
  simp only [Act.put, List.setIfInBounds_toArray, List.set_cons_zero, List.set_cons_succ, List.getElem_toArray, List.getElem_cons_succ, List.getElem_cons_zero]
  refine wpTill_take (i := 2) (v := ?vsr2) rfl (by kernel_rfl) (fun _ _ _ h => h) (Or.inl ⟨by rfl, ?hysr2⟩) o0 ?restsr2
  case hysr2 => (intro W hW; (try dsimp only at hW); go_simp; try with_reducible rfl)
  simp only [Act.put, List.setIfInBounds_toArray, List.set_cons_zero, List.set_cons_succ, List.getElem_toArray, List.getElem_cons_succ, List.getElem_cons_zero]
  refine wpTill_take (i := 3) (v := ?vsr3) rfl (by kernel_rfl) (fun _ _ _ h => h) (Or.inl ⟨by rfl, ?hysr3⟩) o0 ?restsr3
  case hysr3 => (intro W hW; (try dsimp only at hW); go_simp; try with_reducible rfl)
  simp only [Act.put, List.setIfInBounds_toArray, List.set_cons_zero, List.set_cons_succ, List.getElem_toArray, List.getElem_cons_succ, List.getElem_cons_zero]
  refine wpTill_take (i := 4) (v := ?vsr4) rfl (by kernel_rfl) (fun _ _ _ h => h) (Or.inl ⟨by rfl, ?hysr4⟩) o0 ?restsr4
  case hysr4 => (intro W hW; (try dsimp only at hW); go_simp; try with_reducible rfl)
  simp only [Act.put, List.setIfInBounds_toArray, List.set_cons_zero, List.set_cons_succ, List.getElem_toArray, List.getElem_cons_succ, List.getElem_cons_zero]
  refine wpTill_take (i := 5) (v := ?vsr5) rfl (by kernel_rfl) (fun _ _ _ h => h) (Or.inl ⟨by rfl, ?hysr5⟩) o0 ?restsr5
  case hysr5 => (intro W hW; (try dsimp only at hW); go_simp; try with_reducible rfl)
  simp only [Act.put, List.setIfInBounds_toArray, List.set_cons_zero, List.set_cons_succ, List.getElem_toArray, List.getElem_cons_succ, List.getElem_cons_zero]
  refine wpTill_run (i := 6) (by kernel_rfl) rfl o0 (fun K hK => ?_)
  go_simp
  have o6 := (⟨(HX.out.more 114 (rcs r)).get 0 rfl, (HX.out.more 114 (rcs r)).get 1 rfl⟩ : Cells (w5.drew.alloc (.cells (rcs r) 114)) g 280 (ccs n ⟨x.b, x.h, x.l, o1, x.o⟩ v ao cap) ∧ Cells (w5.drew.alloc (.cells (rcs r) 114)) w.heap.size 114 (rcs r))
  refine hK _ _ ?_
  clear hK K
  refine wpTill_run (i := 7) (by kernel_rfl) rfl o6 (fun K hK => ?_)
  refine step_append_rec Tryz.underlying127 info_rec rfl _ _ rfl (by simp [Act.eval]) r (by simp [Act.eval]) HRX.out HX.out (Nat.le_succ g) (by have := HX.out.be.size; have := hgs.out; omega) (by simp) (Nat.le_of_lt hfew.out) ?_
  intro r7 cap7 w7 hR7 hL7
  have HR7 := Lib.hid hR7
  have HL7 := Lib.hid hL7
  have o7 := (⟨HL7.out.get 0 rfl, HL7.out.get 1 rfl⟩ : Cells w7 g 280 (ccs n ⟨x.b, x.h, x.l, o1, x.o⟩ v ao cap) ∧ Cells w7 w.heap.size 114 (rcs r))
  clear hR7 hL7
  refine hK _ _ ?_
  clear hK K
  refine wpTill_run (i := 8) (by kernel_rfl) rfl o7 (fun K hK => ?_)
  go_simp
  refine hK _ _ ?_
  clear hK K
  refine wpTill_run (i := 9) (by kernel_rfl) rfl o7 (fun K hK => ?_)
  go_simp
  refine hK _ _ ?_
  clear hK K
  refine wpTill_run (i := 10) (by kernel_rfl) rfl o7 (fun K hK => ?_)
  obtain ⟨w8, s8, H8, q8⟩ := HL7.out.stO ty_recs 0 rfl 10 (.slice (some ⟨r7, 0, none⟩) (x.l.length + 1) cap7) (ccs_setL n ⟨x.b, x.h, x.l, o1, x.o⟩ v ao cap (x.l ++ [r]) (some ⟨r7, 0, none⟩) cap7 (x.l.length + 1) (by simp)) (L' := [(g, 280, ccs n ⟨x.b, x.h, x.l ++ [r], o1, x.o⟩ v (some ⟨r7, 0, none⟩) cap7), (w.heap.size, 114, rcs r)]) rfl (by rw [ccs_size _ _ _ _ _ hv.out]; omega) rfl rfl
  go_simp
  refine hK _ _ ?_
  clear hK K
  refine wpTill_done (by kernel_rfl) ?_
  clear a1 a2 o0 o6 o7 s8
  have H9 := Lib.hid H8
  have R9 := Lib.hid (HR7.out.turn (by simp) q8)
  clear H8 q8 HR7 HL7 HX HRX
  go_wp2
  go_ret
  refine ⟨rfl, some ⟨r7, 0, none⟩, cap7, H9.out.get 0 rfl, ?_, H9.out.be⟩
  have h9 := R9.out.own
  rw [show x.l.length + 1 = (x.l ++ [r]).length by simp] at h9
  exact h9
set_option maxHeartbeats 2000000 in
theorem sure_ok1 {g n : Nat} {x : Sg} {v : List Nat} {ao : Option Addr} {cap : Nat} {r : Rc} {w : World} (h : CtC w g n x v ao cap) (hf : r.fit) (h1 : r.f = x.c) (h2 : x.c < x.o) (hy : x.h.y = 1) (h3 : r.q = inp x.l r.f) (hfw : x.l.length < 1000000) :
    Calls Tryz.prog 282 #[.pointer (some ⟨g, 0, none⟩), .agg (rcs r)] w fun E w' => E = .returned (.int .i64 0) ∧ ∃ a' c', Cells w' g 280 (ccs n ⟨x.b, x.h, x.l ++ [r], (x.c + 1), x.o⟩ v a' c') ∧ w'.ownsRow (g + 1) 114 9 (.slice a' (x.l ++ [r]).length c') (x.l ++ [r]).length (Rall (x.l ++ [r])) ∧ Below g w w' := by
  have ho6 := h.okg.o64
  have g1 : ((r.f : Int) != (x.c : Int)) = false := by rw [bne_eq_false_iff_eq]; omega
  have g2 : ¬ (x.o : Int) ≤ (x.c : Int) := by omega
  have g3 : decide ((x.o : Int) ≤ (x.c : Int)) = false := decide_eq_false g2
  obtain ⟨o1, ho1, ho1v⟩ : ∃ o1 : Nat, IntKind.u64.wrap ((x.c : Int) + 1) = (o1 : Int) ∧ o1 = x.c + 1 := ⟨x.c + 1, by rw [IntWalk.u64_in _ (by omega)]; omega, rfl⟩
  rw [← ho1v]
  clear ho1v
  have HI : Hid (v[r.f % 12]? = some (inp x.l r.f)) := h.inp.2 r.f (by omega) (by omega)
  have g5 : ((r.q : Int) != (inp x.l r.f : Int)) = false := by rw [bne_eq_false_iff_eq]; omega
  obtain ⟨k, hk⟩ : ∃ k, k = inp x.l r.f := ⟨_, rfl⟩
  rw [← hk] at HI g5
  obtain ⟨j, hj⟩ : ∃ j, j = r.f % 12 := ⟨_, rfl⟩
  rw [← hj] at HI
  have HJ := Lib.hid hj
  have HY := Lib.hid hy
  clear hk hj ho6 hf h1 h2 h3 hy
  have H0 := Lib.hid ((Loc.hold h.blk).more 114 (rcs r))
  have hv := Lib.hid h.inp.1
  have HB := Lib.hid (below_alloc w (.cells (rcs r) 114))
  have HR0 : Hid (Rcr 114 (g + 1) (w.alloc (.cells (rcs r) 114)) [g, w.heap.size] ao x.l.length cap x.l) := h.rcr.fresh (below_alloc w _) (Nat.le_refl _) (by simp)
  have hgs : Hid (g + 1 ≤ w.heap.size) := h.blk.lt
  have hfew := Lib.hid hfw
  go_enter Tryz.func282, Tryz.ntmps282
  go_upto_region 1 with fail
  generalize w.alloc (.cells (rcs r) 114) = wa at *
  have H1 : Hid (∀ k, Loc g w (wa.drewN k) [(g, 280, ccs n x v ao cap), (w.heap.size, 114, rcs r)]) := fun k => H0.out.to (below_drewN (Below.refl _ _) k)
  have l1 := fun k => (H1.out k).ldO ty_u64 1 rfl 1 (v := .int .u64 (r.f : Int)) rfl
  have l11 := fun k => (H1.out k).ldO ty_u64 0 rfl 11 (v := .int .u64 (x.c : Int)) (ccs11 n x v ao cap)
  have l12 := fun k => (H1.out k).ldO ty_u64 0 rfl 12 (v := .int .u64 (x.o : Int)) (ccs12 n x v ao cap)
  go_quiet (fail)
  clear l1 l11 l12 g1 g2 g3
  have H2 := Lib.hid (H1.out nq)
  have HR2 := Lib.hid (HR0.out.to (below_drewN (Below.refl _ _) nq))
  have HB2 := Lib.hid (below_drewN HB.out nq)
  clear H0 H1 HR0 HB
  generalize wa.drewN nq = wb at *
  go_upto_region 3 with fail
  have H3 : Hid (∀ k, Loc g w (wb.drewN k) [(g, 280, ccs n x v ao cap), (w.heap.size, 114, rcs r)]) := fun k => H2.out.to (below_drewN (Below.refl _ _) k)
  have l1 := fun k => (H3.out k).ldO ty_u64 1 rfl 1 (v := .int .u64 (r.f : Int)) rfl
  have l2 := fun k => (H3.out k).ldO ty_u8 0 rfl 9 (v := .int .u8 1) (by rw [ccs9, HY.out]; rfl)
  have l3 := fun k => (H3.out k).ldO ty_input 1 rfl 4 (v := .int .u8 (r.q : Int)) rfl
  have l4 := fun m => (H3.out m).ldO ty_input 0 rfl (13 + j) (v := .int .u8 (k : Int)) (ccs_inp n x v ao cap HI.out)
  have HC : Hid (∀ m, Calls Tryz.prog 308 #[.pointer (some ⟨g, 0, none⟩), .int .u64 (r.f : Int)] (wb.drewN m) fun E w' => E = .returned (.pointer (some ⟨g, 13 + j, none⟩)) ∧ wb.drewN m = w') := fun m => by rw [HJ.out]; exact cinput_c g r.f _
  go_quiet (first | (go_at_call 308; exact Calls.quiet_of_same ((HC.out _).mono fun _ _ hh => ⟨hh.1, hh.2.symm⟩)))
  clear l1 l2 l3 l4 HC g5
  have H4 := Lib.hid (H3.out nq)
  have HR4 := Lib.hid (HR2.out.to (below_drewN (Below.refl _ _) nq))
  clear H2 H3 HR2 HB2
  generalize wb.drewN nq = wc at *
  go_upto_region 5 with fail
  have l11 := H4.out.ldO ty_u64 0 rfl 11 (v := .int .u64 (x.c : Int)) (ccs11 n x v ao cap)
  obtain ⟨w5, s5, h5, q5⟩ := H4.out.stO ty_u64 0 rfl 11 (.int .u64 (o1 : Int)) (ccs_setC n x v ao cap o1) (L' := [(g, 280, ccs n ⟨x.b, x.h, x.l, o1, x.o⟩ v ao cap), (w.heap.size, 114, rcs r)]) rfl (by rw [ccs_size _ _ _ _ _ hv.out]; omega) rfl rfl
  have H5 := Lib.hid h5
  have HR5 := Lib.hid (HR4.out.turn (by simp) q5)
  clear h5 q5
  go_upto_region 6 with fail
  clear l11 s5 ho1 H4 HR4
  have a1 := fun W (hW : Cells W g 280 (ccs n ⟨x.b, x.h, x.l, o1, x.o⟩ v ao cap)) => run_ldO ty_recs hW 10 (ccs10 n ⟨x.b, x.h, x.l, o1, x.o⟩ v ao cap)
  have a2 := fun W (hW : Cells W w.heap.size 114 (rcs r)) => run_ldA ty_rec hW 0 (Nat.le_of_ble_eq_true rfl)
  have e0 : (((rcs r).toList.drop 0).take 9).toArray = rcs r := by simp [rcs]
  simp only [e0] at a2
  clear e0
  have HX := Lib.hid (H5.out.drew)
  have HRX := Lib.hid (HR5.out.to (Below.refl _ w5).drew)
  have o0 := (⟨HX.out.get 0 rfl, HX.out.get 1 rfl⟩ : Cells w5.drew g 280 (ccs n ⟨x.b, x.h, x.l, o1, x.o⟩ v ao cap) ∧ Cells w5.drew w.heap.size 114 (rcs r))
  refine wp_region_till (S := fun W => Cells W g 280 (ccs n ⟨x.b, x.h, x.l, o1, x.o⟩ v ao cap) ∧ Cells W w.heap.size 114 (rcs r)) (by kernel_rfl) ?_
  refine wpTill_take (i := 0) (v := ?vsr0) rfl (by kernel_rfl) (fun _ _ _ h => h) (Or.inl ⟨by rfl, ?hysr0⟩) o0 ?restsr0
  case hysr0 => (intro W hW; (try dsimp only at hW); go_simp; try with_reducible rfl)
  simp only [Act.put, List.setIfInBounds_toArray, List.set_cons_zero, List.set_cons_succ, List.getElem_toArray, List.getElem_cons_succ, List.getElem_cons_zero]
  refine wpTill_take (i := 1) (v := ?vsr1) rfl (by kernel_rfl) (fun _ _ _ h => h) (Or.inl ⟨by rfl, ?hysr1⟩) o0 ?restsr1
  case hysr1 => (intro W hW; (try dsimp only at hW); go_simp; try with_reducible rfl)
  simp only [Act.put, List.setIfInBounds_toArray, List.set_cons_zero, List.set_cons_succ, List.getElem_toArray, List.getElem_cons_succ, List.getElem_cons_zero]
  refine wpTill_take (i := 2) (v := ?vsr2) rfl (by kernel_rfl) (fun _ _ _ h => h) (Or.inl ⟨by rfl, ?hysr2⟩) o0 ?restsr2
  case hysr2 => (intro W hW; (try dsimp only at hW); go_simp; try with_reducible rfl)
  simp only [Act.put, List.setIfInBounds_toArray, List.set_cons_zero, List.set_cons_succ, List.getElem_toArray, List.getElem_cons_succ, List.getElem_cons_zero]
  refine wpTill_take (i := 3) (v := ?vsr3) rfl (by kernel_rfl) (fun _ _ _ h => h) (Or.inl ⟨by rfl, ?hysr3⟩) o0 ?restsr3
  case hysr3 => (intro W hW; (try dsimp only at hW); go_simp; try with_reducible rfl)
  simp only [Act.put, List.setIfInBounds_toArray, List.set_cons_zero, List.set_cons_succ, List.getElem_toArray, List.getElem_cons_succ, List.getElem_cons_zero]
  refine wpTill_take (i := 4) (v := ?vsr4) rfl (by kernel_rfl) (fun _ _ _ h => h) (Or.inl ⟨by rfl, ?hysr4⟩) o0 ?restsr4
  case hysr4 => (intro W hW; (try dsimp only at hW); go_simp; try with_reducible rfl)
  simp only [Act.put, List.setIfInBounds_toArray, List.set_cons_zero, List.set_cons_succ, List.getElem_toArray, List.getElem_cons_succ, List.getElem_cons_zero]
  refine wpTill_take (i := 5) (v := ?vsr5) rfl (by kernel_rfl) (fun _ _ _ h => h) (Or.inl ⟨by rfl, ?hysr5⟩) o0 ?restsr5
  case hysr5 => (intro W hW; (try dsimp only at hW); go_simp; try with_reducible rfl)
  simp only [Act.put, List.setIfInBounds_toArray, List.set_cons_zero, List.set_cons_succ, List.getElem_toArray, List.getElem_cons_succ, List.getElem_cons_zero]
  refine wpTill_run (i := 6) (by kernel_rfl) rfl o0 (fun K hK => ?_)
  go_simp
  have o6 := (⟨(HX.out.more 114 (rcs r)).get 0 rfl, (HX.out.more 114 (rcs r)).get 1 rfl⟩ : Cells (w5.drew.alloc (.cells (rcs r) 114)) g 280 (ccs n ⟨x.b, x.h, x.l, o1, x.o⟩ v ao cap) ∧ Cells (w5.drew.alloc (.cells (rcs r) 114)) w.heap.size 114 (rcs r))
  refine hK _ _ ?_
  clear hK K
  refine wpTill_run (i := 7) (by kernel_rfl) rfl o6 (fun K hK => ?_)
  refine step_append_rec Tryz.underlying127 info_rec rfl _ _ rfl (by simp [Act.eval]) r (by simp [Act.eval]) HRX.out HX.out (Nat.le_succ g) (by have := HX.out.be.size; have := hgs.out; omega) (by simp) (Nat.le_of_lt hfew.out) ?_
  intro r7 cap7 w7 hR7 hL7
  have HR7 := Lib.hid hR7
  have HL7 := Lib.hid hL7
  have o7 := (⟨HL7.out.get 0 rfl, HL7.out.get 1 rfl⟩ : Cells w7 g 280 (ccs n ⟨x.b, x.h, x.l, o1, x.o⟩ v ao cap) ∧ Cells w7 w.heap.size 114 (rcs r))
  clear hR7 hL7
  refine hK _ _ ?_
  clear hK K
  refine wpTill_run (i := 8) (by kernel_rfl) rfl o7 (fun K hK => ?_)
  go_simp
  refine hK _ _ ?_
  clear hK K
  refine wpTill_run (i := 9) (by kernel_rfl) rfl o7 (fun K hK => ?_)
  go_simp
  refine hK _ _ ?_
  clear hK K
  refine wpTill_run (i := 10) (by kernel_rfl) rfl o7 (fun K hK => ?_)
  obtain ⟨w8, s8, H8, q8⟩ := HL7.out.stO ty_recs 0 rfl 10 (.slice (some ⟨r7, 0, none⟩) (x.l.length + 1) cap7) (ccs_setL n ⟨x.b, x.h, x.l, o1, x.o⟩ v ao cap (x.l ++ [r]) (some ⟨r7, 0, none⟩) cap7 (x.l.length + 1) (by simp)) (L' := [(g, 280, ccs n ⟨x.b, x.h, x.l ++ [r], o1, x.o⟩ v (some ⟨r7, 0, none⟩) cap7), (w.heap.size, 114, rcs r)]) rfl (by rw [ccs_size _ _ _ _ _ hv.out]; omega) rfl rfl
  go_simp
  refine hK _ _ ?_
  clear hK K
  refine wpTill_done (by kernel_rfl) ?_
  clear a1 a2 o0 o6 o7 s8
  have H9 := Lib.hid H8
  have R9 := Lib.hid (HR7.out.turn (by simp) q8)
  clear H8 q8 HR7 HL7 HX HRX
  go_wp2
  go_ret
  refine ⟨rfl, some ⟨r7, 0, none⟩, cap7, H9.out.get 0 rfl, ?_, H9.out.be⟩
  have h9 := R9.out.own
  rw [show x.l.length + 1 = (x.l ++ [r]).length by simp] at h9
  exact h9
end Go.Proofs.YtgeaacabpnepmaaGreatDoor
