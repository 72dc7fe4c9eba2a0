/- Texts of the walk. -/
import Derived.Test.YtgeaacabpnepmaaGreatDoorBb8
import Derived.BigQuiet
import Derived.IntWalk
/- What is done with a record: begin, own, sure, and the choice among them. -/
namespace Go.Proofs.YtgeaacabpnepmaaGreatDoor
open Go.RowKit
set_option linter.unusedVariables false
set_option linter.unusedSimpArgs false
set_option maxRecDepth 20000

theorem cinput_c (g f : Nat) (w : World) : Calls Tryz.prog 308 #[.pointer (some ⟨g, 0, none⟩), .int .u64 (f : Int)] w fun E w' => E = .returned (.pointer (some ⟨g, 13 + f % 12, none⟩)) ∧ w = w' := by
  obtain ⟨k, hk, hk2⟩ : ∃ k : Nat, (f : Int) % 12 = (k : Int) ∧ k = f % 12 := ⟨f % 12, by omega, rfl⟩
  have hlt : (k : Int) < 12 := by omega
  have hlt2 : k < 12 := by omega
  rw [← hk2]
  clear hk2
  go_enter Tryz.func308, Tryz.ntmps308
  go_wp2
  go_ret
  exact ⟨rfl, rfl⟩
theorem Loc.hold {w : World} {g : Nat} {t : TypeId} {cs : Array Value} (h : Cells w g t cs) : Loc g w w [(g, t, cs)] :=
  ⟨Nat.le_of_lt h.lt, Below.refl _ _, fun e he => by rw [List.mem_singleton] at he; subst he; exact Nat.le_refl _, by simp, fun e he => by rw [List.mem_singleton] at he; subst he; exact h⟩
attribute [local go_sem ↓] ld_rec ld_u64 ld_recs ld_input ld_u8 st_rec st_u64 st_recs
theorem begin_bad {g n : Nat} {x : Sg} {v : List Nat} {ao : Option Addr} {cap : Nat} {r : Rc} {w : World} (h : CtC w g n x v ao cap) (hs : r.s ≠ n) :
    Calls Tryz.prog 283 #[.pointer (some ⟨g, 0, none⟩), .agg (rcs r)] w fun E w' => E = .returned (.int .i64 11) ∧ Below w.heap.size w w' := by
  have H0 := Lib.hid ((Loc.hold h.blk).more 114 (rcs r))
  have HB := Lib.hid ((Below.refl w.heap.size w).alloc (Nat.le_refl _) (.cells (rcs r) 114))
  have g1 : ((r.s : Int) == (n : Int)) = false := beq_eq_false_iff_ne.2 (by omega)
  go_enter Tryz.func283, Tryz.ntmps283
  go_upto_region 1 with fail
  generalize w.alloc (.cells (rcs r) 114) = wa at *
  have H1 : Hid (∀ k, Loc g w (wa.drewN k) [(g, 280, ccs n x v ao cap), (w.heap.size, 114, rcs r)]) := fun k => H0.out.to (below_drewN (Below.refl _ _) k)
  have l5 := fun k => (H1.out k).ldO ty_u64 1 rfl 5 (v := .int .u64 (r.s : Int)) rfl
  have l0 := fun k => (H1.out k).ldO ty_u64 0 rfl 0 (v := .int .u64 (n : Int)) (ccs0 n x v ao cap)
  go_quiet (fail)
  go_wp2
  go_ret
  exact ⟨rfl, below_drewN HB.out nq⟩
set_option maxHeartbeats 1000000 in
theorem begin_ok {g n : Nat} {x : Sg} {v : List Nat} {ao : Option Addr} {cap : Nat} {r : Rc} {w : World} (h : CtC w g n x v ao cap) (hs : r.s = n) :
    Calls Tryz.prog 283 #[.pointer (some ⟨g, 0, none⟩), .agg (rcs r)] w fun E w' => E = .returned (.int .i64 0) ∧ Cells w' g 280 (ccs n ⟨true, r, x.l, r.i, r.i⟩ v ao cap) ∧ Tu (fun k => k = g) w w' := by
  have H0 := Lib.hid ((Loc.hold h.blk).more 114 (rcs r))
  have hv := Lib.hid h.inp.1
  have HB := Lib.hid (below_alloc w (.cells (rcs r) 114))
  have g1 : ((r.s : Int) == (n : Int)) = true := beq_iff_eq.2 (by omega)
  clear h
  go_enter Tryz.func283, Tryz.ntmps283
  go_upto_region 1 with fail
  generalize w.alloc (.cells (rcs r) 114) = wa at *
  have H1 : Hid (∀ k, Loc g w (wa.drewN k) [(g, 280, ccs n x v ao cap), (w.heap.size, 114, rcs r)]) := fun k => H0.out.to (below_drewN (Below.refl _ _) k)
  have l5 := fun k => (H1.out k).ldO ty_u64 1 rfl 5 (v := .int .u64 (r.s : Int)) rfl
  have l0 := fun k => (H1.out k).ldO ty_u64 0 rfl 0 (v := .int .u64 (n : Int)) (ccs0 n x v ao cap)
  go_quiet (fail)
  clear l5 l0 g1
  have HB1 := Lib.hid (below_drewN HB.out nq)
  have H2 := Lib.hid (H1.out nq)
  clear H1 H0 HB
  generalize wa.drewN nq = wb at *
  go_upto_region 3 with fail
  have a1 := fun W (hW : Cells W w.heap.size 114 (rcs r)) => run_ldA ty_rec hW 0 (Nat.le_of_ble_eq_true rfl)
  have a2 := fun W (hW : Cells W w.heap.size 114 (rcs r)) => run_ldO ty_u64 hW 6 (v := .int .u64 (r.i : Int)) rfl
  have e0 : (((rcs r).toList.drop 0).take 9).toArray = rcs r := by simp [rcs]
  simp only [e0] at a1
  clear e0
  have o0 := H2.out.drew.get 1 rfl
  refine wp_region_till (S := fun W => Cells W w.heap.size 114 (rcs r)) (by kernel_rfl) ?_
  refine wpTill_take (i := 0) (v := ?vbg0) rfl (by kernel_rfl) (fun _ _ _ h => h) (Or.inl ⟨by rfl, ?hybg0⟩) o0 ?restbg0
  case hybg0 => (intro W hW; (try dsimp only at hW); go_simp; try with_reducible rfl)
  simp only [Act.put, List.setIfInBounds_toArray, List.set_cons_zero, List.set_cons_succ, List.getElem_toArray, List.getElem_cons_succ, List.getElem_cons_zero]
  refine wpTill_take (i := 1) (v := ?vbg1) rfl (by kernel_rfl) (fun _ _ _ h => h) (Or.inl ⟨by rfl, ?hybg1⟩) o0 ?restbg1
  case hybg1 => (intro W hW; (try dsimp only at hW); go_simp; try with_reducible rfl)
  simp only [Act.put, List.setIfInBounds_toArray, List.set_cons_zero, List.set_cons_succ, List.getElem_toArray, List.getElem_cons_succ, List.getElem_cons_zero]
  refine wpTill_take (i := 2) (v := ?vbg2) rfl (by kernel_rfl) (fun _ _ _ h => h) (Or.inl ⟨by rfl, ?hybg2⟩) o0 ?restbg2
  case hybg2 => (intro W hW; (try dsimp only at hW); go_simp; try with_reducible rfl)
  simp only [Act.put, List.setIfInBounds_toArray, List.set_cons_zero, List.set_cons_succ, List.getElem_toArray, List.getElem_cons_succ, List.getElem_cons_zero]
  refine wpTill_take (i := 3) (v := ?vbg3) rfl (by kernel_rfl) (fun _ _ _ h => h) (Or.inl ⟨by rfl, ?hybg3⟩) o0 ?restbg3
  case hybg3 => (intro W hW; (try dsimp only at hW); go_simp; try with_reducible rfl)
  simp only [Act.put, List.setIfInBounds_toArray, List.set_cons_zero, List.set_cons_succ, List.getElem_toArray, List.getElem_cons_succ, List.getElem_cons_zero]
  refine wpTill_take (i := 4) (v := ?vbg4) rfl (by kernel_rfl) (fun _ _ _ h => h) (Or.inl ⟨by rfl, ?hybg4⟩) o0 ?restbg4
  case hybg4 => (intro W hW; (try dsimp only at hW); go_simp; try with_reducible rfl)
  simp only [Act.put, List.setIfInBounds_toArray, List.set_cons_zero, List.set_cons_succ, List.getElem_toArray, List.getElem_cons_succ, List.getElem_cons_zero]
  refine wpTill_take (i := 5) (v := ?vbg5) rfl (by kernel_rfl) (fun _ _ _ h => h) (Or.inl ⟨by rfl, ?hybg5⟩) o0 ?restbg5
  case hybg5 => (intro W hW; (try dsimp only at hW); go_simp; try with_reducible rfl)
  simp only [Act.put, List.setIfInBounds_toArray, List.set_cons_zero, List.set_cons_succ, List.getElem_toArray, List.getElem_cons_succ, List.getElem_cons_zero]
  refine wpTill_take (i := 6) (v := ?vbg6) rfl (by kernel_rfl) (fun _ _ _ h => h) (Or.inl ⟨by rfl, ?hybg6⟩) o0 ?restbg6
  case hybg6 => (intro W hW; (try dsimp only at hW); go_simp; try with_reducible rfl)
  simp only [Act.put, List.setIfInBounds_toArray, List.set_cons_zero, List.set_cons_succ, List.getElem_toArray, List.getElem_cons_succ, List.getElem_cons_zero]
  refine wpTill_take (i := 7) (v := ?vbg7) rfl (by kernel_rfl) (fun _ _ _ h => h) (Or.inl ⟨by rfl, ?hybg7⟩) o0 ?restbg7
  case hybg7 => (intro W hW; (try dsimp only at hW); go_simp; try with_reducible rfl)
  simp only [Act.put, List.setIfInBounds_toArray, List.set_cons_zero, List.set_cons_succ, List.getElem_toArray, List.getElem_cons_succ, List.getElem_cons_zero]
  refine wpTill_take (i := 8) (v := ?vbg8) rfl (by kernel_rfl) (fun _ _ _ h => h) (Or.inl ⟨by rfl, ?hybg8⟩) o0 ?restbg8
  case hybg8 => (intro W hW; (try dsimp only at hW); go_simp; try with_reducible rfl)
  simp only [Act.put, List.setIfInBounds_toArray, List.set_cons_zero, List.set_cons_succ, List.getElem_toArray, List.getElem_cons_succ, List.getElem_cons_zero]
  refine wpTill_take (i := 9) (v := ?vbg9) rfl (by kernel_rfl) (fun _ _ _ h => h) (Or.inl ⟨by rfl, ?hybg9⟩) o0 ?restbg9
  case hybg9 => (intro W hW; (try dsimp only at hW); go_simp; try with_reducible rfl)
  simp only [Act.put, List.setIfInBounds_toArray, List.set_cons_zero, List.set_cons_succ, List.getElem_toArray, List.getElem_cons_succ, List.getElem_cons_zero]
  refine wpTill_run (i := 10) (by kernel_rfl) rfl o0 (fun K hK => ?_)
  obtain ⟨w10, s10, H10, q10⟩ := H2.out.drew.stA ty_rec 0 rfl 1 (rcs r) (ccs_setHead n x v ao cap r hv.out) (L' := [(g, 280, ccs n ⟨true, r, x.l, x.c, x.o⟩ v ao cap), (w.heap.size, 114, rcs r)]) rfl (by rw [ccs_size _ _ _ _ _ hv.out]; omega) rfl (List.all_eq_true.2 (rcs_one r))
  go_simp
  have o10 := H10.get 1 rfl
  refine hK _ _ ?_
  clear hK K
  refine wpTill_take (i := 11) (v := ?vbg11) rfl (by kernel_rfl) (fun _ _ _ h => h) (Or.inl ⟨by rfl, ?hybg11⟩) o10 ?restbg11
  case hybg11 => (intro W hW; (try dsimp only at hW); go_simp; try with_reducible rfl)
  simp only [Act.put, List.setIfInBounds_toArray, List.set_cons_zero, List.set_cons_succ, List.getElem_toArray, List.getElem_cons_succ, List.getElem_cons_zero]
  refine wpTill_take (i := 12) (v := ?vbg12) rfl (by kernel_rfl) (fun _ _ _ h => h) (Or.inl ⟨by rfl, ?hybg12⟩) o10 ?restbg12
  case hybg12 => (intro W hW; (try dsimp only at hW); go_simp; try with_reducible rfl)
  simp only [Act.put, List.setIfInBounds_toArray, List.set_cons_zero, List.set_cons_succ, List.getElem_toArray, List.getElem_cons_succ, List.getElem_cons_zero]
  refine wpTill_run (i := 13) (by kernel_rfl) rfl o10 (fun K hK => ?_)
  obtain ⟨w13, s13, H13, q13⟩ := H10.stO ty_u64 0 rfl 11 (.int .u64 (r.i : Int)) (ccs_setC n ⟨true, r, x.l, x.c, x.o⟩ v ao cap r.i) (L' := [(g, 280, ccs n ⟨true, r, x.l, r.i, x.o⟩ v ao cap), (w.heap.size, 114, rcs r)]) rfl (by rw [ccs_size _ _ _ _ _ hv.out]; omega) rfl rfl
  go_simp
  have o13 := H13.get 1 rfl
  refine hK _ _ ?_
  clear hK K
  refine wpTill_take (i := 14) (v := ?vbg14) rfl (by kernel_rfl) (fun _ _ _ h => h) (Or.inl ⟨by rfl, ?hybg14⟩) o13 ?restbg14
  case hybg14 => (intro W hW; (try dsimp only at hW); go_simp; try with_reducible rfl)
  simp only [Act.put, List.setIfInBounds_toArray, List.set_cons_zero, List.set_cons_succ, List.getElem_toArray, List.getElem_cons_succ, List.getElem_cons_zero]
  refine wpTill_take (i := 15) (v := ?vbg15) rfl (by kernel_rfl) (fun _ _ _ h => h) (Or.inl ⟨by rfl, ?hybg15⟩) o13 ?restbg15
  case hybg15 => (intro W hW; (try dsimp only at hW); go_simp; try with_reducible rfl)
  simp only [Act.put, List.setIfInBounds_toArray, List.set_cons_zero, List.set_cons_succ, List.getElem_toArray, List.getElem_cons_succ, List.getElem_cons_zero]
  refine wpTill_run (i := 16) (by kernel_rfl) rfl o13 (fun K hK => ?_)
  obtain ⟨w16, s16, H16, q16⟩ := H13.stO ty_u64 0 rfl 12 (.int .u64 (r.i : Int)) (ccs_setO n ⟨true, r, x.l, r.i, x.o⟩ v ao cap r.i) (L' := [(g, 280, ccs n ⟨true, r, x.l, r.i, r.i⟩ v ao cap), (w.heap.size, 114, rcs r)]) rfl (by rw [ccs_size _ _ _ _ _ hv.out]; omega) rfl rfl
  go_simp
  have o16 := H16.get 1 rfl
  refine hK _ _ ?_
  clear hK K
  refine wpTill_done (by kernel_rfl) ?_
  clear a1 a2 o0 o10 o13 o16 s10 s13 s16
  have T1 := Lib.hid (((Tu.of_same (g := g) q10).trans (Tu.of_same q13) (fun _ _ h => h)).trans (Tu.of_same q16) (fun _ _ h => h))
  have H3 := Lib.hid H16
  clear q10 q13 q16 H10 H13 H16
  go_wp2
  go_ret
  exact ⟨rfl, H3.out.get 0 rfl, (Tu.new (S := fun k => k = g) HB1.out).draw.trans T1.out (fun _ _ h => h)⟩
set_option maxHeartbeats 1000000 in
theorem own_bad {g n : Nat} {x : Sg} {v : List Nat} {ao : Option Addr} {cap : Nat} {r : Rc} {w : World} (h : CtC w g n x v ao cap) (hf : r.fit) (hb : r.f ≠ x.o ∨ 12 ≤ x.o - x.c ∨ r.f = 18446744073709551615) :
    Calls Tryz.prog 281 #[.pointer (some ⟨g, 0, none⟩), .agg (rcs r)] w fun E w' => E = .returned (.int .i64 11) ∧ Below w.heap.size w w' := by
  have hco := h.okg.co
  have hoc := h.okg.oc
  have ho6 := h.okg.o64
  have hfr := hf.f
  by_cases h1 : r.f = x.o
  · have g1 : ((r.f : Int) != (x.o : Int)) = false := by rw [bne_eq_false_iff_eq]; omega
    obtain ⟨d, hd, hdv⟩ : ∃ d : Nat, IntKind.u64.wrap ((r.f : Int) - (x.c : Int)) = (d : Int) ∧ d = x.o - x.c := ⟨x.o - x.c, by rw [IntWalk.u64_in _ (by omega)]; omega, rfl⟩
    by_cases h2 : 12 ≤ x.o - x.c
    · have g2 : (12 : Int) ≤ (d : Int) := by omega
      have g3 : decide ((12 : Int) ≤ (d : Int)) = true := decide_eq_true g2
      clear hb hco hoc ho6 hfr hf h1 h2 hdv
      have H0 := Lib.hid ((Loc.hold h.blk).more 114 (rcs r))
      have HB := Lib.hid (below_alloc w (.cells (rcs r) 114))
      go_enter Tryz.func281, Tryz.ntmps281
      go_upto_region 1 with fail
      generalize w.alloc (.cells (rcs r) 114) = wa at *
      have H1 : Hid (∀ k, Loc g w (wa.drewN k) [(g, 280, ccs n x v ao cap), (w.heap.size, 114, rcs r)]) := fun k => H0.out.to (below_drewN (Below.refl _ _) k)
      have l1 := fun k => (H1.out k).ldO ty_u64 1 rfl 1 (v := .int .u64 (r.f : Int)) rfl
      have l11 := fun k => (H1.out k).ldO ty_u64 0 rfl 11 (v := .int .u64 (x.c : Int)) (ccs11 n x v ao cap)
      have l12 := fun k => (H1.out k).ldO ty_u64 0 rfl 12 (v := .int .u64 (x.o : Int)) (ccs12 n x v ao cap)
      go_quiet (fail)
      go_wp2
      go_ret
      exact ⟨rfl, below_drewN HB.out nq⟩
    · have g2 : ¬ (12 : Int) ≤ (d : Int) := by omega
      have g3 : decide ((12 : Int) ≤ (d : Int)) = false := decide_eq_false g2
      have g4 : ((r.f : Int) == 18446744073709551615) = true := beq_iff_eq.2 (by omega)
      clear hb hco hoc ho6 hfr hf h1 h2 hdv
      have H0 := Lib.hid ((Loc.hold h.blk).more 114 (rcs r))
      have HB := Lib.hid (below_alloc w (.cells (rcs r) 114))
      go_enter Tryz.func281, Tryz.ntmps281
      go_upto_region 1 with fail
      generalize w.alloc (.cells (rcs r) 114) = wa at *
      have H1 : Hid (∀ k, Loc g w (wa.drewN k) [(g, 280, ccs n x v ao cap), (w.heap.size, 114, rcs r)]) := fun k => H0.out.to (below_drewN (Below.refl _ _) k)
      have l1 := fun k => (H1.out k).ldO ty_u64 1 rfl 1 (v := .int .u64 (r.f : Int)) rfl
      have l11 := fun k => (H1.out k).ldO ty_u64 0 rfl 11 (v := .int .u64 (x.c : Int)) (ccs11 n x v ao cap)
      have l12 := fun k => (H1.out k).ldO ty_u64 0 rfl 12 (v := .int .u64 (x.o : Int)) (ccs12 n x v ao cap)
      go_quiet (fail)
      go_wp2
      go_ret
      exact ⟨rfl, below_drewN HB.out nq⟩
  · have g1 : ((r.f : Int) != (x.o : Int)) = true := bne_iff_ne.2 (by omega)
    clear hb hco hoc ho6 hfr hf h1
    have H0 := Lib.hid ((Loc.hold h.blk).more 114 (rcs r))
    have HB := Lib.hid (below_alloc w (.cells (rcs r) 114))
    go_enter Tryz.func281, Tryz.ntmps281
    go_upto_region 1 with fail
    generalize w.alloc (.cells (rcs r) 114) = wa at *
    have H1 : Hid (∀ k, Loc g w (wa.drewN k) [(g, 280, ccs n x v ao cap), (w.heap.size, 114, rcs r)]) := fun k => H0.out.to (below_drewN (Below.refl _ _) k)
    have l1 := fun k => (H1.out k).ldO ty_u64 1 rfl 1 (v := .int .u64 (r.f : Int)) rfl
    have l11 := fun k => (H1.out k).ldO ty_u64 0 rfl 11 (v := .int .u64 (x.c : Int)) (ccs11 n x v ao cap)
    have l12 := fun k => (H1.out k).ldO ty_u64 0 rfl 12 (v := .int .u64 (x.o : Int)) (ccs12 n x v ao cap)
    go_quiet (fail)
    go_wp2
    go_ret
    exact ⟨rfl, below_drewN HB.out nq⟩
end Go.Proofs.YtgeaacabpnepmaaGreatDoor
