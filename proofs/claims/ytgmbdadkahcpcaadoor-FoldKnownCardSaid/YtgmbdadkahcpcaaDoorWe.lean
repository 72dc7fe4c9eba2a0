/- The program's history, what turns it and what tells of it: Add, At, Drop. Nothing is assumed beyond each contract's own bounds. -/
import Derived.Test.YtgmbdadkahcpcaaDoorWd
import Derived.Test.YtgmbdadkahcpcaaDoorAd
import Derived.Test.YtgmbdadkahcpcaaDoorAb
namespace Go.Proofs.YtgmbdadkahcpcaaDoor
open Go.RowKit
set_option linter.unusedVariables false
set_option linter.unusedSimpArgs false
set_option maxRecDepth 20000

theorem Loc.held {w : World} {g : Nat} {t : TypeId} {cs : Array Value} (h : Cells w g t cs) : Loc g w w [(g, t, cs)] :=
  ⟨Nat.le_of_lt h.lt, Below.refl _ _, fun e he => by simp only [List.mem_singleton] at he; subst he; exact Nat.le_refl _, by simp, fun e he => by simp only [List.mem_singleton] at he; subst he; exact h⟩
theorem shut_pair {W : World} {g : Nat} {cs : Array Value} (tmps : Array Value) (b : Bool) (fn : Func) (hr : fn.results = #[.cell 4 47, .tmp 5]) (h : Cells W g 47 cs) (hs : cs.size = 2) (h2 : tmps.getD 4 undef = .pointer (some ⟨g, 0, none⟩)) (h3 : tmps.getD 5 undef = .bool b) :
    (results fn tmps).run Tryd.prog W = .ok (.tuple #[.agg cs, .bool b]) W := by
  have hl := run_ldA ty_pair h 0 (by omega)
  have e : ((cs.toList.drop 0).take 2).toArray = cs := by simp [List.take_of_length_le, hs]
  rw [e] at hl
  have h2' : tmps[4]?.getD undef = .pointer (some ⟨g, 0, none⟩) := by simpa using h2
  have h3' : tmps[5]?.getD undef = .bool b := by simpa using h3
  have hl2 : (loadVar 47 ⟨g, 0, none⟩).run Tryd.prog W = .ok (.agg cs) W := by
    simpa [ldT, Instr.loadAt, Instr.sureAddr] using hl
  simp [results, hr, h2', h3', asAddr, hl2]
section
variable {g f c m p q : Nat} {R : List (Nat × Nat)} {w : World}
theorem addNil_c (hp : p < 256) (hq : q < 256) : Calls Tryd.prog 19 #[.pointer none, .agg #[.int .u8 (p : Int), .int .u8 (q : Int)]] w fun E w' => E = .returned (.int .i64 1) ∧ Below w.heap.size w w' := by
  go_enter Tryd.func19, Tryd.ntmps19
  go_wp2
  go_ret
  exact ⟨rfl, (Below.refl _ _).alloc (Nat.le_refl _) _⟩
theorem addNone_c (hR : R.length = 256) (h : PHc w g R f c 0) (hp : p < 256) (hq : q < 256) : Calls Tryd.prog 19 #[.pointer (some ⟨g, 0, none⟩), .agg #[.int .u8 (p : Int), .int .u8 (q : Int)]] w fun E w' => E = .returned (.int .i64 1) ∧ Below w.heap.size w w' := by
  have hc := h.alloc (.cells #[.int .u8 (p : Int), .int .u8 (q : Int)] 47)
  have c2 : (w.alloc (.cells #[.int .u8 (p : Int), .int .u8 (q : Int)] 47)).cell? ⟨g, 514, none⟩ = some (.int .u64 ((0 : Nat) : Int)) := (hc.cell 514).trans (hcs_m hR f c 0)
  have HB := Lib.hid ((Below.refl w.heap.size w).alloc (Nat.le_refl _) (.cells #[.int .u8 (p : Int), .int .u8 (q : Int)] 47))
  clear h hc
  go_enter Tryd.func19, Tryd.ntmps19
  go_upto_region 1 with fail
  generalize w.alloc (.cells #[.int .u8 (p : Int), .int .u8 (q : Int)] 47) = wa at *
  go_wp2
  go_ret
  exact ⟨rfl, HB.out⟩
theorem addBad_c (hR : R.length = 256) (h : PHc w g R f c m) (hm : 0 < m) (hp : p < 256) (hq : q < 256) (hb : 63 < p ∨ 63 < q) : Calls Tryd.prog 19 #[.pointer (some ⟨g, 0, none⟩), .agg #[.int .u8 (p : Int), .int .u8 (q : Int)]] w fun E w' => E = .returned (.int .i64 2) ∧ Below w.heap.size w w' := by
  have hc := h.alloc (.cells #[.int .u8 (p : Int), .int .u8 (q : Int)] 47)
  have c2 : (w.alloc (.cells #[.int .u8 (p : Int), .int .u8 (q : Int)] 47)).cell? ⟨g, 514, none⟩ = some (.int .u64 (m : Int)) := (hc.cell 514).trans (hcs_m hR f c m)
  have b0 := (Cells.made w 47 #[.int .u8 (p : Int), .int .u8 (q : Int)]).cell 0
  have b1 := (Cells.made w 47 #[.int .u8 (p : Int), .int .u8 (q : Int)]).cell 1
  have HB := Lib.hid ((Below.refl w.heap.size w).alloc (Nat.le_refl _) (.cells #[.int .u8 (p : Int), .int .u8 (q : Int)] 47))
  have m0 : ((m : Int) == 0) = false := beq_eq_false_iff_ne.2 (by omega)
  clear h hc
  go_enter Tryd.func19, Tryd.ntmps19
  go_upto_region 1 with fail
  generalize w.alloc (.cells #[.int .u8 (p : Int), .int .u8 (q : Int)] 47) = wa at *
  by_cases hp6 : p < 64
  · have d1 := Lib.hid (decide_eq_true hp6)
    have d2 := Lib.hid (decide_eq_false (show ¬ q < 64 by omega))
    clear hp6 hb
    go_wp2_with fail
    refine (I.legal_c p _).mono ?_
    rintro E w1 ⟨rfl, rfl⟩
    rw [d1.out]
    go_wp2_with fail
    refine (I.legal_c q _).mono ?_
    rintro E w1 ⟨rfl, rfl⟩
    rw [d2.out]
    go_wp2
    go_ret
    exact ⟨rfl, HB.out⟩
  · have d1 := Lib.hid (decide_eq_false hp6)
    clear hp6 hb
    go_wp2_with fail
    refine (I.legal_c p _).mono ?_
    rintro E w1 ⟨rfl, rfl⟩
    rw [d1.out]
    go_wp2
    go_ret
    exact ⟨rfl, HB.out⟩
theorem addFull_c (hR : R.length = 256) (h : PHc w g R f c m) (hm : 0 < m) (hfc : f ≤ c) (hcc : c < 18446744073709551616) (hp : p < 64) (hq : q < 64) (hb : c - f = m ∨ c = 18446744073709551615) : Calls Tryd.prog 19 #[.pointer (some ⟨g, 0, none⟩), .agg #[.int .u8 (p : Int), .int .u8 (q : Int)]] w fun E w' => E = .returned (.int .i64 7) ∧ Below w.heap.size w w' := by
  have hc := h.alloc (.cells #[.int .u8 (p : Int), .int .u8 (q : Int)] 47)
  have c0 : (w.alloc (.cells #[.int .u8 (p : Int), .int .u8 (q : Int)] 47)).cell? ⟨g, 512, none⟩ = some (.int .u64 (f : Int)) := (hc.cell 512).trans (hcs_f hR f c m)
  have c1 : (w.alloc (.cells #[.int .u8 (p : Int), .int .u8 (q : Int)] 47)).cell? ⟨g, 513, none⟩ = some (.int .u64 (c : Int)) := (hc.cell 513).trans (hcs_c hR f c m)
  have c2 : (w.alloc (.cells #[.int .u8 (p : Int), .int .u8 (q : Int)] 47)).cell? ⟨g, 514, none⟩ = some (.int .u64 (m : Int)) := (hc.cell 514).trans (hcs_m hR f c m)
  have b0 := (Cells.made w 47 #[.int .u8 (p : Int), .int .u8 (q : Int)]).cell 0
  have b1 := (Cells.made w 47 #[.int .u8 (p : Int), .int .u8 (q : Int)]).cell 1
  have HB := Lib.hid ((Below.refl w.heap.size w).alloc (Nat.le_refl _) (.cells #[.int .u8 (p : Int), .int .u8 (q : Int)] 47))
  have m0 : ((m : Int) == 0) = false := beq_eq_false_iff_ne.2 (by omega)
  have d1 := Lib.hid (decide_eq_true hp)
  have d2 := Lib.hid (decide_eq_true hq)
  obtain ⟨e, he, hel⟩ : ∃ e : Nat, c - f = e ∧ (c : Int) - f = e := ⟨c - f, rfl, by omega⟩
  have e1 : IntKind.u64.wrap ((c : Int) - f) = e := by rw [hel]; exact u64_id _ (by omega) (by omega)
  clear h hc
  go_enter Tryd.func19, Tryd.ntmps19
  go_upto_region 1 with fail
  generalize w.alloc (.cells #[.int .u8 (p : Int), .int .u8 (q : Int)] 47) = wa at *
  go_upto_region 3 with fail
  go_wp2_with fail
  refine (I.legal_c p _).mono ?_
  rintro E w1 ⟨rfl, rfl⟩
  rw [d1.out]
  go_wp2_with fail
  refine (I.legal_c q _).mono ?_
  rintro E w1 ⟨rfl, rfl⟩
  rw [d2.out]
  go_upto_region 5 with fail
  by_cases hb1 : e = m
  · have g1 : ((e : Int) == (m : Int)) = true := beq_iff_eq.2 (by omega)
    clear hb hb1 hel he hp hq m0
    go_quiet (fail)
    go_wp2
    go_ret
    exact ⟨rfl, below_drewN HB.out _⟩
  · have g1 : ((e : Int) == (m : Int)) = false := beq_eq_false_iff_ne.2 (by omega)
    have g2 : ((c : Int) == 18446744073709551615) = true := beq_iff_eq.2 (by omega)
    clear hb hb1 hel he hp hq m0
    go_quiet (fail)
    go_wp2
    go_ret
    exact ⟨rfl, below_drewN HB.out _⟩
end
attribute [local go_sem ↓] ld_pair ld_u64 st_pair st_u64
set_option maxHeartbeats 1000000 in
theorem addOk_c {g f c m p q : Nat} {R : List (Nat × Nat)} {w : World} (hR : R.length = 256) (h : PHc w g R f c m) (hm : 0 < m) (hfc : f ≤ c) (hp : p < 64) (hq : q < 64) (hb1 : c - f ≠ m) (hb2 : c < 18446744073709551615) :
    Calls Tryd.prog 19 #[.pointer (some ⟨g, 0, none⟩), .agg #[.int .u8 (p : Int), .int .u8 (q : Int)]] w fun E w' => E = .returned (.int .i64 0) ∧ PHc w' g (R.set (c % 256) (p, q)) f (c + 1) m ∧ w.grownBy w' (some g) := by
  have H0 := (Loc.held h).more 47 #[.int .u8 (p : Int), .int .u8 (q : Int)]
  replace H0 : Loc g w (w.alloc (.cells #[.int .u8 (p : Int), .int .u8 (q : Int)] 47)) [(g, 60, hcs R f c m), (w.heap.size, 47, #[.int .u8 (p : Int), .int .u8 (q : Int)])] := H0
  have HG := Lib.hid (grown_any (r := some g) (grown_alloc w (.cells #[.int .u8 (p : Int), .int .u8 (q : Int)] 47)))
  have m0 : ((m : Int) == 0) = false := beq_eq_false_iff_ne.2 (by omega)
  have d1 := Lib.hid (decide_eq_true hp)
  have d2 := Lib.hid (decide_eq_true hq)
  have e1 : IntKind.u64.wrap ((c : Int) - f) = ((c - f : Nat) : Int) := by rw [show (c : Int) - f = ((c - f : Nat) : Int) by omega]; exact u64_id _ (by omega) (by omega)
  have g1 : (((c - f : Nat) : Int) == (m : Int)) = false := beq_eq_false_iff_ne.2 (by omega)
  have g2 : ((c : Int) == 18446744073709551615) = false := beq_eq_false_iff_ne.2 (by omega)
  have e2 : IntKind.u64.wrap ((c : Int) + 1) = ((c + 1 : Nat) : Int) := u64_id _ (by omega) (by omega)
  generalize hx : c - f = x at *
  obtain ⟨d, hd⟩ : ∃ d, c + 1 = d := ⟨_, rfl⟩
  rw [hd] at e2 ⊢
  clear hd
  have H := Lib.hid H0
  clear h H0 hx
  have HK := Lib.hid (show c % 256 < 256 from Nat.mod_lt _ (by decide))
  have HPL := Lib.hid (fun W => place_c c W)
  generalize c % 256 = k at *
  go_enter Tryd.func19, Tryd.ntmps19
  go_upto_region 1 with fail
  generalize hgw : w.heap.size = gb at *
  generalize w.alloc (.cells #[.int .u8 (p : Int), .int .u8 (q : Int)] 47) = wa at *
  have c2 := H.out.ldO ty_u64 0 rfl 514 (hcs_m hR f c m)
  have b0 := (H.out.get 1 rfl).cell 0
  have b1 := (H.out.get 1 rfl).cell 1
  go_upto_region 3 with fail
  go_wp2_with fail
  refine (I.legal_c p _).mono ?_
  rintro E w1 ⟨rfl, rfl⟩
  rw [d1.out]
  go_wp2_with fail
  refine (I.legal_c q _).mono ?_
  rintro E w1 ⟨rfl, rfl⟩
  rw [d2.out]
  go_upto_region 5 with fail
  clear c2 b0 b1
  have k0 := fun n => (H.out.to (below_drewN (Below.refl _ _) n)).ldO ty_u64 0 rfl 512 (hcs_f hR f c m)
  have k1 := fun n => (H.out.to (below_drewN (Below.refl _ _) n)).ldO ty_u64 0 rfl 513 (hcs_c hR f c m)
  have k2 := fun n => (H.out.to (below_drewN (Below.refl _ _) n)).ldO ty_u64 0 rfl 514 (hcs_m hR f c m)
  go_quiet (fail)
  clear k0 k1 k2
  have H1 := Lib.hid (H.out.to (below_drewN (Below.refl wa.heap.size wa) nq))
  have HG1 := Lib.hid (HG.out.trans (grown_of_below (r := some g) (below_drewN (Below.refl wa.heap.size wa) nq)))
  clear H HG
  generalize wa.drewN nq = wb at *
  go_upto_region 7 with fail
  obtain ⟨wd, hwd⟩ : ∃ wd, ({ wb with drawn := wb.drawn + 1 } : World) = wd := ⟨_, rfl⟩
  have H2 : Loc g w wd [(g, 60, hcs R f c m), (gb, 47, #[.int .u8 (p : Int), .int .u8 (q : Int)])] := by rw [← hwd]; exact H1.out.drew
  have HG2 := Lib.hid (show w.grownBy wd (some g) by rw [← hwd]; exact HG1.out.trans (grown_of_below (r := some g) (Below.refl wb.heap.size wb).drew))
  clear H1 HG1
  have l1 := H2.ldO ty_u64 0 rfl 513 (hcs_c hR f c m)
  have l2 := H2.ldA ty_pair 1 rfl 0 (vs := #[.int .u8 (p : Int), .int .u8 (q : Int)]) rfl (Nat.le_of_ble_eq_true rfl)
  obtain ⟨w2, s2, H3, q2⟩ := H2.stA ty_pair 0 rfl (k * 2) #[.int .u8 (p : Int), .int .u8 (q : Int)] (cs' := hcs (R.set k (p, q)) f c m) (hcs_setp hR f c m _ HK.out p q) (L' := [(g, 60, hcs (R.set k (p, q)) f c m), (gb, 47, #[.int .u8 (p : Int), .int .u8 (q : Int)])]) rfl (by rw [hcs_size hR]; have := HK.out; omega) rfl rfl
  have HG3 := Lib.hid (HG2.out.trans q2)
  have hR2 : (R.set k (p, q)).length = 256 := by rw [List.length_set]; exact hR
  have hk256 : (k : Int) < 256 := by have := HK.out; omega
  clear q2 HG2
  refine wp_region_still_tail 10 (by kernel_rfl) (by kernel_rfl) ?_
  simp only [List.take_succ_cons, List.take_zero, List.drop_succ_cons, List.drop_zero]
  rw [hwd]
  clear hwd
  still_step
  still_step
  still_step
  still_step
  still_step
  still_call ((HPL.out wd).mono fun _ _ ⟨h1, h2⟩ => ⟨h1, h2.symm⟩)
  repeat still_step
  refine wpStill_nil ?_
  go_upto_region 8 with fail
  clear l1 l2 s2
  have l3 := H3.ldO ty_u64 0 rfl 513 (hcs_c hR2 f c m)
  obtain ⟨w3, s3, H4, q3⟩ := H3.stO ty_u64 0 rfl 513 (.int .u64 (d : Int)) (cs' := hcs (R.set k (p, q)) f d m) (hcs_setc hR2 f c m d) (L' := [(g, 60, hcs (R.set k (p, q)) f d m), (gb, 47, #[.int .u8 (p : Int), .int .u8 (q : Int)])]) rfl (by rw [hcs_size hR2]; decide) rfl rfl
  go_wp2
  go_ret
  exact ⟨rfl, H4.get 0 rfl, HG3.out.trans q3⟩
end Go.Proofs.YtgmbdadkahcpcaaDoor
