/- One act, done with both histories: what it is answered, and what they are behind it. Nothing is assumed beyond the contract's own bounds. -/
import Derived.Test.YtgmbdadkahcpcaaDoorWm
namespace Go.Proofs.YtgmbdadkahcpcaaDoor
open Go.RowKit
set_option linter.unusedVariables false
set_option linter.unusedSimpArgs false
set_option maxRecDepth 20000
section
variable {P : Program} {ops : Array Oper} {Q : Exit → Act → World → Prop} {md : Region.Mode} {S : World → Prop}
theorem wpTill_duo {i j n : Nat} {oi oj : Oper} {listed : Array Bool} {a : Act} {w : World} (hr : Region.ready md ops listed = [i, j]) (hi : ops[i]? = some oi) (hj : ops[j]? = some oj) (hS : S w)
    (h1 : ∀ K' : Act → World → Prop, (∀ a' w', wpTill P md ops Q S n (listed.setIfInBounds i true) a' w' → K' a' w') → if Region.wanted oi (yielded ops a.tmps) = true then Oper.wp P oi a w K' Q else K' (a.put oi.dst undef) w)
    (h2 : ∀ K' : Act → World → Prop, (∀ a' w', wpTill P md ops Q S n (listed.setIfInBounds j true) a' w' → K' a' w') → if Region.wanted oj (yielded ops a.tmps) = true then Oper.wp P oj a w K' Q else K' (a.put oj.dst undef) w) :
    wpTill P md ops Q S (n + 1) listed a w :=
  ⟨fun k => (by rw [hr] at k; cases k), fun _ => hS, fun l hl => by
    rw [hr] at hl
    rcases List.mem_cons.1 hl with rfl | hl
    · exact wpOp_step hi h1
    · rw [List.mem_singleton] at hl
      subst hl
      exact wpOp_step hj h2⟩
theorem wpTill_weak {S' : World → Prop} (hs : ∀ w, S' w → S w) : ∀ (n : Nat) (listed : Array Bool) (a : Act) (w : World), wpTill P md ops Q S' n listed a w → wpTill P md ops Q S n listed a w
  | 0, _, _, _, h => h
  | n + 1, _, _, _, h => ⟨h.1, fun k => hs _ (h.2.1 k), fun i hi => wpOp_mono (fun a' w' k => wpTill_weak hs n _ a' w' k) (h.2.2 i hi)⟩
end
theorem ty_act : TyA 49 5 := tya_struct Tryd.underlying49 (by kernel_rfl)
theorem ld_act (v : Value) : Instr.loadAt 49 v = ldT 49 v := rfl
theorem cut_all {h : Hm} (k : h.ok) (x : Nat) (n : Int) : ∀ z ∈ h.cut x n, z.1 < 256 ∧ z.2 < 256 := fun z hz => by
  unfold Hm.cut at hz
  split at hz
  · exact k.prs z (List.mem_of_mem_drop (List.mem_of_mem_take hz))
  · cases hz
/-- What is so behind an act. -/
def OnePost (B : Nat) (w : World) (g r : Nat) (E : Ending) (w' : World) : Prop := ∃ h : Hm, E = .returned (.bool true) ∧ h.ok ∧ PH w' g h ∧ RH w' [g, r] r h.f h.m h.l ∧ Below B w w'
attribute [local go_sem ↓] ld_pair ld_u8 ld_int st_pair pair_eql
set_option maxHeartbeats 2000000 in
theorem act0_c {g r B : Nat} {h : Hm} {w : World} (hP : PH w g h) (hR : RH w [g, r] r h.f h.m h.l) (k : h.ok) (hne : g ≠ r) (c p q f : Nat) (n : Int) (x : Nat) (hx : x < 18446744073709551616) (hp : p < 256) (hq : q < 256) (hn1 : -9223372036854775808 ≤ n) (hn2 : n < 9223372036854775808) (hBg : B ≤ g) (hBr : B ≤ r) (h4 : (c : Int) % 4 = 0) :
    Calls Tryd.prog 15 #[.pointer (some ⟨g, 0, none⟩), .pointer (some ⟨r, 0, none⟩), .agg #[.int .u8 (c : Int), .int .u8 (p : Int), .int .u8 (q : Int), .int .u64 (f : Int), .int .i64 n], .int .u64 (x : Int)] w (OnePost B w g r) := by
  have H0 := Lib.hid (Loc.one w 49 #[.int .u8 (c : Int), .int .u8 (p : Int), .int .u8 (q : Int), .int .u64 (f : Int), .int .i64 n])
  have hba := (Below.refl w.heap.size w).alloc (Nat.le_refl _) (.cells #[.int .u8 (c : Int), .int .u8 (p : Int), .int .u8 (q : Int), .int .u64 (f : Int), .int .i64 n] 49)
  have HP := Lib.hid (hP.below hba hP.lt)
  have HR := Lib.hid (hR.below (B := 0) hba)
  have HBA := Lib.hid hba
  have HGL := Lib.hid hP.lt
  have HRL := Lib.hid hR.lt
  have HB := Lib.hid (show B ≤ g ∧ B ≤ r ∧ g ≠ r from ⟨hBg, hBr, hne⟩)
  have HK := Lib.hid k
  have HX := Lib.hid hx
  have HPQ := Lib.hid (show p < 256 ∧ q < 256 from ⟨hp, hq⟩)
  have HNN := Lib.hid (show -9223372036854775808 ≤ n ∧ n < 9223372036854775808 from ⟨hn1, hn2⟩)
  clear hba hP hR k hne hx hp hq hn1 hn2 hBg hBr
  go_enter Tryd.func15, Tryd.ntmps15
  go_upto_region 1 with fail
  generalize hgw : w.heap.size = gb at *
  generalize w.alloc (.cells #[.int .u8 (c : Int), .int .u8 (p : Int), .int .u8 (q : Int), .int .u64 (f : Int), .int .i64 n] 49) = wa at *
  have l0 := H0.out.ldO ty_u8 0 rfl 0 (v := .int .u8 (c : Int)) rfl
  go_upto_region 3 with fail
  clear l0 h4
  have HC := Lib.hid (H0.out.drew.get 0 rfl)
  have la : ∀ W, Cells W gb 49 #[.int .u8 (c : Int), .int .u8 (p : Int), .int .u8 (q : Int), .int .u64 (f : Int), .int .i64 n] → (ldT 47 (.pointer (some ⟨gb, 1, none⟩))).run Tryd.prog W = .ok (.agg #[.int .u8 (p : Int), .int .u8 (q : Int)]) W := fun W hW => run_ldA ty_pair hW 1 (Nat.le_of_ble_eq_true rfl)
  have HP1 := Lib.hid (HP.out.below (Below.refl wa.heap.size wa).drew HP.out.lt)
  have HR1 := Lib.hid (HR.out.below (B := 0) (Below.refl wa.heap.size wa).drew)
  have HB1 := Lib.hid HBA.out.drew
  have HPL := HP.out.lt
  have HRL2 := HR.out.lt
  clear HP HR H0 HBA
  obtain ⟨e, he⟩ : ∃ e, h.code (p, q) = e := ⟨_, rfl⟩
  obtain ⟨h', hh⟩ : ∃ h', h.add (p, q) = h' := ⟨_, rfl⟩
  have HK' : Hid h'.ok := by show h'.ok; rw [← hh]; exact HK.out.add HPQ.out
  have CP : Hid (∀ W, PH W g h → Calls Tryd.prog 19 #[.pointer (some ⟨g, 0, none⟩), .agg #[.int .u8 (p : Int), .int .u8 (q : Int)]] W fun E w' => E = .returned (.int .i64 (e : Int)) ∧ PH w' g h' ∧ W.grownBy w' (some g)) := fun W hW => padd_at hW HK.out p q HPQ.out.1 HPQ.out.2 he hh
  have CR : Hid (∀ W, RH W [g, r] r h.f h.m h.l → g < W.heap.size → Calls Tryd.prog 29 #[.pointer (some ⟨r, 0, none⟩), .agg #[.int .u8 (p : Int), .int .u8 (q : Int)]] W fun E w' => E = .returned (.int .i64 (e : Int)) ∧ RH w' [g, r] r h'.f h'.m h'.l ∧ W.grownBy w' (some r)) := fun W hW hg => by
    have := radd_c hW (by intro b hb; simp only [List.mem_cons, List.not_mem_nil, or_false] at hb; rcases hb with rfl | rfl; exact hg; exact hW.lt) (by simp) HK.out p q HPQ.out.1 HPQ.out.2
    rw [he, hh] at this
    exact this
  clear he hh
  generalize hwd : wa.drew = wd at *
  have HGD : Hid (g < wd.heap.size) := by rw [← hwd]; exact HPL
  have hs0 := HC.out
  refine wp_region_till (S := fun w' => Cells w' gb 49 #[.int .u8 (c : Int), .int .u8 (p : Int), .int .u8 (q : Int), .int .u64 (f : Int), .int .i64 n]) (by kernel_rfl) ?_
  rw [hwd]
  clear hwd HPL HRL2
  refine wpTill_take (i := 0) (v := ?va0) rfl (by kernel_rfl) (fun _ _ _ h => h) (Or.inl ⟨by rfl, ?hya0⟩) hs0 ?resta0
  case hya0 => (intro W hW; (try dsimp only at hW); go_simp; try with_reducible rfl)
  simp only [Act.put, List.setIfInBounds_toArray, List.set_cons_zero, List.set_cons_succ]
  refine wpTill_take (i := 1) (v := ?va1) rfl (by kernel_rfl) (fun _ _ _ h => h) (Or.inl ⟨by rfl, ?hya1⟩) hs0 ?resta1
  case hya1 => (intro W hW; (try dsimp only at hW); go_simp; try with_reducible rfl)
  simp only [Act.put, List.setIfInBounds_toArray, List.set_cons_zero, List.set_cons_succ]
  refine wpTill_take (i := 2) (v := ?va2) rfl (by kernel_rfl) (fun _ _ _ h => h) (Or.inl ⟨by rfl, ?hya2⟩) hs0 ?resta2
  case hya2 => (intro W hW; (try dsimp only at hW); go_simp; try with_reducible rfl)
  simp only [Act.put, List.setIfInBounds_toArray, List.set_cons_zero, List.set_cons_succ]
  refine wpTill_take (i := 4) (v := ?va4) rfl (by kernel_rfl) (fun _ _ _ h => h) (Or.inl ⟨by rfl, ?hya4⟩) hs0 ?resta4
  case hya4 => (intro W hW; (try dsimp only at hW); go_simp; try with_reducible rfl)
  simp only [Act.put, List.setIfInBounds_toArray, List.set_cons_zero, List.set_cons_succ]
  refine wpTill_take (i := 5) (v := ?va5) rfl (by kernel_rfl) (fun _ _ _ h => h) (Or.inl ⟨by rfl, ?hya5⟩) hs0 ?resta5
  case hya5 => (intro W hW; (try dsimp only at hW); go_simp; try with_reducible rfl)
  simp only [Act.put, List.setIfInBounds_toArray, List.set_cons_zero, List.set_cons_succ]
  refine wpTill_take (i := 6) (v := ?va6) rfl (by kernel_rfl) (fun _ _ _ h => h) (Or.inl ⟨by rfl, ?hya6⟩) hs0 ?resta6
  case hya6 => (intro W hW; (try dsimp only at hW); go_simp; try with_reducible rfl)
  simp only [Act.put, List.setIfInBounds_toArray, List.set_cons_zero, List.set_cons_succ]
  have hgb : gb ≠ g ∧ gb ≠ r := ⟨by have := HGL.out; omega, by have := HRL.out; omega⟩
  have HGB := Lib.hid hgb
  clear hgb
  refine wpTill_run (i := 3) (by kernel_rfl) rfl hs0 (fun K hK => ?_)
  go_simp
  go_at_call 19
  refine (CP.out wd HP1.out).mono ?_
  rintro E w2 ⟨rfl, hP2, hg2⟩
  have HP2 := Lib.hid hP2
  have HR2 := Lib.hid (HR1.out.turn (by simp) (Ne.symm HB.out.2.2) hg2)
  have hs2 := hs0.grown hg2 (by simpa using HGB.out.1)
  have HBb := Lib.hid (HB1.out.mono (Nat.le_trans HB.out.1 (Nat.le_of_lt HGL.out)))
  have HB2 := Lib.hid (below_row_at HBb.out hg2 HB.out.1 (Nat.le_trans HB.out.1 (Nat.le_of_lt HGD.out)))
  have HG2 := Lib.hid (Nat.lt_of_lt_of_le HGD.out hg2.size)
  clear hP2 hg2
  refine hK _ _ ?_
  clear hK K
  refine wpTill_run (i := 7) (by kernel_rfl) rfl hs2 (fun K hK => ?_)
  go_simp
  go_at_call 29
  refine (CR.out w2 HR2.out HG2.out).mono ?_
  rintro E w3 ⟨rfl, hR3, hg3⟩
  have HP3 := Lib.hid (HP2.out.grown hg3 (by simpa using HB.out.2.2))
  have HR3 := Lib.hid hR3
  have hs3 := hs2.grown hg3 (by simpa using HGB.out.2)
  have HB3 := Lib.hid (below_row_at HB2.out hg3 HB.out.2.1 (Nat.le_trans HB.out.1 (Nat.le_of_lt HG2.out)))
  clear hR3 hg3
  refine hK _ _ ?_
  clear hK K
  refine wpTill_run (i := 8) (by kernel_rfl) rfl hs3 (fun K hK => ?_)
  go_simp
  refine hK _ _ ?_
  clear hK K
  refine wpTill_run (i := 9) (by kernel_rfl) rfl hs3 (fun K hK => ?_)
  go_simp
  refine hK _ _ ?_
  clear hK K
  refine wpTill_done (by kernel_rfl) ?_
  go_wp2
  go_ret
  exact ⟨h', rfl, HK'.out, HP3.out, HR3.out, HB3.out⟩
set_option maxHeartbeats 2000000 in
theorem act1_c {g r B : Nat} {h : Hm} {w : World} (hP : PH w g h) (hR : RH w [g, r] r h.f h.m h.l) (k : h.ok) (hne : g ≠ r) (c p q f : Nat) (n : Int) (x : Nat) (hx : x < 18446744073709551616) (hp : p < 256) (hq : q < 256) (hn1 : -9223372036854775808 ≤ n) (hn2 : n < 9223372036854775808) (hBg : B ≤ g) (hBr : B ≤ r) (h4 : (c : Int) % 4 = 1) :
    Calls Tryd.prog 15 #[.pointer (some ⟨g, 0, none⟩), .pointer (some ⟨r, 0, none⟩), .agg #[.int .u8 (c : Int), .int .u8 (p : Int), .int .u8 (q : Int), .int .u64 (f : Int), .int .i64 n], .int .u64 (x : Int)] w (OnePost B w g r) := by
  have H0 := Lib.hid (Loc.one w 49 #[.int .u8 (c : Int), .int .u8 (p : Int), .int .u8 (q : Int), .int .u64 (f : Int), .int .i64 n])
  have hba := (Below.refl w.heap.size w).alloc (Nat.le_refl _) (.cells #[.int .u8 (c : Int), .int .u8 (p : Int), .int .u8 (q : Int), .int .u64 (f : Int), .int .i64 n] 49)
  have HP := Lib.hid (hP.below hba hP.lt)
  have HR := Lib.hid (hR.below (B := 0) hba)
  have HBA := Lib.hid hba
  have HGL := Lib.hid hP.lt
  have HRL := Lib.hid hR.lt
  have HB := Lib.hid (show B ≤ g ∧ B ≤ r ∧ g ≠ r from ⟨hBg, hBr, hne⟩)
  have HK := Lib.hid k
  have HX := Lib.hid hx
  have HPQ := Lib.hid (show p < 256 ∧ q < 256 from ⟨hp, hq⟩)
  have HNN := Lib.hid (show -9223372036854775808 ≤ n ∧ n < 9223372036854775808 from ⟨hn1, hn2⟩)
  clear hba hP hR k hne hx hp hq hn1 hn2 hBg hBr
  go_enter Tryd.func15, Tryd.ntmps15
  go_upto_region 1 with fail
  generalize hgw : w.heap.size = gb at *
  generalize w.alloc (.cells #[.int .u8 (c : Int), .int .u8 (p : Int), .int .u8 (q : Int), .int .u64 (f : Int), .int .i64 n] 49) = wa at *
  have l0 := H0.out.ldO ty_u8 0 rfl 0 (v := .int .u8 (c : Int)) rfl
  have CA := Lib.hid (pat_c HP.out HK.out x)
  obtain ⟨y, hy⟩ : ∃ y, (h.at_ x).1 = y := ⟨_, rfl⟩
  obtain ⟨z, hz⟩ : ∃ z, (h.at_ x).2 = z := ⟨_, rfl⟩
  obtain ⟨b, hb⟩ : ∃ b, h.has x = b := ⟨_, rfl⟩
  rw [hy, hz, hb] at CA
  have CR : Hid (∀ W, Below wa.heap.size wa W → Calls Tryd.prog 30 #[.pointer (some ⟨r, 0, none⟩), .int .u64 (x : Int)] W fun E w' => E = .returned (.tuple #[.agg #[.int .u8 (y : Int), .int .u8 (z : Int)], .bool b]) ∧ Below W.heap.size W w') := fun W hW => by
    have := rat_c (HR.out.below (B := 0) hW) HK.out x
    rw [hy, hz, hb] at this
    exact this
  clear hy hz hb
  go_wp2_with fail
  refine CA.out.mono ?_
  rintro E w1 ⟨rfl, hb1⟩
  clear l0 CA
  have HB1 := Lib.hid hb1
  have H1 := H0.out.to hb1
  obtain ⟨g1, w2, z2, s2, H2, q2⟩ := H1.newA ty_pair PZ #[.int .u8 (y : Int), .int .u8 (z : Int)] rfl rfl rfl
  replace H2 : Loc _ _ _ [(gb, 49, #[.int .u8 (c : Int), .int .u8 (p : Int), .int .u8 (q : Int), .int .u64 (f : Int), .int .i64 n]), (g1, 47, #[.int .u8 (y : Int), .int .u8 (z : Int)])] := H2
  have HB2 := Lib.hid (HB1.out.trans ((below_of_grown q2).mono hb1.size))
  clear hb1 q2 H1
  go_wp2_with fail
  refine (CR.out w2 HB2.out).mono ?_
  rintro E w3 ⟨rfl, hb3⟩
  clear s2 z2 CR
  have HB3 := Lib.hid (HB2.out.trans (hb3.mono HB2.out.size))
  have H3 := H2.to hb3
  obtain ⟨g2, w4, z4, s4, H4, q4⟩ := H3.newA ty_pair PZ #[.int .u8 (y : Int), .int .u8 (z : Int)] rfl rfl rfl
  replace H4 : Loc _ _ _ [(gb, 49, #[.int .u8 (c : Int), .int .u8 (p : Int), .int .u8 (q : Int), .int .u64 (f : Int), .int .i64 n]), (g1, 47, #[.int .u8 (y : Int), .int .u8 (z : Int)]), (g2, 47, #[.int .u8 (y : Int), .int .u8 (z : Int)])] := H4
  have HB4 := Lib.hid (HB3.out.trans ((below_of_grown q4).mono HB3.out.size))
  clear hb3 q4 H3 H2
  have HH4 := Lib.hid H4
  clear H4
  go_upto_region 7 with fail
  clear s4 z4
  have m0 := HH4.out.ldA ty_pair 1 rfl 0 (vs := #[.int .u8 (y : Int), .int .u8 (z : Int)]) rfl (Nat.le_of_ble_eq_true rfl)
  have m1 := HH4.out.ldA ty_pair 2 rfl 0 (vs := #[.int .u8 (y : Int), .int .u8 (z : Int)]) rfl (Nat.le_of_ble_eq_true rfl)
  cases b
  all_goals go_wp2
  all_goals go_ret
  all_goals exact ⟨h, rfl, HK.out, HP.out.below HB4.out HP.out.lt, HR.out.below (B := 0) HB4.out, (HBA.out.mono (Nat.le_trans HB.out.1 (Nat.le_of_lt HGL.out))).trans (HB4.out.mono (Nat.le_trans HB.out.1 (Nat.le_of_lt HP.out.lt)))⟩
set_option maxHeartbeats 2000000 in
theorem act2_c {g r B : Nat} {h : Hm} {w : World} (hP : PH w g h) (hR : RH w [g, r] r h.f h.m h.l) (k : h.ok) (hne : g ≠ r) (c p q f : Nat) (n : Int) (x : Nat) (hx : x < 18446744073709551616) (hp : p < 256) (hq : q < 256) (hn1 : -9223372036854775808 ≤ n) (hn2 : n < 9223372036854775808) (hBg : B ≤ g) (hBr : B ≤ r) (h4 : (c : Int) % 4 = 2) :
    Calls Tryd.prog 15 #[.pointer (some ⟨g, 0, none⟩), .pointer (some ⟨r, 0, none⟩), .agg #[.int .u8 (c : Int), .int .u8 (p : Int), .int .u8 (q : Int), .int .u64 (f : Int), .int .i64 n], .int .u64 (x : Int)] w (OnePost B w g r) := by
  have H0 := Lib.hid (Loc.one w 49 #[.int .u8 (c : Int), .int .u8 (p : Int), .int .u8 (q : Int), .int .u64 (f : Int), .int .i64 n])
  have hba := (Below.refl w.heap.size w).alloc (Nat.le_refl _) (.cells #[.int .u8 (c : Int), .int .u8 (p : Int), .int .u8 (q : Int), .int .u64 (f : Int), .int .i64 n] 49)
  have HP := Lib.hid (hP.below hba hP.lt)
  have HR := Lib.hid (hR.below (B := 0) hba)
  have HBA := Lib.hid hba
  have HGL := Lib.hid hP.lt
  have HRL := Lib.hid hR.lt
  have HB := Lib.hid (show B ≤ g ∧ B ≤ r ∧ g ≠ r from ⟨hBg, hBr, hne⟩)
  have HK := Lib.hid k
  have HX := Lib.hid hx
  have HPQ := Lib.hid (show p < 256 ∧ q < 256 from ⟨hp, hq⟩)
  have HNN := Lib.hid (show -9223372036854775808 ≤ n ∧ n < 9223372036854775808 from ⟨hn1, hn2⟩)
  clear hba hP hR k hne hx hp hq hn1 hn2 hBg hBr
  go_enter Tryd.func15, Tryd.ntmps15
  go_upto_region 1 with fail
  generalize hgw : w.heap.size = gb at *
  generalize w.alloc (.cells #[.int .u8 (c : Int), .int .u8 (p : Int), .int .u8 (q : Int), .int .u64 (f : Int), .int .i64 n] 49) = wa at *
  have l0 := H0.out.ldO ty_u8 0 rfl 0 (v := .int .u8 (c : Int)) rfl
  go_upto_region 9 with fail
  clear l0 h4
  have la : ∀ W, Below wa.heap.size wa W → (ldT 3 (.pointer (some ⟨gb, 4, none⟩))).run Tryd.prog W = .ok (.int .i64 n) W := fun W hW => (H0.out.to hW).ldO ty_int 0 rfl 4 rfl
  have hs0 := (Below.refl wa.heap.size wa).drew
  have CA : Hid (∀ W, Below wa.heap.size wa W → Calls Tryd.prog 21 #[.pointer (some ⟨g, 0, none⟩), .int .u64 (x : Int), .int .i64 n] W fun E w' => ∃ ao cap, E = .returned (.slice ao (h.cut x n).length cap) ∧ Prr W.heap.size w' [] ao (h.cut x n).length cap (h.cut x n) ∧ Below W.heap.size W w') := fun W hW => pslice_c (HP.out.below hW HP.out.lt) HK.out x n HNN.out.1 HNN.out.2
  have CR : Hid (∀ W, Below wa.heap.size wa W → Calls Tryd.prog 32 #[.pointer (some ⟨r, 0, none⟩), .int .u64 (x : Int), .int .i64 n] W fun E w' => ∃ ao cap, E = .returned (.slice ao (h.cut x n).length cap) ∧ Prr W.heap.size w' [] ao (h.cut x n).length cap (h.cut x n) ∧ Below W.heap.size W w') := fun W hW => rslice_c (HR.out.below (B := 0) hW) HK.out x n
  have HCA := Lib.hid (cut_all HK.out x n)
  have HCL := Lib.hid (show (h.cut x n).length ≤ maxLen from Nat.le_trans (h.cut_len x n) (Nat.le_trans HK.out.len (Nat.le_trans HK.out.m2 (by decide))))
  generalize h.cut x n = C at *
  generalize hwd : wa.drew = wd at *
  refine wp_region_till (S := fun w' => Below wa.heap.size wa w') (by kernel_rfl) ?_
  rw [hwd]
  clear hwd
  refine wpTill_take (i := 0) (v := ?vb0) rfl (by kernel_rfl) (fun _ _ _ h => h) (Or.inl ⟨by rfl, ?hyb0⟩) hs0 ?restb0
  case hyb0 => (intro W hW; (try dsimp only at hW); go_simp; try with_reducible rfl)
  simp only [Act.put, List.setIfInBounds_toArray, List.set_cons_zero, List.set_cons_succ]
  refine wpTill_take (i := 1) (v := ?vb1) rfl (by kernel_rfl) (fun _ _ _ h => h) (Or.inl ⟨by rfl, ?hyb1⟩) hs0 ?restb1
  case hyb1 => (intro W hW; (try dsimp only at hW); go_simp; try with_reducible rfl)
  simp only [Act.put, List.setIfInBounds_toArray, List.set_cons_zero, List.set_cons_succ]
  refine wpTill_take (i := 2) (v := ?vb2) rfl (by kernel_rfl) (fun _ _ _ h => h) (Or.inl ⟨by rfl, ?hyb2⟩) hs0 ?restb2
  case hyb2 => (intro W hW; (try dsimp only at hW); go_simp; try with_reducible rfl)
  simp only [Act.put, List.setIfInBounds_toArray, List.set_cons_zero, List.set_cons_succ]
  refine wpTill_take (i := 3) (v := ?vb3) rfl (by kernel_rfl) (fun _ _ _ h => h) (Or.inl ⟨by rfl, ?hyb3⟩) hs0 ?restb3
  case hyb3 => (intro W hW; (try dsimp only at hW); go_simp; try with_reducible rfl)
  simp only [Act.put, List.setIfInBounds_toArray, List.set_cons_zero, List.set_cons_succ]
  refine wpTill_take (i := 5) (v := ?vb5) rfl (by kernel_rfl) (fun _ _ _ h => h) (Or.inl ⟨by rfl, ?hyb5⟩) hs0 ?restb5
  case hyb5 => (intro W hW; (try dsimp only at hW); go_simp; try with_reducible rfl)
  simp only [Act.put, List.setIfInBounds_toArray, List.set_cons_zero, List.set_cons_succ]
  refine wpTill_take (i := 6) (v := ?vb6) rfl (by kernel_rfl) (fun _ _ _ h => h) (Or.inl ⟨by rfl, ?hyb6⟩) hs0 ?restb6
  case hyb6 => (intro W hW; (try dsimp only at hW); go_simp; try with_reducible rfl)
  simp only [Act.put, List.setIfInBounds_toArray, List.set_cons_zero, List.set_cons_succ]
  refine wpTill_take (i := 7) (v := ?vb7) rfl (by kernel_rfl) (fun _ _ _ h => h) (Or.inl ⟨by rfl, ?hyb7⟩) hs0 ?restb7
  case hyb7 => (intro W hW; (try dsimp only at hW); go_simp; try with_reducible rfl)
  simp only [Act.put, List.setIfInBounds_toArray, List.set_cons_zero, List.set_cons_succ]
  refine wpTill_take (i := 8) (v := ?vb8) rfl (by kernel_rfl) (fun _ _ _ h => h) (Or.inl ⟨by rfl, ?hyb8⟩) hs0 ?restb8
  case hyb8 => (intro W hW; (try dsimp only at hW); go_simp; try with_reducible rfl)
  simp only [Act.put, List.setIfInBounds_toArray, List.set_cons_zero, List.set_cons_succ]
  refine wpTill_run (i := 4) (by kernel_rfl) rfl hs0 (fun K hK => ?_)
  go_simp
  go_at_call 21
  refine (CA.out wd hs0).mono ?_
  rintro E w2 ⟨ao2, cap2, rfl, hR2, hb2⟩
  have hs2 := hs0.trans (hb2.mono hs0.size)
  have HR2 := Lib.hid hR2
  clear hR2 hb2
  refine hK _ _ ?_
  clear hK K
  refine wpTill_run (i := 9) (by kernel_rfl) rfl hs2 (fun K hK => ?_)
  go_simp
  go_at_call 32
  refine (CR.out w2 hs2).mono ?_
  rintro E w3 ⟨ao3, cap3, rfl, hR3, hb3⟩
  have hs3 := hs2.trans (hb3.mono hs2.size)
  have HP2 := Lib.hid ((HR2.out.to hb3).pis HCA.out)
  have HP3 := Lib.hid (hR3.pis HCA.out)
  clear hR3 hb3
  refine hK _ _ ?_
  clear hK K
  refine wpTill_run (i := 10) (by kernel_rfl) rfl hs3 (fun K hK => ?_)
  go_simp
  go_at_call 31
  refine (rsame_c C C ao2 ao3 cap2 cap3 w3 HP2.out HP3.out HCL.out HCL.out).mono ?_
  rw [decide_eq_true (rfl : C = C)]
  rintro E w4 ⟨rfl, hb4⟩
  have hs4 := hs3.trans (hb4.mono hs3.size)
  clear hb4
  refine hK _ _ ?_
  clear hK K
  refine wpTill_run (i := 11) (by kernel_rfl) rfl hs4 (fun K hK => ?_)
  go_simp
  refine hK _ _ ?_
  clear hK K
  refine wpTill_done (by kernel_rfl) ?_
  have HS4 := Lib.hid hs4
  clear hs4 hs3 hs2 hs0 la
  go_wp2
  go_ret
  exact ⟨h, rfl, HK.out, HP.out.below HS4.out HP.out.lt, HR.out.below (B := 0) HS4.out, (HBA.out.mono (Nat.le_trans HB.out.1 (Nat.le_of_lt HGL.out))).trans (HS4.out.mono (Nat.le_trans HB.out.1 (Nat.le_of_lt HP.out.lt)))⟩
set_option maxHeartbeats 2000000 in
theorem act3_c {g r B : Nat} {h : Hm} {w : World} (hP : PH w g h) (hR : RH w [g, r] r h.f h.m h.l) (k : h.ok) (hne : g ≠ r) (c p q f : Nat) (n : Int) (x : Nat) (hx : x < 18446744073709551616) (hp : p < 256) (hq : q < 256) (hn1 : -9223372036854775808 ≤ n) (hn2 : n < 9223372036854775808) (hBg : B ≤ g) (hBr : B ≤ r) (h4 : (c : Int) % 4 = 3) :
    Calls Tryd.prog 15 #[.pointer (some ⟨g, 0, none⟩), .pointer (some ⟨r, 0, none⟩), .agg #[.int .u8 (c : Int), .int .u8 (p : Int), .int .u8 (q : Int), .int .u64 (f : Int), .int .i64 n], .int .u64 (x : Int)] w (OnePost B w g r) := by
  have H0 := Lib.hid (Loc.one w 49 #[.int .u8 (c : Int), .int .u8 (p : Int), .int .u8 (q : Int), .int .u64 (f : Int), .int .i64 n])
  have hba := (Below.refl w.heap.size w).alloc (Nat.le_refl _) (.cells #[.int .u8 (c : Int), .int .u8 (p : Int), .int .u8 (q : Int), .int .u64 (f : Int), .int .i64 n] 49)
  have HP := Lib.hid (hP.below hba hP.lt)
  have HR := Lib.hid (hR.below (B := 0) hba)
  have HBA := Lib.hid hba
  have HGL := Lib.hid hP.lt
  have HRL := Lib.hid hR.lt
  have HB := Lib.hid (show B ≤ g ∧ B ≤ r ∧ g ≠ r from ⟨hBg, hBr, hne⟩)
  have HK := Lib.hid k
  have HX := Lib.hid hx
  have HPQ := Lib.hid (show p < 256 ∧ q < 256 from ⟨hp, hq⟩)
  have HNN := Lib.hid (show -9223372036854775808 ≤ n ∧ n < 9223372036854775808 from ⟨hn1, hn2⟩)
  clear hba hP hR k hne hx hp hq hn1 hn2 hBg hBr
  go_enter Tryd.func15, Tryd.ntmps15
  go_upto_region 1 with fail
  generalize hgw : w.heap.size = gb at *
  generalize w.alloc (.cells #[.int .u8 (c : Int), .int .u8 (p : Int), .int .u8 (q : Int), .int .u64 (f : Int), .int .i64 n] 49) = wa at *
  have l0 := H0.out.ldO ty_u8 0 rfl 0 (v := .int .u8 (c : Int)) rfl
  go_wp2_with fail
  refine (pdrop_c HP.out HK.out x HX.out).mono ?_
  rintro E w1 ⟨rfl, hP1, hg1⟩
  have HP1 := Lib.hid hP1
  have HR1 := Lib.hid (HR.out.turn (by simp) (Ne.symm HB.out.2.2) hg1)
  have HBb := Lib.hid (HBA.out.mono (Nat.le_trans HB.out.1 (Nat.le_of_lt HGL.out)))
  have hsz : B ≤ wa.heap.size := Nat.le_trans HB.out.1 (Nat.le_of_lt HP.out.lt)
  have HB1 := Lib.hid (below_row_at HBb.out hg1 HB.out.1 hsz)
  have hsz1 := Nat.le_trans hsz hg1.size
  clear hP1 hg1 l0
  go_wp2_with fail
  refine (rdrop_c HR1.out (by simp) HK.out.cnt x).mono ?_
  rintro E w2 ⟨rfl, hR2, hg2⟩
  have HP2 := Lib.hid (HP1.out.grown hg2 (by simpa using HB.out.2.2))
  have HR2 := Lib.hid hR2
  have HB2 := Lib.hid (below_row_at HB1.out hg2 HB.out.2.1 hsz1)
  clear hR2 hg2
  go_wp2
  go_ret
  exact ⟨h.drop x, rfl, HK.out.drop x, HP2.out, HR2.out, HB2.out⟩
theorem act_c {g r B : Nat} {h : Hm} {w : World} (hP : PH w g h) (hR : RH w [g, r] r h.f h.m h.l) (k : h.ok) (hne : g ≠ r) (c p q f : Nat) (n : Int) (x : Nat) (hx : x < 18446744073709551616) (hp : p < 256) (hq : q < 256) (hn1 : -9223372036854775808 ≤ n) (hn2 : n < 9223372036854775808) (hBg : B ≤ g) (hBr : B ≤ r) :
    Calls Tryd.prog 15 #[.pointer (some ⟨g, 0, none⟩), .pointer (some ⟨r, 0, none⟩), .agg #[.int .u8 (c : Int), .int .u8 (p : Int), .int .u8 (q : Int), .int .u64 (f : Int), .int .i64 n], .int .u64 (x : Int)] w (OnePost B w g r) := by
  have h4 : (c : Int) % 4 = 0 ∨ (c : Int) % 4 = 1 ∨ (c : Int) % 4 = 2 ∨ (c : Int) % 4 = 3 := by omega
  rcases h4 with h4 | h4 | h4 | h4
  · exact act0_c hP hR k hne c p q f n x hx hp hq hn1 hn2 hBg hBr h4
  · exact act1_c hP hR k hne c p q f n x hx hp hq hn1 hn2 hBg hBr h4
  · exact act2_c hP hR k hne c p q f n x hx hp hq hn1 hn2 hBg hBr h4
  · exact act3_c hP hR k hne c p q f n x hx hp hq hn1 hn2 hBg hBr h4
end Go.Proofs.YtgmbdadkahcpcaaDoor
