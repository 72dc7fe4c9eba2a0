/- CheckpointKnown: the chapter's examples; assumed: the two listed variables lie as they are laid. -/
import Derived.Test.YtacgmadgkmcmoaaGreatDoorJw
import Derived.Test.YtacgmadgkmcmoaaGreatDoorLaid
namespace Go.Proofs.YtacgmadgkmcmoaaGreatDoor
open Go.RowKit
set_option linter.unusedVariables false
set_option linter.unusedSimpArgs false
set_option maxRecDepth 20000
theorem st_u818 (p v : Value) : Instr.storeAt 5 p v = stT 5 p v := rfl
attribute [local go_sem ↓] ld_state st_state st_u818
set_option maxHeartbeats 32000000 in
theorem law_known (w : World) (ht : Tab w) (hb : BTab w) : Calls Tryz.prog 6 #[] w fun E w' => E = .returned (.bool true) ∧ Below w.heap.size w w' := by
  have HT := Lib.hid ht
  have HB := Lib.hid hb
  have KN : Hid (Calls Tryz.prog 28 #[.int .i64 1000] w (NewPost 1000 w)) := new_c 1000 w
  clear ht hb
  go_enter Tryz.func6, Tryz.ntmps6
  go_wp2_with fail
  refine KN.out.mono ?_
  rintro R w1 ⟨hb1, (⟨_, _, v, rfl, hd1⟩ | ⟨h1, _⟩)⟩
  rotate_left
  · omega
  obtain ⟨gd, rfl⟩ := hd1.ptr1
  have HB1 := Lib.hid hb1
  have KP : Hid (Calls Tryz.prog 29 #[.pointer (some ⟨gd, 0, none⟩), .int .i64 (-1), .slice none 0 0] w1 (NewPw (fun x => w.heap.size ≤ x) w1 (.pointer (some ⟨gd, 0, none⟩)) 1000 (-1) [] [])) := pnew_c (-1) none [] 0 w1 hd1 (fun j hj => by cases hj) (by simp)
  clear hd1 hb1 KN
  go_wp2_with fail
  refine KP.out.mono ?_
  rintro R w2 ⟨g, ko, kc, rfl, hg, hko, hp2, hb2⟩
  obtain ⟨S, hS⟩ : ∃ S : Nat → Prop, S = fun x => (w.heap.size ≤ x ∧ x < w1.heap.size) ∨ w2.heap.size ≤ x := ⟨_, rfl⟩
  have K0 : Hid (Kst w S w2.heap.size g gd kc ko w2 (pon 0 [])) := ⟨HB1.out.trans (hb2.mono HB1.out.size), by rw [hS]; exact hp2.mono fun x hx => ⟨.inl, fun h => h.elim id (fun h => by omega)⟩, Nat.le_refl _, fun x hx => by rw [hS] at hx; have h1 := HB1.out.size; have h2 := hb2.size; rcases hx with h | h <;> omega, Nat.le_trans HB1.out.size hg, fun x hx => by rw [hS]; exact .inr hx⟩
  obtain ⟨N, hN⟩ : ∃ N, N = w2.heap.size := ⟨_, rfl⟩
  rw [← hN] at K0
  clear hp2 hb2 hg hko KP HB1 hS hN
  go_wp2_with fail
  refine (works18_c _ (HT.out.lo K0.out.be) (btab_lo HB.out K0.out.be)).mono ?_
  rintro R w3 ⟨rfl, hb⟩
  have K3 := Lib.hid (K0.out.new hb)
  clear hb K0
  have KA : Hid (∀ W, Calls Tryz.prog 33 #[.int .u64 5] W fun E w' => E = .returned (sv (stf 5) none 0) ∧ Below W.heap.size W w') := fun W => at18_c 5 W
  go_wp2_with fail
  refine (KA.out _).mono ?_
  rintro R w4 ⟨rfl, hb⟩
  have K4 := Lib.hid (K3.out.new hb)
  clear hb KA K3
  have KW : Hid (Calls Tryz.prog 11 #[.pointer (some ⟨g, 0, none⟩), sv (stf 5) none 0] w4 fun R w' => R = .returned (.int .i64 0) ∧ Kst w S N g gd kc ko w' (pon 4 (E1 (ktxt (stf 5))))) := Kst.write HT.out HB.out K4.out (stf 5) rfl (stf_fit (by decide)) (by decide) (e := 0) (on_first (q := 1000) (k := 0) (stf_good 5) (by decide)).1 (on_first (q := 1000) (k := 0) (stf_good 5) (by decide)).2
  go_wp2_with fail
  refine KW.out.mono ?_
  rintro R w5 ⟨rfl, h⟩
  have K5 := Lib.hid h
  clear h KW K4
  have KA : Hid (∀ W, Calls Tryz.prog 33 #[.int .u64 5] W fun E w' => E = .returned (sv (stf 5) none 0) ∧ Below W.heap.size W w') := fun W => at18_c 5 W
  go_wp2_with fail
  refine (KA.out _).mono ?_
  rintro R w6 ⟨rfl, hb⟩
  have K6 := Lib.hid (K5.out.new hb)
  clear hb KA K5
  have KW : Hid (Calls Tryz.prog 11 #[.pointer (some ⟨g, 0, none⟩), sv (stf 5) none 0] w6 fun R w' => R = .returned (.int .i64 0) ∧ Kst w S N g gd kc ko w' (pon 4 (E1 (ktxt (stf 5))))) := Kst.write HT.out HB.out K6.out (stf 5) rfl (stf_fit (by decide)) (by decide) (e := 0) (kw_there (q := 1000) (s := stf 5) (p := pon 4 (E1 (ktxt (stf 5)))) (stf_good 5) (by show c5 ∈ (E1 _).map Ent.nm; simp [E1])).1 (kw_there (q := 1000) (s := stf 5) (p := pon 4 (E1 (ktxt (stf 5)))) (stf_good 5) (by show c5 ∈ (E1 _).map Ent.nm; simp [E1])).2
  go_wp2_with fail
  refine KW.out.mono ?_
  rintro R w7 ⟨rfl, h⟩
  have K7 := Lib.hid h
  clear h KW K6
  have KR : Hid (Calls Tryz.prog 19 #[.pointer (some ⟨g, 0, none⟩)] w7 fun R w' => R = .returned (.int .i64 4) ∧ w7 = w') := pwrites_c _ K7.out.pw
  go_wp2_with fail
  refine KR.out.mono ?_
  rintro R w' ⟨rfl, rfl⟩
  clear KR
  have L0 := Loc.nil (B := w7.heap.size) (w := w7) (Nat.le_refl _)
  have CU := Lib.hid (Cells.made w7 27 #[.int .u64 7, .int .u64 5])
  have BU := kb_alloc w7 (.cells #[.int .u64 7, .int .u64 5] 27)
  go_wp2_with fail
  obtain ⟨gu, hgu⟩ : ∃ gu, gu = w7.heap.size := ⟨_, rfl⟩
  rw [← hgu] at CU ⊢
  generalize w7.alloc (.cells #[.int .u64 7, .int .u64 5] 27) = w8 at *
  have L8 := L0.to BU
  have K8 := Lib.hid (K7.out.new L8.be)
  clear BU L0
  clear hgu
  have KQ : Hid (Calls Tryz.prog 26 #[.pointer (some ⟨g, 0, none⟩), .slice (some ⟨gu, 0, none⟩) 2 2] w8 fun R w' => ∃ ao cap, R = .returned (.tuple #[sv (stf 5) ao cap, .int .i64 1, .int .i64 0]) ∧ Shs w' ao ((stf 5) : St).ss ∧ Below w8.heap.size w8 w') := by
    have := knew_c [7, 5] (some ⟨gu, 0, none⟩) 2 w8 K8.out.pw (us_cells [7, 5] CU.out rfl (by decide)) (by decide) (HT.out.lo K8.out.be) (btab_lo HB.out K8.out.be)
    rw [kn_75] at this
    exact this.mono fun R w' ⟨ao, cap, h1, h2, h3, h4, h5⟩ => ⟨ao, cap, h1, h2, h5⟩
  refine KQ.out.mono ?_
  rintro R w9 ⟨ao9, cap9, rfl, hs9, hb⟩
  clear KQ CU
  have L9 := L8.to hb
  have K9 := Lib.hid (K7.out.new L9.be)
  clear hb L8 K8
  obtain ⟨g10, w10, z10, s10, L10, q10⟩ := L9.newA ty_state #[.int .u64 0, .int .u64 0, .int .i32 0, .int .i32 0, .int .i32 0, .int .i32 0, .int .u8 0, .int .u8 0, .int .u8 0, .int .i32 0, .int .i32 0, .int .i32 0, .int .i32 0, .int .u8 0, .int .u8 0, .int .u8 0, .slice none 0 0, .int .u16 0, .int .u16 0] (stc (stf 5) ao9 cap9) rfl rfl rfl
  replace L10 : Loc _ _ _ [(g10, 34, stc (stf 5) ao9 cap9)] := L10
  have K10 := Lib.hid (K7.out.new L10.be)
  clear L9 q10 K9
  have HSH := Lib.hid (show Shs w10 ao9 (stf 5).ss from shs_none _ _)
  clear hs9
  have CU := Lib.hid (Cells.made w10 27 #[.int .u64 7])
  have BU := kb_alloc w10 (.cells #[.int .u64 7] 27)
  go_wp2_with fail
  clear s10 z10
  obtain ⟨gu, hgu⟩ : ∃ gu, gu = w10.heap.size := ⟨_, rfl⟩
  rw [← hgu] at CU ⊢
  generalize w10.alloc (.cells #[.int .u64 7] 27) = w11 at *
  have L11 := L10.to BU
  have K11 := Lib.hid (K7.out.new L11.be)
  clear BU L10 K10
  clear hgu
  have KQ : Hid (Calls Tryz.prog 26 #[.pointer (some ⟨g, 0, none⟩), .slice (some ⟨gu, 0, none⟩) 1 1] w11 fun R w' => ∃ ao cap, R = .returned (.tuple #[sv .zero ao cap, .int .i64 0, .int .i64 5]) ∧ Shs w' ao (.zero : St).ss ∧ Below w11.heap.size w11 w') := by
    have := knew_c [7] (some ⟨gu, 0, none⟩) 1 w11 K11.out.pw (us_cells [7] CU.out rfl (by decide)) (by decide) (HT.out.lo K11.out.be) (btab_lo HB.out K11.out.be)
    rw [kn_7] at this
    exact this.mono fun R w' ⟨ao, cap, h1, h2, h3, h4, h5⟩ => ⟨ao, cap, h1, h2, h5⟩
  refine KQ.out.mono ?_
  rintro R w12 ⟨ao12, cap12, rfl, hs12, hb⟩
  clear KQ CU
  have L12 := L11.to hb
  have K12 := Lib.hid (K7.out.new L12.be)
  clear hb L11 K11
  clear hs12
  obtain ⟨g13, w13, z13, s13, L13, q13⟩ := L12.newA ty_state #[.int .u64 0, .int .u64 0, .int .i32 0, .int .i32 0, .int .i32 0, .int .i32 0, .int .u8 0, .int .u8 0, .int .u8 0, .int .i32 0, .int .i32 0, .int .i32 0, .int .i32 0, .int .u8 0, .int .u8 0, .int .u8 0, .slice none 0 0, .int .u16 0, .int .u16 0] (stc .zero ao12 cap12) rfl rfl rfl
  replace L13 : Loc _ _ _ [(g10, 34, stc (stf 5) ao9 cap9), (g13, 34, stc .zero ao12 cap12)] := L13
  have K13 := Lib.hid (K7.out.new L13.be)
  clear L12 q13 K12
  go_wp2_with fail
  clear s13 z13
  have KQ : Hid (Calls Tryz.prog 26 #[.pointer (some ⟨g, 0, none⟩), .slice none 0 0] w13 fun R w' => ∃ ao cap, R = .returned (.tuple #[sv .zero ao cap, .int .i64 0, .int .i64 5]) ∧ Shs w' ao (.zero : St).ss ∧ Below w13.heap.size w13 w') := by
    have := knew_c [] none 0 w13 K13.out.pw (fun k hk => by cases hk) (by decide) (HT.out.lo K13.out.be) (btab_lo HB.out K13.out.be)
    rw [show knw _ 0 [] = (.zero, 0, 5) from rfl] at this
    exact this.mono fun R w' ⟨ao, cap, h1, h2, h3, h4, h5⟩ => ⟨ao, cap, h1, h2, h5⟩
  refine KQ.out.mono ?_
  rintro R w14 ⟨ao14, cap14, rfl, hs14, hb⟩
  clear KQ
  have L14 := L13.to hb
  have K14 := Lib.hid (K7.out.new L14.be)
  clear hb L13 K13
  clear hs14
  obtain ⟨g15, w15, z15, s15, L15, q15⟩ := L14.newA ty_state #[.int .u64 0, .int .u64 0, .int .i32 0, .int .i32 0, .int .i32 0, .int .i32 0, .int .u8 0, .int .u8 0, .int .u8 0, .int .i32 0, .int .i32 0, .int .i32 0, .int .i32 0, .int .u8 0, .int .u8 0, .int .u8 0, .slice none 0 0, .int .u16 0, .int .u16 0] (stc .zero ao14 cap14) rfl rfl rfl
  replace L15 : Loc _ _ _ [(g10, 34, stc (stf 5) ao9 cap9), (g13, 34, stc .zero ao12 cap12), (g15, 34, stc .zero ao14 cap14)] := L15
  have K15 := Lib.hid (K7.out.new L15.be)
  clear L14 q15 K14
  have KA : Hid (∀ W, Calls Tryz.prog 33 #[.int .u64 6] W fun E w' => E = .returned (sv (stf 6) none 0) ∧ Below W.heap.size W w') := fun W => at18_c 6 W
  go_wp2_with fail
  clear s15 z15
  refine (KA.out _).mono ?_
  rintro R w16 ⟨rfl, hb⟩
  clear KA
  have L16 := L15.to hb
  have K16 := Lib.hid (K7.out.new L16.be)
  clear hb L15 K15
  obtain ⟨g17, w17, z17, s17, L17, q17⟩ := L16.newA ty_state #[.int .u64 0, .int .u64 0, .int .i32 0, .int .i32 0, .int .i32 0, .int .i32 0, .int .u8 0, .int .u8 0, .int .u8 0, .int .i32 0, .int .i32 0, .int .i32 0, .int .i32 0, .int .u8 0, .int .u8 0, .int .u8 0, .slice none 0 0, .int .u16 0, .int .u16 0] (stc (stf 6) none 0) rfl rfl rfl
  replace L17 : Loc _ _ _ [(g10, 34, stc (stf 5) ao9 cap9), (g13, 34, stc .zero ao12 cap12), (g15, 34, stc .zero ao14 cap14), (g17, 34, stc (stf 6) none 0)] := L17
  have K17 := Lib.hid (K7.out.new L17.be)
  clear L16 q17 K16
  obtain ⟨w18, t18, L18, q18⟩ := L17.stO ty_u8 3 rfl 6 (.int .u8 0) (cs' := stc bad6 none 0) rfl (L' := [(g10, 34, stc (stf 5) ao9 cap9), (g13, 34, stc .zero ao12 cap12), (g15, 34, stc .zero ao14 cap14), (g17, 34, stc bad6 none 0)]) rfl (Nat.le_of_ble_eq_true rfl) rfl rfl
  have K18 := Lib.hid (K7.out.new L18.be)
  clear q18 L17 K17
  have KC : Hid (∀ W, Calls Tryz.prog 34 #[.int .u64 5] W fun R w' => R = .returned (.string (str c5)) ∧ Below W.heap.size W w') := fun W => chk_c 5 W (by decide)
  go_wp2_with fail
  clear s17 z17 t18
  refine (KC.out _).mono ?_
  rintro R w19 ⟨rfl, hb⟩
  clear KC
  have L19 := L18.to hb
  have K19 := Lib.hid (K7.out.new L19.be)
  clear hb L18 K18
  obtain ⟨xs, hxs⟩ : ∃ xs, xs = str (ktxt (stf 5)) := ⟨_, rfl⟩
  obtain ⟨xc, hxc⟩ : ∃ xc, xc = str ((ktxt (stf 5)).take 80) := ⟨_, rfl⟩
  have HXS := Lib.hid hxs
  have HXC := Lib.hid hxc
  have hsz : xs.size = 81 := by rw [hxs, str_size, t5_len]
  have hcut : xs.extract 0 80 = xc := by rw [hxs, hxc, str_cut]
  clear hxs hxc
  have KD : Hid (Calls Tryz.prog 20 #[.pointer (some ⟨gd, 0, none⟩), .string (str c5)] w19 fun R w' => R = .returned (.tuple #[.string xs, .int .i64 0]) ∧ Below w19.heap.size w19 w') := by
    have := read_c c5 w19 K19.out.pw.dk (by rw [cN_len]; decide)
    rw [show (pon 4 (E1 (ktxt (stf 5)))).E = E1 (ktxt (stf 5)) from rfl, rd_E1.1, rd_E1.2, ← HXS.out] at this
    exact this
  go_wp2_with fail
  refine KD.out.mono ?_
  rintro R w20 ⟨rfl, hb⟩
  clear KD
  have L20 := L19.to hb
  have K20 := Lib.hid (K7.out.new L20.be)
  clear hb L19 K19
  go_upto_region 11 with fail
  obtain ⟨wd, hwd⟩ : ∃ wd, wd = w20.drew := ⟨_, rfl⟩
  have LD := L20.to (show Below w20.heap.size w20 wd from hwd ▸ (Below.refl _ _).drew)
  have ha := LD.get 0 rfl
  have hc := LD.get 3 rfl
  have ldA3 : ∀ W, Below wd.heap.size wd W → (ldT 34 (.pointer (some ⟨g10, 0, none⟩))).run Tryz.prog W = .ok (.agg (stc (stf 5) ao9 cap9)) W := fun W hW => run_ldA ty_state (ha.below hW ha.lt) 0 (Nat.le_of_ble_eq_true rfl)
  have ldA4 : ∀ W, Below wd.heap.size wd W → (ldT 34 (.pointer (some ⟨g17, 0, none⟩))).run Tryz.prog W = .ok (.agg (stc bad6 none 0)) W := fun W hW => run_ldA ty_state (hc.below hW hc.lt) 0 (Nat.le_of_ble_eq_true rfl)
  have KD := Lib.hid (K7.out.new LD.be)
  have KAT : Hid (∀ W, Calls Tryz.prog 33 #[.int .u64 5] W fun E w' => E = .returned (sv (stf 5) none 0) ∧ Below W.heap.size W w') := fun W => at18_c 5 W
  have KSM : Hid (∀ W, Calls Tryz.prog 35 #[sv (stf 5) ao9 cap9, sv (stf 5) none 0] W fun E w' => E = .returned (.bool true) ∧ Below W.heap.size W w') := fun W => by
    have := same_c (stf 5) (stf 5) ao9 none cap9 0 W (shs_none _ _) (shs_none _ _) (by decide) (by decide)
    rw [sm_self] at this
    exact this.mono fun R w' h => ⟨h.1, below_of_grown h.2⟩
  have KWB : Hid (∀ W, Below wd.heap.size wd W → Calls Tryz.prog 11 #[.pointer (some ⟨g, 0, none⟩), sv bad6 none 0] W fun R w' => R = .returned (.int .i64 4) ∧ Below W.heap.size W w') := fun W hW => kwrite_bad _ bad6 none 0 W (shs_none _ _) bad6_fit bad6_no (HT.out.lo (KD.out.new hW).be) (btab_lo HB.out (KD.out.new hW).be)
  clear ha hc LD L20 K20 HSH
  have o0 : Below wd.heap.size wd wd := Below.refl _ _
  refine wp_region_till (S := fun W => Below wd.heap.size wd W) (by kernel_rfl) ?_
  rw [← hwd]
  clear hwd
  refine wpTill_take (i := 0) (v := ?vq1) rfl (by kernel_rfl) (fun _ _ _ h => h) (Or.inl ⟨by rfl, ?hq1⟩) o0 ?rq1
  case hq1 => (intro W hW; (try dsimp only at hW); go_simp; try with_reducible rfl)
  simp only [Act.put, List.setIfInBounds_toArray, List.set_cons_zero, List.set_cons_succ, List.getElem_toArray, List.getElem_cons_succ, List.getElem_cons_zero]
  refine wpTill_run (i := 1) (by kernel_rfl) rfl o0 (fun K hK => ?_)
  go_simp
  go_at_call 33
  refine (KAT.out wd).mono ?_
  rintro R e1 ⟨rfl, hb⟩
  have o1 := o0.trans (hb.mono o0.size)
  clear hb
  refine hK _ _ ?_
  clear hK K
  refine wpTill_run (i := 2) (by kernel_rfl) rfl o1 (fun K hK => ?_)
  go_simp
  go_at_call 35
  refine (KSM.out e1).mono ?_
  rintro R e2 ⟨rfl, hb⟩
  have o2 := o1.trans (hb.mono o1.size)
  clear hb
  refine hK _ _ ?_
  clear hK K
  refine wpTill_take (i := 3) (v := ?vq2) rfl (by kernel_rfl) (fun _ _ _ h => h) (Or.inl ⟨by rfl, ?hq2⟩) o2 ?rq2
  case hq2 => (intro W hW; (try dsimp only at hW); go_simp; try with_reducible rfl)
  simp only [Act.put, List.setIfInBounds_toArray, List.set_cons_zero, List.set_cons_succ, List.getElem_toArray, List.getElem_cons_succ, List.getElem_cons_zero]
  refine wpTill_take (i := 4) (v := ?vq3) rfl (by kernel_rfl) (fun _ _ _ h => h) (Or.inl ⟨by rfl, ?hq3⟩) o2 ?rq3
  case hq3 => (intro W hW; (try dsimp only at hW); go_simp; try with_reducible rfl)
  simp only [Act.put, List.setIfInBounds_toArray, List.set_cons_zero, List.set_cons_succ, List.getElem_toArray, List.getElem_cons_succ, List.getElem_cons_zero]
  refine wpTill_take (i := 5) (v := ?vq4) rfl (by kernel_rfl) (fun _ _ _ h => h) (Or.inl ⟨by rfl, ?hq4⟩) o2 ?rq4
  case hq4 => (intro W hW; (try dsimp only at hW); go_simp; try with_reducible rfl)
  simp only [Act.put, List.setIfInBounds_toArray, List.set_cons_zero, List.set_cons_succ, List.getElem_toArray, List.getElem_cons_succ, List.getElem_cons_zero]
  refine wpTill_take (i := 6) (v := ?vq5) rfl (by kernel_rfl) (fun _ _ _ h => h) (Or.inl ⟨by rfl, ?hq5⟩) o2 ?rq5
  case hq5 => (intro W hW; (try dsimp only at hW); go_simp; try with_reducible rfl)
  simp only [Act.put, List.setIfInBounds_toArray, List.set_cons_zero, List.set_cons_succ, List.getElem_toArray, List.getElem_cons_succ, List.getElem_cons_zero]
  refine wpTill_take (i := 7) (v := ?vq6) rfl (by kernel_rfl) (fun _ _ _ h => h) (Or.inl ⟨by rfl, ?hq6⟩) o2 ?rq6
  case hq6 => (intro W hW; (try dsimp only at hW); go_simp; try with_reducible rfl)
  simp only [Act.put, List.setIfInBounds_toArray, List.set_cons_zero, List.set_cons_succ, List.getElem_toArray, List.getElem_cons_succ, List.getElem_cons_zero]
  refine wpTill_take (i := 8) (v := ?vq7) rfl (by kernel_rfl) (fun _ _ _ h => h) (Or.inl ⟨by rfl, ?hq7⟩) o2 ?rq7
  case hq7 => (intro W hW; (try dsimp only at hW); go_simp; try with_reducible rfl)
  simp only [Act.put, List.setIfInBounds_toArray, List.set_cons_zero, List.set_cons_succ, List.getElem_toArray, List.getElem_cons_succ, List.getElem_cons_zero]
  refine wpTill_take (i := 9) (v := ?vq8) rfl (by kernel_rfl) (fun _ _ _ h => h) (Or.inl ⟨by rfl, ?hq8⟩) o2 ?rq8
  case hq8 => (intro W hW; (try dsimp only at hW); go_simp; try with_reducible rfl)
  simp only [Act.put, List.setIfInBounds_toArray, List.set_cons_zero, List.set_cons_succ, List.getElem_toArray, List.getElem_cons_succ, List.getElem_cons_zero]
  refine wpTill_take (i := 10) (v := ?vq9) rfl (by kernel_rfl) (fun _ _ _ h => h) (Or.inl ⟨by rfl, ?hq9⟩) o2 ?rq9
  case hq9 => (intro W hW; (try dsimp only at hW); go_simp; try with_reducible rfl)
  simp only [Act.put, List.setIfInBounds_toArray, List.set_cons_zero, List.set_cons_succ, List.getElem_toArray, List.getElem_cons_succ, List.getElem_cons_zero]
  refine wpTill_take (i := 11) (v := ?vq10) rfl (by kernel_rfl) (fun _ _ _ h => h) (Or.inl ⟨by rfl, ?hq10⟩) o2 ?rq10
  case hq10 => (intro W hW; (try dsimp only at hW); go_simp; try with_reducible rfl)
  simp only [Act.put, List.setIfInBounds_toArray, List.set_cons_zero, List.set_cons_succ, List.getElem_toArray, List.getElem_cons_succ, List.getElem_cons_zero]
  refine wpTill_take (i := 12) (v := ?vq11) rfl (by kernel_rfl) (fun _ _ _ h => h) (Or.inl ⟨by rfl, ?hq11⟩) o2 ?rq11
  case hq11 => (intro W hW; (try dsimp only at hW); go_simp; try with_reducible rfl)
  simp only [Act.put, List.setIfInBounds_toArray, List.set_cons_zero, List.set_cons_succ, List.getElem_toArray, List.getElem_cons_succ, List.getElem_cons_zero]
  refine wpTill_take (i := 13) (v := ?vq12) rfl (by kernel_rfl) (fun _ _ _ h => h) (Or.inl ⟨by rfl, ?hq12⟩) o2 ?rq12
  case hq12 => (intro W hW; (try dsimp only at hW); go_simp; try with_reducible rfl)
  simp only [Act.put, List.setIfInBounds_toArray, List.set_cons_zero, List.set_cons_succ, List.getElem_toArray, List.getElem_cons_succ, List.getElem_cons_zero]
  refine wpTill_take (i := 14) (v := ?vq13) rfl (by kernel_rfl) (fun _ _ _ h => h) (Or.inl ⟨by rfl, ?hq13⟩) o2 ?rq13
  case hq13 => (intro W hW; (try dsimp only at hW); go_simp; try with_reducible rfl)
  simp only [Act.put, List.setIfInBounds_toArray, List.set_cons_zero, List.set_cons_succ, List.getElem_toArray, List.getElem_cons_succ, List.getElem_cons_zero]
  refine wpTill_take (i := 15) (v := ?vq14) rfl (by kernel_rfl) (fun _ _ _ h => h) (Or.inl ⟨by rfl, ?hq14⟩) o2 ?rq14
  case hq14 => (intro W hW; (try dsimp only at hW); go_simp; try with_reducible rfl)
  simp only [Act.put, List.setIfInBounds_toArray, List.set_cons_zero, List.set_cons_succ, List.getElem_toArray, List.getElem_cons_succ, List.getElem_cons_zero]
  refine wpTill_take (i := 16) (v := ?vq15) rfl (by kernel_rfl) (fun _ _ _ h => h) (Or.inl ⟨by rfl, ?hq15⟩) o2 ?rq15
  case hq15 => (intro W hW; (try dsimp only at hW); go_simp; try with_reducible rfl)
  simp only [Act.put, List.setIfInBounds_toArray, List.set_cons_zero, List.set_cons_succ, List.getElem_toArray, List.getElem_cons_succ, List.getElem_cons_zero]
  refine wpTill_take (i := 17) (v := ?vq16) rfl (by kernel_rfl) (fun _ _ _ h => h) (Or.inl ⟨by rfl, ?hq16⟩) o2 ?rq16
  case hq16 => (intro W hW; (try dsimp only at hW); go_simp; try with_reducible rfl)
  simp only [Act.put, List.setIfInBounds_toArray, List.set_cons_zero, List.set_cons_succ, List.getElem_toArray, List.getElem_cons_succ, List.getElem_cons_zero]
  refine wpTill_take (i := 18) (v := ?vq17) rfl (by kernel_rfl) (fun _ _ _ h => h) (Or.inl ⟨by rfl, ?hq17⟩) o2 ?rq17
  case hq17 => (intro W hW; (try dsimp only at hW); go_simp; try with_reducible rfl)
  simp only [Act.put, List.setIfInBounds_toArray, List.set_cons_zero, List.set_cons_succ, List.getElem_toArray, List.getElem_cons_succ, List.getElem_cons_zero]
  refine wpTill_take (i := 19) (v := ?vq18) rfl (by kernel_rfl) (fun _ _ _ h => h) (Or.inl ⟨by rfl, ?hq18⟩) o2 ?rq18
  case hq18 => (intro W hW; (try dsimp only at hW); go_simp; try with_reducible rfl)
  simp only [Act.put, List.setIfInBounds_toArray, List.set_cons_zero, List.set_cons_succ, List.getElem_toArray, List.getElem_cons_succ, List.getElem_cons_zero]
  refine wpTill_take (i := 20) (v := ?vq19) rfl (by kernel_rfl) (fun _ _ _ h => h) (Or.inl ⟨by rfl, ?hq19⟩) o2 ?rq19
  case hq19 => (intro W hW; (try dsimp only at hW); go_simp; try with_reducible rfl)
  simp only [Act.put, List.setIfInBounds_toArray, List.set_cons_zero, List.set_cons_succ, List.getElem_toArray, List.getElem_cons_succ, List.getElem_cons_zero]
  refine wpTill_take (i := 21) (v := ?vq20) rfl (by kernel_rfl) (fun _ _ _ h => h) (Or.inl ⟨by rfl, ?hq20⟩) o2 ?rq20
  case hq20 => (intro W hW; (try dsimp only at hW); go_simp; try with_reducible rfl)
  simp only [Act.put, List.setIfInBounds_toArray, List.set_cons_zero, List.set_cons_succ, List.getElem_toArray, List.getElem_cons_succ, List.getElem_cons_zero]
  refine wpTill_take (i := 22) (v := ?vq21) rfl (by kernel_rfl) (fun _ _ _ h => h) (Or.inl ⟨by rfl, ?hq21⟩) o2 ?rq21
  case hq21 => (intro W hW; (try dsimp only at hW); go_simp; try with_reducible rfl)
  simp only [Act.put, List.setIfInBounds_toArray, List.set_cons_zero, List.set_cons_succ, List.getElem_toArray, List.getElem_cons_succ, List.getElem_cons_zero]
  refine wpTill_take (i := 23) (v := ?vq22) rfl (by kernel_rfl) (fun _ _ _ h => h) (Or.inl ⟨by rfl, ?hq22⟩) o2 ?rq22
  case hq22 => (intro W hW; (try dsimp only at hW); go_simp; try with_reducible rfl)
  simp only [Act.put, List.setIfInBounds_toArray, List.set_cons_zero, List.set_cons_succ, List.getElem_toArray, List.getElem_cons_succ, List.getElem_cons_zero]
  refine wpTill_take (i := 24) (v := ?vq23) rfl (by kernel_rfl) (fun _ _ _ h => h) (Or.inl ⟨by rfl, ?hq23⟩) o2 ?rq23
  case hq23 => (intro W hW; (try dsimp only at hW); go_simp; try with_reducible rfl)
  simp only [Act.put, List.setIfInBounds_toArray, List.set_cons_zero, List.set_cons_succ, List.getElem_toArray, List.getElem_cons_succ, List.getElem_cons_zero]
  refine wpTill_take (i := 25) (v := ?vq24) rfl (by kernel_rfl) (fun _ _ _ h => h) (Or.inl ⟨by rfl, ?hq24⟩) o2 ?rq24
  case hq24 => (intro W hW; (try dsimp only at hW); go_simp; try with_reducible rfl)
  simp only [Act.put, List.setIfInBounds_toArray, List.set_cons_zero, List.set_cons_succ, List.getElem_toArray, List.getElem_cons_succ, List.getElem_cons_zero]
  refine wpTill_take (i := 26) (v := ?vq25) rfl (by kernel_rfl) (fun _ _ _ h => h) (Or.inl ⟨by rfl, ?hq25⟩) o2 ?rq25
  case hq25 => (intro W hW; (try dsimp only at hW); go_simp; try with_reducible rfl)
  simp only [Act.put, List.setIfInBounds_toArray, List.set_cons_zero, List.set_cons_succ, List.getElem_toArray, List.getElem_cons_succ, List.getElem_cons_zero]
  refine wpTill_run (i := 27) (by kernel_rfl) rfl o2 (fun K hK => ?_)
  go_simp
  go_at_call 11
  refine (KWB.out e2 o2).mono ?_
  rintro R e3 ⟨rfl, hb⟩
  have o3 := o2.trans (hb.mono o2.size)
  clear hb
  refine hK _ _ ?_
  clear hK K
  refine wpTill_take (i := 28) (v := ?vq26) rfl (by kernel_rfl) (fun _ _ _ h => h) (Or.inl ⟨by rfl, ?hq26⟩) o3 ?rq26
  case hq26 => (intro W hW; (try dsimp only at hW); go_simp; try with_reducible rfl)
  simp only [Act.put, List.setIfInBounds_toArray, List.set_cons_zero, List.set_cons_succ, List.getElem_toArray, List.getElem_cons_succ, List.getElem_cons_zero]
  refine wpTill_take (i := 29) (v := ?vq27) rfl (by kernel_rfl) (fun _ _ _ h => h) (Or.inl ⟨by rfl, ?hq27⟩) o3 ?rq27
  case hq27 => (intro W hW; (try dsimp only at hW); go_simp; try with_reducible rfl)
  simp only [Act.put, List.setIfInBounds_toArray, List.set_cons_zero, List.set_cons_succ, List.getElem_toArray, List.getElem_cons_succ, List.getElem_cons_zero]
  refine wpTill_take (i := 30) (v := ?vq28) rfl (by kernel_rfl) (fun _ _ _ h => h) (Or.inl ⟨by rfl, ?hq28⟩) o3 ?rq28
  case hq28 => (intro W hW; (try dsimp only at hW); go_simp; try with_reducible rfl)
  simp only [Act.put, List.setIfInBounds_toArray, List.set_cons_zero, List.set_cons_succ, List.getElem_toArray, List.getElem_cons_succ, List.getElem_cons_zero]
  refine wpTill_take (i := 31) (v := ?vq29) rfl (by kernel_rfl) (fun _ _ _ h => h) (Or.inl ⟨by rfl, ?hq29⟩) o3 ?rq29
  case hq29 => (intro W hW; (try dsimp only at hW); go_simp; try with_reducible rfl)
  simp only [Act.put, List.setIfInBounds_toArray, List.set_cons_zero, List.set_cons_succ, List.getElem_toArray, List.getElem_cons_succ, List.getElem_cons_zero]
  refine wpTill_take (i := 32) (v := ?vq30) rfl (by kernel_rfl) (fun _ _ _ h => h) (Or.inl ⟨by rfl, ?hq30⟩) o3 ?rq30
  case hq30 => (intro W hW; (try dsimp only at hW); go_simp; try with_reducible rfl)
  simp only [Act.put, List.setIfInBounds_toArray, List.set_cons_zero, List.set_cons_succ, List.getElem_toArray, List.getElem_cons_succ, List.getElem_cons_zero]
  refine wpTill_take (i := 33) (v := ?vq31) rfl (by kernel_rfl) (fun _ _ _ h => h) (Or.inl ⟨by rfl, ?hq31⟩) o3 ?rq31
  case hq31 => (intro W hW; (try dsimp only at hW); go_simp; try with_reducible rfl)
  simp only [Act.put, List.setIfInBounds_toArray, List.set_cons_zero, List.set_cons_succ, List.getElem_toArray, List.getElem_cons_succ, List.getElem_cons_zero]
  refine wpTill_run (i := 34) (by kernel_rfl) rfl o3 (fun K hK => ?_)
  go_simp
  refine hK _ _ ?_
  clear hK K
  refine wpTill_done (by kernel_rfl) ?_
  have KE := Lib.hid (KD.out.new o3)
  clear o0 o1 o2 o3 ldA3 ldA4 KAT KSM KWB KD
  have KC : Hid (∀ W, Calls Tryz.prog 34 #[.int .u64 6] W fun R w' => R = .returned (.string (str c6)) ∧ Below W.heap.size W w') := fun W => chk_c 6 W (by decide)
  go_wp2_with fail
  refine (KC.out _).mono ?_
  rintro R w21 ⟨rfl, hb⟩
  clear KC
  have K21 := Lib.hid (KE.out.new hb)
  clear hb KE
  have KW : Hid (Calls Tryz.prog 36 #[.pointer (some ⟨gd, 0, none⟩), .string (str c6)] w21 fun R w' => ∃ c : Int, R = .returned (.int .i64 c) ∧ Kst w S N g gd kc ko w' (pon 4 (E2 (ktxt (stf 5))))) := Kst.cre K21.out c6 (by rw [cN_len]; decide) s12
  go_wp2_with fail
  refine KW.out.mono ?_
  rintro R w22 ⟨ci22, rfl, h⟩
  have K22 := Lib.hid h
  clear h KW K21
  have KC : Hid (∀ W, Calls Tryz.prog 34 #[.int .u64 6] W fun R w' => R = .returned (.string (str c6)) ∧ Below W.heap.size W w') := fun W => chk_c 6 W (by decide)
  go_wp2_with fail
  refine (KC.out _).mono ?_
  rintro R w23 ⟨rfl, hb⟩
  clear KC
  have K23 := Lib.hid (K22.out.new hb)
  clear hb K22
  have KW : Hid (Calls Tryz.prog 37 #[.pointer (some ⟨gd, 0, none⟩), .string (str c6), .string xs] w23 fun R w' => ∃ c : Int, R = .returned (.int .i64 c) ∧ Kst w S N g gd kc ko w' (pon 4 (E3 (ktxt (stf 5))))) := by rw [HXS.out]; exact Kst.app K23.out c6 (ktxt (stf 5)) (by rw [cN_len]; decide) (by rw [t5_len]; decide) (s23 t5_len)
  go_wp2_with fail
  refine KW.out.mono ?_
  rintro R w24 ⟨ci24, rfl, h⟩
  have K24 := Lib.hid h
  clear h KW K23
  have KC : Hid (∀ W, Calls Tryz.prog 34 #[.int .u64 7] W fun R w' => R = .returned (.string (str c7)) ∧ Below W.heap.size W w') := fun W => chk_c 7 W (by decide)
  go_wp2_with fail
  refine (KC.out _).mono ?_
  rintro R w25 ⟨rfl, hb⟩
  clear KC
  have K25 := Lib.hid (K24.out.new hb)
  clear hb K24
  have KW : Hid (Calls Tryz.prog 36 #[.pointer (some ⟨gd, 0, none⟩), .string (str c7)] w25 fun R w' => ∃ c : Int, R = .returned (.int .i64 c) ∧ Kst w S N g gd kc ko w' (pon 4 (E4 (ktxt (stf 5))))) := Kst.cre K25.out c7 (by rw [cN_len]; decide) s34
  go_wp2_with fail
  refine KW.out.mono ?_
  rintro R w26 ⟨ci26, rfl, h⟩
  have K26 := Lib.hid h
  clear h KW K25
  go_upto_region 16 with fail
  obtain ⟨wf, hwf⟩ : ∃ wf, wf = w26.drew := ⟨_, rfl⟩
  have KF := Lib.hid (K26.out.new (show Below w26.heap.size w26 wf from hwf ▸ (Below.refl _ _).drew))
  clear K26
  have KC : Hid (∀ W, Calls Tryz.prog 34 #[.int .u64 7] W fun R w' => R = .returned (.string (str c7)) ∧ Below W.heap.size W w') := fun W => chk_c 7 W (by decide)
  refine wp_region_till (S := fun _ => True) (by kernel_rfl) ?_
  rw [← hwf]
  clear hwf
  refine wpTill_take (i := 0) (v := ?vq32) rfl (by kernel_rfl) (fun _ _ _ h => h) (Or.inl ⟨by rfl, ?hq32⟩) trivial ?rq32
  case hq32 => (intro W hW; (try dsimp only at hW); go_simp; try with_reducible rfl)
  simp only [Act.put, List.setIfInBounds_toArray, List.set_cons_zero, List.set_cons_succ, List.getElem_toArray, List.getElem_cons_succ, List.getElem_cons_zero]
  refine wpTill_take (i := 2) (v := ?vq33) rfl (by kernel_rfl) (fun _ _ _ h => h) (Or.inl ⟨by rfl, ?hq33⟩) trivial ?rq33
  case hq33 => (intro W hW; (try dsimp only at hW); go_simp; try with_reducible rfl)
  simp only [Act.put, List.setIfInBounds_toArray, List.set_cons_zero, List.set_cons_succ, List.getElem_toArray, List.getElem_cons_succ, List.getElem_cons_zero]
  refine wpTill_take (i := 3) (v := ?vq34) rfl (by kernel_rfl) (fun _ _ _ h => h) (Or.inl ⟨by rfl, ?hq34⟩) trivial ?rq34
  case hq34 => (intro W hW; (try dsimp only at hW); go_simp; try with_reducible rfl)
  simp only [Act.put, List.setIfInBounds_toArray, List.set_cons_zero, List.set_cons_succ, List.getElem_toArray, List.getElem_cons_succ, List.getElem_cons_zero]
  refine wpTill_run (i := 1) (by kernel_rfl) rfl trivial (fun K hK => ?_)
  go_simp
  go_at_call 34
  refine (KC.out wf).mono ?_
  rintro R f1 ⟨rfl, hb⟩
  have KG := Lib.hid (KF.out.new hb)
  clear hb KF KC
  refine hK _ _ ?_
  clear hK K
  refine wpTill_run (i := 4) (by kernel_rfl) rfl trivial (fun K hK => ?_)
  have KW : Hid (Calls Tryz.prog 37 #[.pointer (some ⟨gd, 0, none⟩), .string (str c7), .string xc] f1 fun R w' => ∃ c : Int, R = .returned (.int .i64 c) ∧ Kst w S N g gd kc ko w' (pon 4 (E5 (ktxt (stf 5))))) := by rw [HXC.out]; exact Kst.app KG.out c7 ((ktxt (stf 5)).take 80) (by rw [cN_len]; decide) (by rw [List.length_take, t5_len]; decide) (s45 t5_len)
  go_simp
  go_at_call 37
  refine KW.out.mono ?_
  rintro R f2 ⟨cj, rfl, h⟩
  have KH := Lib.hid h
  clear h KG KW
  refine hK _ _ ?_
  clear hK K
  refine wpTill_done (by kernel_rfl) ?_
  have KC : Hid (∀ W, Calls Tryz.prog 34 #[.int .u64 8] W fun R w' => R = .returned (.string (str c8)) ∧ Below W.heap.size W w') := fun W => chk_c 8 W (by decide)
  go_wp2_with fail
  refine (KC.out _).mono ?_
  rintro R w27 ⟨rfl, hb⟩
  clear KC
  have K27 := Lib.hid (KH.out.new hb)
  clear hb KH
  have KC : Hid (∀ W, Calls Tryz.prog 38 #[.string (str c8)] W fun R w' => R = .returned (.string (str x8)) ∧ W = w') := fun W => nnew_c c8 W (by rw [cN_len]; decide)
  go_wp2_with fail
  refine (KC.out _).mono ?_
  rintro R w' ⟨rfl, rfl⟩
  clear KC
  have KW : Hid (Calls Tryz.prog 36 #[.pointer (some ⟨gd, 0, none⟩), .string (str x8)] w27 fun R w' => ∃ c : Int, R = .returned (.int .i64 c) ∧ Kst w S N g gd kc ko w' (pon 4 (E6 (ktxt (stf 5))))) := Kst.cre K27.out x8 (by rw [cF_len]; decide) s56
  go_wp2_with fail
  refine KW.out.mono ?_
  rintro R w28 ⟨ci28, rfl, h⟩
  have K28 := Lib.hid h
  clear h KW K27
  have KC : Hid (∀ W, Calls Tryz.prog 34 #[.int .u64 5] W fun R w' => R = .returned (.string (str c5)) ∧ Below W.heap.size W w') := fun W => chk_c 5 W (by decide)
  go_wp2_with fail
  refine (KC.out _).mono ?_
  rintro R w29 ⟨rfl, hb⟩
  clear KC
  have K29 := Lib.hid (K28.out.new hb)
  clear hb K28
  have KW : Hid (Calls Tryz.prog 37 #[.pointer (some ⟨gd, 0, none⟩), .string (str c5), .string ⟨#[120]⟩] w29 fun R w' => ∃ c : Int, R = .returned (.int .i64 c) ∧ Kst w S N g gd kc ko w' (pon 4 (E7 (ktxt (stf 5))))) := Kst.app K29.out c5 [120] (by rw [cN_len]; decide) (by decide) (s67 t5_len)
  go_wp2_with fail
  refine KW.out.mono ?_
  rintro R w30 ⟨ci30, rfl, h⟩
  have K30 := Lib.hid h
  clear h KW K29
  clear hsz hcut HXS HXC
  obtain ⟨e8, o8, l8, s8⟩ := wr_E7 K30.out.pw.dk.good
  have hn8 := kwP_n 1000 (stf 8) (pon 4 (E7 (ktxt (stf 5))))
  obtain ⟨p8, hp8⟩ : ∃ p8, p8 = kwP 1000 (stf 8) (pon 4 (E7 (ktxt (stf 5)))) := ⟨_, rfl⟩
  rw [← hp8] at o8 l8 s8 hn8
  have HE8 := Lib.hid (And.intro e8 hp8.symm)
  have HO8 := Lib.hid (And.intro o8 hn8)
  have HL8 := Lib.hid (And.intro l8 s8)
  clear e8 o8 l8 s8 hn8 hp8
  have KW : Hid (Calls Tryz.prog 32 #[.pointer (some ⟨g, 0, none⟩), .int .u64 5, .int .i64 4] w30 fun R w' => R = .returned (.bool true) ∧ Kst w S N g gd kc ko w' (pon 4 (E7 (ktxt (stf 5))))) := Kst.fails HT.out HB.out K30.out 5 4 (by decide) (kl_E7 4).1
  go_wp2_with fail
  refine KW.out.mono ?_
  rintro R w31 ⟨rfl, h⟩
  have K31 := Lib.hid h
  clear h KW K30
  have KW : Hid (Calls Tryz.prog 32 #[.pointer (some ⟨g, 0, none⟩), .int .u64 6, .int .i64 4] w31 fun R w' => R = .returned (.bool true) ∧ Kst w S N g gd kc ko w' (pon 4 (E7 (ktxt (stf 5))))) := Kst.fails HT.out HB.out K31.out 6 4 (by decide) (kl_E7 4).2.1
  go_wp2_with fail
  refine KW.out.mono ?_
  rintro R w32 ⟨rfl, h⟩
  have K32 := Lib.hid h
  clear h KW K31
  have KW : Hid (Calls Tryz.prog 32 #[.pointer (some ⟨g, 0, none⟩), .int .u64 7, .int .i64 10] w32 fun R w' => R = .returned (.bool true) ∧ Kst w S N g gd kc ko w' (pon 4 (E7 (ktxt (stf 5))))) := Kst.fails HT.out HB.out K32.out 7 10 (by decide) (kl_E7 4).2.2
  go_wp2_with fail
  refine KW.out.mono ?_
  rintro R w33 ⟨rfl, h⟩
  have K33 := Lib.hid h
  clear h KW K32
  have KA : Hid (∀ W, Calls Tryz.prog 33 #[.int .u64 8] W fun E w' => E = .returned (sv (stf 8) none 0) ∧ Below W.heap.size W w') := fun W => at18_c 8 W
  go_wp2_with fail
  refine (KA.out _).mono ?_
  rintro R w34 ⟨rfl, hb⟩
  have K34 := Lib.hid (K33.out.new hb)
  clear hb KA K33
  have KW : Hid (Calls Tryz.prog 11 #[.pointer (some ⟨g, 0, none⟩), sv (stf 8) none 0] w34 fun R w' => R = .returned (.int .i64 0) ∧ Kst w S N g gd kc ko w' (p8)) := Kst.write HT.out HB.out K34.out (stf 8) rfl (stf_fit (by decide)) (by decide) (e := 0) HE8.out.1 HE8.out.2
  go_wp2_with fail
  refine KW.out.mono ?_
  rintro R w35 ⟨rfl, h⟩
  have K35 := Lib.hid h
  clear h KW K34
  have KA : Hid (∀ W, Calls Tryz.prog 33 #[.int .u64 8] W fun E w' => E = .returned (sv (stf 8) none 0) ∧ Below W.heap.size W w') := fun W => at18_c 8 W
  go_wp2_with fail
  refine (KA.out _).mono ?_
  rintro R w36 ⟨rfl, hb⟩
  have K36 := Lib.hid (K35.out.new hb)
  clear hb KA K35
  have KW : Hid (Calls Tryz.prog 31 #[.pointer (some ⟨g, 0, none⟩), .int .u64 8, sv (stf 8) none 0] w36 fun R w' => R = .returned (.bool true) ∧ Kst w S N g gd kc ko w' (p8)) := Kst.loads HT.out HB.out K36.out 8 (by decide) HL8.out
  go_wp2_with fail
  refine KW.out.mono ?_
  rintro R w37 ⟨rfl, h⟩
  have K37 := Lib.hid h
  clear h KW K36
  have HOB := Lib.hid (show p8.blow.off = true ∧ p8.blow.n + 5 < 1000000 from ⟨kblow_off HO8.out.1, by rw [kblow_n]; have h1 := HO8.out.2; have h2 : (pon 4 (E7 (ktxt (stf 5)))).n = 4 := rfl; omega⟩)
  obtain ⟨p9, hp9⟩ : ∃ p9, p9 = p8.blow := ⟨_, rfl⟩
  rw [← hp9] at HOB
  have HP9 := Lib.hid hp9
  clear hp9 HE8 HO8 HL8
  have KW : Hid (Calls Tryz.prog 22 #[.pointer (some ⟨g, 0, none⟩)] w37 fun R w' => R = .returned (.tuple #[]) ∧ Kst w S N g gd kc ko w' p9) := (blow_c _ K37.out.pw).mono fun R w' h => ⟨h.1, by rw [HP9.out]; exact K37.out.step h.2.1 h.2.2⟩
  go_wp2_with fail
  refine KW.out.mono ?_
  rintro R w38 ⟨rfl, h⟩
  have K38 := Lib.hid h
  clear h KW K37 HP9
  have LB := Loc.nil (B := w38.heap.size) (w := w38) (Nat.le_refl _)
  have CU := Lib.hid (Cells.made w38 27 #[.int .u64 8])
  have BU := kb_alloc w38 (.cells #[.int .u64 8] 27)
  go_wp2_with fail
  obtain ⟨gu, hgu⟩ : ∃ gu, gu = w38.heap.size := ⟨_, rfl⟩
  rw [← hgu] at CU ⊢
  generalize w38.alloc (.cells #[.int .u64 8] 27) = w39 at *
  have L39 := LB.to BU
  have K39 := Lib.hid (K38.out.new L39.be)
  clear BU LB
  clear hgu
  have KQ : Hid (Calls Tryz.prog 26 #[.pointer (some ⟨g, 0, none⟩), .slice (some ⟨gu, 0, none⟩) 1 1] w39 fun R w' => ∃ ao cap, R = .returned (.tuple #[sv .zero ao cap, .int .i64 0, .int .i64 8]) ∧ Shs w' ao (.zero : St).ss ∧ Below w39.heap.size w39 w') := by
    have := knew_c [8] (some ⟨gu, 0, none⟩) 1 w39 K39.out.pw (us_cells [8] CU.out rfl (by decide)) (by decide) (HT.out.lo K39.out.be) (btab_lo HB.out K39.out.be)
    rw [knw_down (kl_off HOB.out.1).1] at this
    exact this.mono fun R w' ⟨ao, cap, h1, h2, h3, h4, h5⟩ => ⟨ao, cap, h1, h2, h5⟩
  refine KQ.out.mono ?_
  rintro R w40 ⟨ao40, cap40, rfl, hs40, hb⟩
  clear KQ CU
  have L40 := L39.to hb
  have K40 := Lib.hid (K38.out.new L40.be)
  clear hb L39 K39
  clear hs40
  obtain ⟨g41, w41, z41, s41, L41, q41⟩ := L40.newA ty_state #[.int .u64 0, .int .u64 0, .int .i32 0, .int .i32 0, .int .i32 0, .int .i32 0, .int .u8 0, .int .u8 0, .int .u8 0, .int .i32 0, .int .i32 0, .int .i32 0, .int .i32 0, .int .u8 0, .int .u8 0, .int .u8 0, .slice none 0 0, .int .u16 0, .int .u16 0] (stc .zero ao40 cap40) rfl rfl rfl
  replace L41 : Loc _ _ _ [(g41, 34, stc .zero ao40 cap40)] := L41
  have K41 := Lib.hid (K38.out.new L41.be)
  clear L40 q41 K40
  have KW : Hid (Calls Tryz.prog 32 #[.pointer (some ⟨g, 0, none⟩), .int .u64 8, .int .i64 8] w41 fun R w' => R = .returned (.bool true) ∧ Kst w S N g gd kc ko w' (p9)) := Kst.fails HT.out HB.out K41.out 8 8 (by decide) (kl_off HOB.out.1)
  go_wp2_with fail
  refine KW.out.mono ?_
  rintro R w42 ⟨rfl, h⟩
  have K42 := Lib.hid h
  clear h KW K41
  clear s41 z41
  have KW : Hid (∀ W, Calls Tryz.prog 32 #[.pointer none, .int .u64 8, .int .i64 1] W fun R w' => R = .returned (.bool true) ∧ Below W.heap.size W w') := fun W => fails_nil 8 W (by decide)
  go_wp2_with fail
  refine (KW.out _).mono ?_
  rintro R w43 ⟨rfl, hb⟩
  have K43 := Lib.hid (K42.out.new hb)
  clear hb KW K42
  have KA : Hid (∀ W, Calls Tryz.prog 33 #[.int .u64 8] W fun E w' => E = .returned (sv (stf 8) none 0) ∧ Below W.heap.size W w') := fun W => at18_c 8 W
  go_wp2_with fail
  refine (KA.out _).mono ?_
  rintro R w44 ⟨rfl, hb⟩
  have K44 := Lib.hid (K43.out.new hb)
  clear hb KA K43
  have KW : Hid (Calls Tryz.prog 11 #[.pointer none, sv (stf 8) none 0] w44 fun R w' => R = .returned (.int .i64 1) ∧ Below w44.heap.size w44 w') := kwrite_nil (stf 8) none 0 w44 (shs_none _ _) (stf_fit (by decide)) (stf_good 8) (HT.out.lo K44.out.be) (btab_lo HB.out K44.out.be)
  go_wp2_with fail
  refine KW.out.mono ?_
  rintro R w45 ⟨rfl, hb⟩
  have K45 := Lib.hid (K44.out.new hb)
  clear hb KW K44
  have KA : Hid (∀ W, Calls Tryz.prog 33 #[.int .u64 9] W fun E w' => E = .returned (sv (stf 9) none 0) ∧ Below W.heap.size W w') := fun W => at18_c 9 W
  go_wp2_with fail
  refine (KA.out _).mono ?_
  rintro R w46 ⟨rfl, hb⟩
  have K46 := Lib.hid (K45.out.new hb)
  clear hb KA K45
  have KW : Hid (Calls Tryz.prog 11 #[.pointer (some ⟨g, 0, none⟩), sv (stf 9) none 0] w46 fun R w' => R = .returned (.int .i64 8) ∧ Kst w S N g gd kc ko w' (kwP 1000 (stf 9) p9)) := Kst.write HT.out HB.out K46.out (stf 9) rfl (stf_fit (by decide)) HOB.out.2 (e := 8) (off_write (stf_good 9) HOB.out.1) rfl
  go_wp2_with fail
  refine KW.out.mono ?_
  rintro R w47 ⟨rfl, h⟩
  have K47 := Lib.hid h
  clear h KW K46
  go_wp2_with fail
  refine (works18_c _ (HT.out.lo K47.out.be) (btab_lo HB.out K47.out.be)).mono ?_
  rintro R w48 ⟨rfl, hb⟩
  have K48 := Lib.hid (K47.out.new hb)
  clear hb K47
  go_wp2
  go_ret
  exact ⟨rfl, K48.out.be⟩
end Go.Proofs.YtacgmadgkmcmoaaGreatDoor
