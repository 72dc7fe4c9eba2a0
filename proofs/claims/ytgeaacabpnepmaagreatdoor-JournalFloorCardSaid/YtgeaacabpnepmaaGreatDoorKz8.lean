/- Texts of the walk. -/
import Derived.Test.YtgeaacabpnepmaaGreatDoorKy8
/- The manifest that was written last, as a copy. -/
namespace Go.Proofs.YtgeaacabpnepmaaGreatDoor
open Go.RowKit
set_option linter.unusedVariables false
set_option linter.unusedSimpArgs false
set_option maxRecDepth 20000

def JManPost (m : Mf) (w : World) (R : Ending) (w' : World) : Prop := ∃ so sc co cc, R = .returned (.agg (mcs m so sc co cc)) ∧ MfAt w' m so co ∧ (m.sg.length ≤ sc ∧ sc ≤ maxLen) ∧ (m.ck.length ≤ cc ∧ cc ≤ maxLen) ∧ (∀ x, mbl m so co x → w.heap.size ≤ x) ∧ Below w.heap.size w w' ∧ w'.ownsRow w.heap.size 122 2 (.slice so m.sg.length sc) m.sg.length (Gpl m.sg) ∧ ∀ a, co = some a → (Value.slice so m.sg.length sc).ownBlock ≠ some a.block
theorem ty_nums' : TyO 41 := tyo_of Tryz.underlying41 rfl (by kernel_rfl)
theorem ld_nums' (v : Value) : Instr.loadAt 41 v = ldT 41 v := rfl
theorem st_nums' (p v : Value) : Instr.storeAt 41 p v = stT 41 p v := rfl
theorem ld_parts' (v : Value) : Instr.loadAt 58 v = ldT 58 v := rfl
theorem st_parts' (p v : Value) : Instr.storeAt 58 p v = stT 58 p v := rfl
section
variable {V : Nat → Prop} {w w1 : World} {gj gp q kc : Nat} {dv : Value} {ko : Option Addr} {p : Pw} {j : Jn} {so co ao : Option Addr} {sc cc ac : Nat} {m : Mf}
attribute [local go_sem ↓] ld_man st_man ld_parts' st_parts' ld_nums' st_nums'
set_option maxHeartbeats 4000000 in
theorem jman_c (w : World) (h : JC V w gj gp q dv ko kc p j) : Calls Tryz.prog 24 #[.pointer (some ⟨gj, 0, none⟩)] w (JManPost (jMan j) w) := by
  have HW := Lib.hid (works_c _ (h.new (below_alloc w (.cells (mcs mz none 0 none 0) 60))))
  have H0 := Loc.one w 60 (mcs mz none 0 none 0)
  have HJ := Lib.hid (h.new H0.be)
  clear h
  cases hb : j.br
  case true =>
    rw [show jMan j = mz from if_pos hb]
    rw [hb] at HW
    obtain ⟨w3, s3, H3, _⟩ := H0.stA ty_man 0 rfl 0 (mcs mz none 0 none 0) (cs' := mcs mz none 0 none 0) rfl (L' := [(w.heap.size, 60, mcs mz none 0 none 0)]) rfl (Nat.le_of_ble_eq_true rfl) rfl rfl
    have H3' := Lib.hid H3
    clear H3 H0
    go_enter Tryz.func24, Tryz.ntmps24
    go_upto_region 1 with fail
    replace s3 : (stT 60 (.pointer (some ⟨w.heap.size, 0, none⟩)) (.agg #[.int .u64 0, .int .u8 0, .slice none 0 0, .slice none 0 0])).run Tryz.prog _ = .ok () w3 := s3
    rw [show mcs mz none 0 none 0 = #[.int .u64 0, .int .u8 0, .slice none 0 0, .slice none 0 0] from rfl] at *
    generalize w.alloc (.cells #[.int .u64 0, .int .u8 0, .slice none 0 0, .slice none 0 0] 60) = wa at *
    go_wp2_with fail
    refine HW.out.mono ?_
    rintro R w' ⟨rfl, rfl⟩
    go_wp2
    refine bodyPost_ret (ret_struct Tryz.underlying60 ty_man _ 2 _ Tryz.results24 (H3'.out.get 0 rfl) rfl rfl) rfl ?_
    exact ⟨none, 0, none, 0, rfl, mz_at _, ⟨Nat.le_refl _, Nat.zero_le _⟩, ⟨Nat.le_refl _, Nat.zero_le _⟩, fun x hx => (by rcases hx with ⟨h, _⟩ | ⟨h, _⟩ <;> exact absurd rfl h), H3'.out.be, World.ownsRow_nil _ _ _ _, fun a e => (by cases e)⟩
  case false =>
    rw [show jMan j = j.m from if_neg (by rw [hb]; exact Bool.false_ne_true)]
    rw [hb] at HW
    obtain ⟨S, ao, ac, so, sc, co, cc, hx⟩ := HJ.out
    have HX := Lib.hid hx
    have l1 : (ldT 60 (.pointer (some ⟨gj, 6, none⟩))).run Tryz.prog _ = .ok (.agg (mcs j.m so sc co cc)) _ := (js_of hx.jn.blk).2
    obtain ⟨g3, w3, z3, s3, H3, q3⟩ := H0.newA ty_man (mcs mz none 0 none 0) (mcs j.m so sc co cc) rfl rfl rfl
    have H3' : Hid (Loc w.heap.size w w3 [(w.heap.size, 60, mcs mz none 0 none 0), (g3, 60, mcs j.m so sc co cc)]) := H3
    have HX3 := Lib.hid (hx.new (below_of_grown q3))
    clear H3 H0 hx q3 HX
    go_enter Tryz.func24, Tryz.ntmps24
    go_upto_region 1 with fail
    rw [show mcs mz none 0 none 0 = #[.int .u64 0, .int .u8 0, .slice none 0 0, .slice none 0 0] from rfl] at *
    generalize w.alloc (.cells #[.int .u64 0, .int .u8 0, .slice none 0 0, .slice none 0 0] 60) = wa at *
    go_wp2_with fail
    refine HW.out.mono ?_
    rintro R w' ⟨rfl, rfl⟩
    go_upto_region 4 with fail
    have HLd := Lib.hid (H3'.out.drew)
    have HXd := Lib.hid (HX3.out.new (Below.refl _ w3).drew)
    generalize hwd : w3.drew = wd at *
    have hs0 : (ldT 58 (.pointer (some ⟨g3, 2, none⟩))).run Tryz.prog wd = .ok (.slice so j.m.sg.length sc) wd ∧ (ldT 41 (.pointer (some ⟨g3, 3, none⟩))).run Tryz.prog wd = .ok (.slice co j.m.ck.length cc) wd := ⟨HLd.out.ldO ty_parts 1 rfl 2 rfl, HLd.out.ldO ty_nums' 1 rfl 3 rfl⟩
    refine wp_region_to (K := [1, 2, 4, 5, 7]) (S := fun W => (ldT 58 (.pointer (some ⟨g3, 2, none⟩))).run Tryz.prog W = .ok (.slice so j.m.sg.length sc) W ∧ (ldT 41 (.pointer (some ⟨g3, 3, none⟩))).run Tryz.prog W = .ok (.slice co j.m.ck.length cc) W) (by kernel_rfl) ?_
    rw [hwd]
    clear hwd H3' HX3 s3 z3 l1
    refine wpTo_take (i := 0) (v := ?va0) rfl (by kernel_rfl) (fun _ _ _ h => h) (Or.inl ⟨by rfl, ?hya0⟩) hs0 ?resta0
    case hya0 => (rintro W ⟨hW1, hW2⟩; go_simp; try with_reducible rfl)
    simp only [Act.put, List.setIfInBounds_toArray, List.set_cons_zero, List.set_cons_succ, List.getElem_toArray, List.getElem_cons_succ, List.getElem_cons_zero]
    refine wpTo_take (i := 1) (v := ?va1) rfl (by kernel_rfl) (fun _ _ _ h => h) (Or.inl ⟨by rfl, ?hya1⟩) hs0 ?resta1
    case hya1 => (rintro W ⟨hW1, hW2⟩; go_simp; try with_reducible rfl)
    simp only [Act.put, List.setIfInBounds_toArray, List.set_cons_zero, List.set_cons_succ, List.getElem_toArray, List.getElem_cons_succ, List.getElem_cons_zero]
    refine wpTo_take (i := 3) (v := ?va3) rfl (by kernel_rfl) (fun _ _ _ h => h) (Or.inl ⟨by rfl, ?hya3⟩) hs0 ?resta3
    case hya3 => (rintro W ⟨hW1, hW2⟩; go_simp; try with_reducible rfl)
    simp only [Act.put, List.setIfInBounds_toArray, List.set_cons_zero, List.set_cons_succ, List.getElem_toArray, List.getElem_cons_succ, List.getElem_cons_zero]
    refine wpTo_take (i := 4) (v := ?va4) rfl (by kernel_rfl) (fun _ _ _ h => h) (Or.inl ⟨by rfl, ?hya4⟩) hs0 ?resta4
    case hya4 => (rintro W ⟨hW1, hW2⟩; go_simp; try with_reducible rfl)
    simp only [Act.put, List.setIfInBounds_toArray, List.set_cons_zero, List.set_cons_succ, List.getElem_toArray, List.getElem_cons_succ, List.getElem_cons_zero]
    refine wpTo_run (i := 2) (by kernel_rfl) rfl (fun _ => hs0) (fun K hK => ?_)
    go_simp
    go_at_call 67
    refine (pclone_c so j.m.sg sc wd HXd.out.jn.man.ps (by have := HXd.out.jn.fit.sgl; omega)).mono ?_
    rintro R w4 ⟨so2, sc2, rfl, hps, hnw, hc1, hc2, hb4, hown⟩
    have HPS := Lib.hid (And.intro hps (And.intro hnw (And.intro (And.intro hc1 hc2) hown)))
    have HL4 := Lib.hid (HLd.out.to hb4)
    have HX4 := Lib.hid (HXd.out.new hb4)
    have hs4 : (ldT 58 (.pointer (some ⟨g3, 2, none⟩))).run Tryz.prog w4 = .ok (.slice so j.m.sg.length sc) w4 ∧ (ldT 41 (.pointer (some ⟨g3, 3, none⟩))).run Tryz.prog w4 = .ok (.slice co j.m.ck.length cc) w4 := ⟨HL4.out.ldO ty_parts 1 rfl 2 rfl, HL4.out.ldO ty_nums' 1 rfl 3 rfl⟩
    have HSZ4 := Lib.hid hb4.size
    clear hps hnw hc1 hc2 hb4 hown
    refine hK _ _ ?_
    clear hK K
    refine wpTo_take (i := 6) (v := ?va6) rfl (by kernel_rfl) (fun _ _ _ h => h) (Or.inl ⟨by rfl, ?hya6⟩) hs4 ?resta6
    case hya6 => (rintro W ⟨hW1, hW2⟩; go_simp; try with_reducible rfl)
    simp only [Act.put, List.setIfInBounds_toArray, List.set_cons_zero, List.set_cons_succ, List.getElem_toArray, List.getElem_cons_succ, List.getElem_cons_zero]
    refine wpTo_run (i := 5) (by kernel_rfl) rfl (fun _ => hs4) (fun K hK => ?_)
    go_simp
    go_at_call 68
    refine (nclone_c co j.m.ck cc w4 HX4.out.jn.man.ns (by have := HX4.out.jn.fit.ckl; omega)).mono ?_
    rintro R w5 ⟨co2, cc2, rfl, hns, hnw, hc1, hc2, hb5, hown⟩
    have HNS := Lib.hid (And.intro hns (And.intro hnw (And.intro hc1 hc2)))
    have HL5 := Lib.hid (HL4.out.to hb5)
    have HX5 := Lib.hid (HX4.out.new hb5)
    have hs5 : (ldT 58 (.pointer (some ⟨g3, 2, none⟩))).run Tryz.prog w5 = .ok (.slice so j.m.sg.length sc) w5 ∧ (ldT 41 (.pointer (some ⟨g3, 3, none⟩))).run Tryz.prog w5 = .ok (.slice co j.m.ck.length cc) w5 := ⟨HL5.out.ldO ty_parts 1 rfl 2 rfl, HL5.out.ldO ty_nums' 1 rfl 3 rfl⟩
    have HPS5 := Lib.hid (And.intro (HPS.out.1.to hb5) (HPS.out.2.2.2.kept (grown_of_below (r := none) hb5) (by cases hv : (Value.slice so2 j.m.sg.length sc2).ownBlock <;> simp)))
    have HSZ5 := Lib.hid hb5.size
    clear hns hnw hc1 hc2 hb5 hown
    obtain ⟨w6, s6, H6, q6⟩ := HL5.out.stO ty_parts 1 rfl 2 (.slice so2 j.m.sg.length sc2) (cs' := mcs j.m so2 sc2 co cc) rfl (L' := [(w.heap.size, 60, #[.int .u64 0, .int .u8 0, .slice none 0 0, .slice none 0 0]), (g3, 60, mcs j.m so2 sc2 co cc)]) rfl (Nat.le_of_ble_eq_true rfl) rfl rfl
    obtain ⟨w7, s7, H7, q7⟩ := H6.stO ty_nums' 1 rfl 3 (.slice co2 j.m.ck.length cc2) (cs' := mcs j.m so2 sc2 co2 cc2) rfl (L' := [(w.heap.size, 60, #[.int .u64 0, .int .u8 0, .slice none 0 0, .slice none 0 0]), (g3, 60, mcs j.m so2 sc2 co2 cc2)]) rfl (Nat.le_of_ble_eq_true rfl) rfl rfl
    have HQ6 := Lib.hid q6
    have HQ7 := Lib.hid q7
    have H7' := Lib.hid H7
    clear H6 H7 q6 q7
    refine hK _ _ ?_
    clear hK K
    refine wpTo_run (i := 7) (by kernel_rfl) rfl (fun _ => hs5) (fun K hK => ?_)
    go_simp
    refine hK _ _ ?_
    clear hK K
    refine wpTo_run (i := 8) (by kernel_rfl) rfl (wpTo_off (by kernel_rfl)) (fun K hK => ?_)
    go_simp
    refine hK _ _ ?_
    clear hK K
    refine wpTo_run (i := 9) (by kernel_rfl) rfl (wpTo_off (by kernel_rfl)) (fun K hK => ?_)
    go_simp
    refine hK _ _ ?_
    clear hK K
    refine wpTo_done (by kernel_rfl) (by kernel_rfl) ?_
    clear hs0 hs4 hs5 s6 s7
    have l8 : (ldT 60 (.pointer (some ⟨g3, 0, none⟩))).run Tryz.prog w7 = .ok (.agg (mcs j.m so2 sc2 co2 cc2)) w7 := H7'.out.ldA ty_man 1 rfl 0 rfl (Nat.le_of_ble_eq_true rfl)
    obtain ⟨w8, s8, H8, q8⟩ := H7'.out.stA ty_man 0 rfl 0 (mcs j.m so2 sc2 co2 cc2) (cs' := mcs j.m so2 sc2 co2 cc2) rfl (L' := [(w.heap.size, 60, mcs j.m so2 sc2 co2 cc2), (g3, 60, mcs j.m so2 sc2 co2 cc2)]) rfl (Nat.le_of_ble_eq_true rfl) rfl rfl
    have H8' := Lib.hid H8
    have HQ8 := Lib.hid q8
    have HG : Hid (w.heap.size < wd.heap.size ∧ g3 < wd.heap.size ∧ w.heap.size ≤ wd.heap.size) := ⟨(HLd.out.get 0 rfl : Cells _ _ _ _).lt, (HLd.out.get 1 rfl : Cells _ _ _ _).lt, HLd.out.be.size⟩
    clear H8 q8
    go_wp2
    refine bodyPost_ret (ret_struct Tryz.underlying60 ty_man _ 2 _ Tryz.results24 (H8'.out.get 0 rfl) rfl rfl) rfl ?_
    have hg := HG.out
    have h45 := HSZ4.out
    have h55 := HSZ5.out
    have hso : ∀ a, so2 = some a → wd.heap.size ≤ a.block := fun a e => (HPS.out.2.1 a e).1
    have hco : ∀ a, co2 = some a → w4.heap.size ≤ a.block := fun a e => (HNS.out.2.1 a e).1
    have k6 : Tu (fun x => x = g3) w5 w6 := Tu.of_same HQ6.out
    have k7 : Tu (fun x => x = g3) w6 w7 := Tu.of_same HQ7.out
    have k8 : Tu (fun x => x = w.heap.size) w7 w8 := Tu.of_same HQ8.out
    have kk : Tu (fun x => x = g3 ∨ x = w.heap.size) w5 w8 := ((k6.mono fun _ _ h => .inl h).trans (k7.mono fun _ _ h => .inl h) fun _ _ h => h).trans (k8.mono fun _ _ h => .inr h) fun _ _ h => h
    have hown := HPS5.out.2
    have hownk : (Value.slice so2 j.m.sg.length sc2).ownBlock = none ∨ ∀ r, some r = (Value.slice so2 j.m.sg.length sc2).ownBlock → wd.heap.size ≤ r := .inr fun r e => (HPS.out.2.2.2.lt r e.symm).1
    have hne : ∀ g, g < wd.heap.size → (Value.slice so2 j.m.sg.length sc2).ownBlock ≠ some g := fun g hg e => by
      have := (HPS.out.2.2.2.lt g e).1; omega
    exact ⟨so2, sc2, co2, cc2, rfl, ⟨HXd.out.jn.man.fit, HPS5.out.1.tuS kk fun _ a e => by have := hso a e; omega, HNS.out.1.tuS kk fun _ a e => by have := hco a e; omega, HXd.out.jn.man.l1, HXd.out.jn.man.l2⟩, HPS.out.2.2.1, ⟨HNS.out.2.2.1, HNS.out.2.2.2⟩, fun x hx => by
      rcases hx with ⟨_, a, e, rfl⟩ | ⟨_, a, e, rfl⟩
      · have := hso a e; omega
      · have := hco a e; omega, H8'.out.be, own_low (((hown.kept HQ6.out (.inr (hne _ hg.2.1))).kept HQ7.out (.inr (hne _ hg.2.1))).kept HQ8.out (.inr (hne _ hg.1))) hg.2.2, fun a e h => by
      have h1 := (HPS.out.2.2.2.lt _ h).2
      have h2 := hco a e
      omega⟩
end
end Go.Proofs.YtgeaacabpnepmaaGreatDoor
