/- The text of a state, by the program: one contract. Conditions: the two listed variables lie as they are laid. -/
import Derived.Test.YtacgmadgkmcmoaaGreatDoorJa
import Derived.Test.YtacgmadgkmcmoaaGreatDoorVz
import Derived.StillTailTactics
namespace Go.Proofs.YtacgmadgkmcmoaaGreatDoor
open Go.RowKit
set_option linter.unusedVariables false
set_option linter.unusedSimpArgs false
set_option maxRecDepth 20000
attribute [local go_sem ↓] ld_state ld_u64
theorem kb_alloc (w : World) (o : Obj) : Below w.heap.size w (w.alloc o) := (Below.refl _ w).alloc (Nat.le_refl _) o
theorem Tab.lo {w w' : World} (h : Tab w) (hb : Below w.heap.size w w') : Tab w' := tab_below h hb
theorem kws_be {wA w' : World} {g B : Nat} {bs : List UInt8} (h : WsTo wA g (fun k => k < B) bs w') : Below B wA w' := kept_below h.2
theorem kws_more {w w' : World} {g : Nat} {S T : Nat → Prop} {bs : List UInt8} (h : Ws w g S bs) (k : w.grownBy w' none) (hT : ∀ k, T k → S k ∨ (w.heap.size ≤ k ∧ k < w'.heap.size)) : Ws w' g T bs := ws_more h k hT
def ktS (s : St) : List UInt8 := if s.good then ktxt s else []
def ktE (s : St) : Int := if s.good then 0 else 4
theorem kt_yes {s : St} (h : s.good = true) : ktS s = ktxt s ∧ ktE s = 0 := ⟨if_pos h, if_pos h⟩
theorem kt_no {s : St} (h : s.good = false) : ktS s = [] ∧ ktE s = 4 := ⟨if_neg (by rw [h]; decide), if_neg (by rw [h]; decide)⟩
theorem put_pay {s : St} (h : s.good = true) : putS (kpay s) = ktxt s ∧ putE (kpay s) = 0 := by
  have := kpay_len s h
  unfold putS putE
  rw [if_pos (by omega), if_pos (by omega)]
  exact ⟨rfl, rfl⟩
def KpPost (s : St) (w : World) (R : Ending) (w' : World) : Prop := R = .returned (.tuple #[.string (str (ktS s)), .int .i64 (ktE s)]) ∧ Below w.heap.size w w'
set_option maxHeartbeats 4000000 in
theorem kput_c (s : St) (ao : Option Addr) (cap : Nat) (w : World) (h : Shs w ao s.ss) (hf : s.fit) (ht : Tab w) (hb : BTab w) :
    Calls Tryz.prog 44 #[sv s ao cap] w (KpPost s w) := by
  have H0 := Loc.one w 34 (stc s ao cap)
  obtain ⟨Q, hQ⟩ : ∃ Q, Q = KpPost s w := ⟨_, rfl⟩
  rw [← hQ]
  have HQ := Lib.hid hQ
  have HS := Lib.hid h
  have HT := Lib.hid ht
  have HB := Lib.hid hb
  have HF := Lib.hid hf
  clear hQ ht hb h hf
  have hC := check_c s ao cap (w.alloc (.cells (stc s ao cap) 34)) (Shs_grown HS.out (grown_alloc _ _) (by simp)) HF.out (btab_lo HB.out (kb_alloc w _))
  cases hg : s.good
  · obtain ⟨e1, e2⟩ := kt_no hg
    rw [chk_no hg] at hC
    have HC := Lib.hid hC
    have HE := Lib.hid (And.intro e1 e2)
    clear hg e1 e2 hC
    go_enter Tryz.func44, Tryz.ntmps44
    go_upto_region 1 with fail
    generalize w.alloc (.cells (stc s ao cap) 34) = wa at *
    have l0 := H0.ldA ty_state 0 rfl 0 (vs := stc s ao cap) rfl (Nat.le_of_ble_eq_true rfl)
    go_wp2_with fail
    refine HC.out.mono ?_
    rintro R w1 ⟨rfl, hb1⟩
    go_wp2
    rw [HQ.out]
    unfold KpPost
    rw [HE.out.1, HE.out.2]
    exact ⟨rfl, (H0.grown hb1).be⟩
  · obtain ⟨e1, e2⟩ := kt_yes hg
    have HE := Lib.hid (And.intro e1 e2)
    have HPP := Lib.hid (put_pay hg)
    have HPL := Lib.hid (kpay_len s hg)
    have hsp := sput_yes hg
    rw [chk_yes hg] at hC
    have HC := Lib.hid hC
    have KO := Lib.hid (fun W (hW : Below w.heap.size w W) => of_c s ao cap W (Shs_grown HS.out (grown_of_below (r := none) hW) (by simp)) HF.out (btab_lo HB.out hW))
    have KP := Lib.hid (fun W (hW : Below w.heap.size w W) => put_c s ao cap W (Shs_grown HS.out (grown_of_below (r := none) hW) (by simp)) HF.out (btab_lo HB.out hW))
    rw [hsp] at KO KP
    obtain ⟨dg, hdg⟩ : ∃ dg, dg = djn bas (ste s) := ⟨_, rfl⟩
    have hpd : kpay s = le 8 s.fr ++ le 8 dg ++ ste s := by rw [hdg]; rfl
    have HDL := Lib.hid (show dg < 18446744073709551616 by rw [hdg]; exact djn_lt _ _ (by decide))
    rw [← hdg] at KO
    have HPD := Lib.hid hpd
    obtain ⟨t, hts⟩ : ∃ t, t = ste s := ⟨_, rfl⟩
    rw [← hts] at KP HPD
    have HTL := Lib.hid (show t.length ≤ 500 by rw [hts]; exact ste_le s hg)
    clear hg e1 e2 hC hsp hdg hpd hts
    go_enter Tryz.func44, Tryz.ntmps44
    go_upto_region 1 with fail
    generalize w.alloc (.cells (stc s ao cap) 34) = wa at *
    have l0 := H0.ldA ty_state 0 rfl 0 (vs := stc s ao cap) rfl (Nat.le_of_ble_eq_true rfl)
    go_wp2_with fail
    refine HC.out.mono ?_
    rintro R w1 ⟨rfl, hb1⟩
    have H1 := Lib.hid (H0.grown hb1)
    have hlt := H1.out.low (e := (w.heap.size, 34, stc s ao cap)) (by simp)
    have HLT := Lib.hid hlt
    have WN := Lib.hid (ws_to (ws_new w1 (fun k => k < w1.heap.size) (fun _ h => h)))
    have HWA := Lib.hid (kb_alloc w1 (.cells #[.slice none 0 0] 153))
    clear hb1 l0 H0 HC hlt
    have hLOC := fun W (hW : Below w1.heap.size w1 W) => H1.out.to hW
    have l1 := (hLOC _ HWA.out).ldO ty_u64 0 rfl 0 (v := .int .u64 (s.fr : Int)) rfl
    have HLOC := Lib.hid hLOC
    clear hLOC
    go_upto_region 5 with fail
    generalize w1.alloc (.cells #[.slice none 0 0] 153) = wA at *
    go_wp2_with fail
    refine (wsU64 w1.heap.size s.fr _ [] _ WN.out.1 (by simp) HF.out.1).mono ?_
    rintro E w2 ⟨rfl, hw2⟩
    have W2 := Lib.hid (wsTo_trans WN.out hw2)
    clear hw2 WN l1
    have H2 := HLOC.out w2 (HWA.out.trans (kws_be W2.out))
    have l2 := H2.ldA ty_state 0 rfl 0 (vs := stc s ao cap) rfl (Nat.le_of_ble_eq_true rfl)
    go_wp2_with fail
    refine (KO.out w2 H2.be).mono ?_
    rintro E w3 ⟨rfl, hb3⟩
    have W3 := Lib.hid (show Ws w3 w1.heap.size (fun k => k < w1.heap.size) ([] ++ le 8 s.fr) from kws_more W2.out.1 (grown_of_below (r := none) hb3) (fun k hk => .inl hk))
    have H3 := Lib.hid (HLOC.out w3 ((HWA.out.trans (kws_be W2.out)).trans (hb3.mono (by have := (HWA.out.trans (kws_be W2.out)).size; exact this))))
    have HB3 := Lib.hid ((HWA.out.trans (kws_be W2.out)).trans (hb3.mono (by have := (HWA.out.trans (kws_be W2.out)).size; exact this)))
    clear hb3 l2 H2 W2
    go_wp2_with fail
    refine (wsU64 w1.heap.size dg _ _ _ W3.out (by simp [le_length]) HDL.out).mono ?_
    rintro E w4 ⟨rfl, hw4⟩
    have W4 := Lib.hid hw4
    have HB4 := Lib.hid (HB3.out.trans (kws_be hw4))
    clear hw4 W3 H3
    obtain ⟨X, hX⟩ : ∃ X, X = [] ++ le 8 s.fr ++ le 8 dg := ⟨_, rfl⟩
    rw [← hX] at W4
    have HX := Lib.hid (show X ++ t = kpay s by rw [hX, HPD.out]; rfl)
    have HXL := Lib.hid (show X.length = 16 by rw [hX]; simp [le_length])
    clear hX
    have HXT : Hid (str X ++ str t = str (X ++ t)) := str_append _ _
    have hno : ¬ (9223372036854775807 < (str X).size + (str t).size) := by rw [str_size, str_size, HXL.out]; have := HTL.out; omega
    have a1 := (HLOC.out w4 HB4.out).onA ty_state 0 rfl 0 (vs := stc s ao cap) rfl (Nat.le_of_ble_eq_true rfl)
    have o0 : G.On w4.heap.size w4 w4.drew := (Below.refl _ w4).drew
    have HB5 := Lib.hid ((HLOC.out w4 HB4.out).be)
    clear HLOC HB3 HWA
    go_upto_region 7 with fail
    refine wp_region_till (S := fun W => G.On w4.heap.size w4 W) (by kernel_rfl) ?_
    refine wpTill_take (i := 1) (v := ?vq1) rfl (by kernel_rfl) (fun _ _ _ h => h) (Or.inl ⟨by rfl, ?hq1⟩) o0 ?rq1
    case hq1 => (intro W hW; (try dsimp only at hW); go_simp; try with_reducible rfl)
    simp only [Act.put, List.setIfInBounds_toArray, List.set_cons_zero, List.set_cons_succ, List.getElem_toArray, List.getElem_cons_succ, List.getElem_cons_zero]
    refine wpTill_run (i := 0) (by kernel_rfl) rfl o0 (fun K hK => ?_)
    go_simp
    go_at_call 94
    refine (wsBytes w1.heap.size _ X w4.drew (kws_more W4.out.1 (grown_of_below (r := none) (Below.refl _ w4).drew) (fun k hk => .inl hk))).mono ?_
    rintro E w5 ⟨rfl, rfl⟩
    refine hK _ _ ?_
    clear hK K
    refine wpTill_run (i := 2) (by kernel_rfl) rfl o0 (fun K hK => ?_)
    go_simp
    go_at_call 95
    refine (KP.out w4.drew HB5.out.drew).mono ?_
    rintro E w6 ⟨rfl, hb6⟩
    have o1 := G.on_step (wd := w4) o0 (below_of_grown hb6)
    clear hb6
    refine hK _ _ ?_
    clear hK K
    refine wpTill_take (i := 3) (v := ?vq2) rfl (by kernel_rfl) (fun _ _ _ h => h) (Or.inl ⟨by rfl, ?hq2⟩) o1 ?rq2
    case hq2 => (intro W hW; (try dsimp only at hW); go_simp; try with_reducible rfl)
    simp only [Act.put, List.setIfInBounds_toArray, List.set_cons_zero, List.set_cons_succ, List.getElem_toArray, List.getElem_cons_succ, List.getElem_cons_zero]
    refine wpTill_run (i := 4) (by kernel_rfl) rfl o1 (fun K hK => ?_)
    go_simp
    rw [HXT.out, HX.out]
    go_at_call 93
    refine (fput_c (kpay s) w6 (by have := HPL.out.2; simp only [maxLen]; omega) (HT.out.lo (HB5.out.trans (o1.mono HB5.out.size)))).mono ?_
    rw [HPP.out.1, HPP.out.2]
    rintro E w7 ⟨rfl, hb7⟩
    have o2 := G.on_step (wd := w4) o1 (below_of_grown hb7)
    clear hb7
    refine hK _ _ ?_
    clear hK K
    refine wpTill_take (i := 5) (v := ?vq3) rfl (by kernel_rfl) (fun _ _ _ h => h) (Or.inl ⟨by rfl, ?hq3⟩) o2 ?rq3
    case hq3 => (intro W hW; (try dsimp only at hW); go_simp; try with_reducible rfl)
    simp only [Act.put, List.setIfInBounds_toArray, List.set_cons_zero, List.set_cons_succ, List.getElem_toArray, List.getElem_cons_succ, List.getElem_cons_zero]
    refine wpTill_take (i := 6) (v := ?vq4) rfl (by kernel_rfl) (fun _ _ _ h => h) (Or.inl ⟨by rfl, ?hq4⟩) o2 ?rq4
    case hq4 => (intro W hW; (try dsimp only at hW); go_simp; try with_reducible rfl)
    simp only [Act.put, List.setIfInBounds_toArray, List.set_cons_zero, List.set_cons_succ, List.getElem_toArray, List.getElem_cons_succ, List.getElem_cons_zero]
    refine wpTill_take (i := 7) (v := ?vq5) rfl (by kernel_rfl) (fun _ _ _ h => h) (Or.inl ⟨by rfl, ?hq5⟩) o2 ?rq5
    case hq5 => (intro W hW; (try dsimp only at hW); go_simp; try with_reducible rfl)
    simp only [Act.put, List.setIfInBounds_toArray, List.set_cons_zero, List.set_cons_succ, List.getElem_toArray, List.getElem_cons_succ, List.getElem_cons_zero]
    refine wpTill_run (i := 8) (by kernel_rfl) rfl o2 (fun K hK => ?_)
    go_simp
    refine hK _ _ ?_
    clear hK K
    refine wpTill_done (by kernel_rfl) ?_
    go_wp2
    rw [HQ.out]
    unfold KpPost
    rw [HE.out.1, HE.out.2]
    exact ⟨rfl, HB5.out.trans (o2.mono HB5.out.size)⟩
end Go.Proofs.YtacgmadgkmcmoaaGreatDoor
