/- The document's text, list, Write and Load: one contract each. Nothing is assumed beyond each contract's own bounds. -/
import Derived.Test.YtacgmadgkmcmoaaGreatDoorJd
import Derived.Test.YtacgmadgkmcmoaaGreatDoorJf
import Derived.Test.YtacgmadgkmcmoaaGreatDoorSi
import Derived.Test.YtacgmadgkmcmoaaGreatDoorSx
import Derived.Test.YtacgmadgkmcmoaaGreatDoorPn
namespace Go.Proofs.YtacgmadgkmcmoaaGreatDoor
open Go.RowKit
set_option linter.unusedVariables false
set_option linter.unusedSimpArgs false
set_option maxRecDepth 20000
attribute [local go_sem ↓] ld_state ld_u64 st_state
theorem qn_names {S : Nat → Prop} {w : World} {h gr q kc : Nat} {ko : Option Addr} {p : Pw} (k : QwC S w h gr q ko kc p) : p.names.length ≤ 1000 := by
  obtain ⟨g, ao, cap, _, hk⟩ := k.rk
  have h1 := hk.good.len
  unfold Pw.names
  split
  · simp
  · rw [List.length_map]; omega
theorem qrd_most {S : Nat → Prop} {w : World} {h gr q kc : Nat} {ko : Option Addr} {p : Pw} (k : QwC S w h gr q ko kc p) (n : List UInt8) : (p.rd n).length ≤ 65536 := by
  obtain ⟨g, ao, cap, _, hk⟩ := k.rk
  unfold Pw.rd
  split
  · simp
  · unfold rd
    split
    · split
      · rename_i f hf
        exact hk.good.most f (fndK_some hf).1
      · simp
    · simp
theorem QwC.back {S S' : Nat → Prop} {w w' : World} {h gr q kc : Nat} {ko : Option Addr} {p p' : Pw} (k' : QwC S' w' h gr q ko kc p') (k : QwC S w h gr q ko kc p) (hk : p'.ks = p.ks) (hs : ∀ x, S' x → S x) : QwC S w' h gr q ko kc p' :=
  ⟨k'.blk, k'.ks, k'.kl, fun a e hn => ⟨(k.kf a e (by rw [← hk]; exact hn)).1, (k'.kf a e hn).2⟩, k.ng, k'.rk.mono fun x _ hx => hs x hx⟩
/-- The document's digest. -/
theorem rof_c (s : St) (ao : Option Addr) (cap : Nat) (w : World) (h : Shs w ao s.ss) (hf : s.fit) :
    Calls Tryz.prog 77 #[sv s ao cap] w fun E w' => E = .returned (.int .u64 ((djn bas (sput s) : Nat) : Int)) ∧ Below w.heap.size w w' := by
  have H0 := Lib.hid (Loc.one w 34 (stc s ao cap))
  have HP := Lib.hid (fun W (hW : Below w.heap.size w W) => refPut s ao cap W (shs_to h hW) hf)
  have HL := Lib.hid (sput_max s)
  clear h hf
  go_enter Tryz.func77, Tryz.ntmps77
  go_upto_region 1 with fail
  generalize w.alloc (.cells (stc s ao cap) 34) = wa at *
  have la1 := H0.out.ldA ty_state 0 rfl 0 (vs := stc s ao cap) rfl (Nat.le_of_ble_eq_true rfl)
  go_wp2_with fail
  refine (HP.out _ H0.out.be).mono ?_
  rintro E w1 ⟨rfl, hb1⟩
  have H1 := Lib.hid (H0.out.grown hb1)
  clear hb1 la1
  go_wp2_with fail
  refine (refJoin_c bas (sput s) _ (by decide) HL.out).mono ?_
  rintro E w2 ⟨rfl, rfl⟩
  go_wp2
  go_ret
  exact ⟨rfl, H1.out.be⟩
set_option maxHeartbeats 4000000 in
theorem rtext_c (s : St) (ao : Option Addr) (cap : Nat) (w : World) (h : Shs w ao s.ss) (hf : s.fit) :
    Calls Tryz.prog 58 #[sv s ao cap] w (KpPost s w) := by
  have H0 := Loc.one w 34 (stc s ao cap)
  obtain ⟨Q, hQ⟩ : ∃ Q, Q = KpPost s w := ⟨_, rfl⟩
  rw [← hQ]
  have HQ := Lib.hid hQ
  have HS := Lib.hid h
  have HF := Lib.hid hf
  clear hQ h hf
  have hC := refCheck s ao cap (w.alloc (.cells (stc s ao cap) 34)) (Shs_grown HS.out (grown_alloc _ _) (by simp))
  cases hg : s.good
  · have HE := Lib.hid (kt_no hg)
    rw [chk_no hg] at hC
    have HC := Lib.hid hC
    clear hg hC
    go_enter Tryz.func58, Tryz.ntmps58
    go_upto_region 1 with fail
    generalize w.alloc (.cells (stc s ao cap) 34) = wa at *
    have l0 := H0.ldA ty_state 0 rfl 0 (vs := stc s ao cap) rfl (Nat.le_of_ble_eq_true rfl)
    go_wp2_with fail
    refine HC.out.mono ?_
    rintro R w1 ⟨rfl, hb1⟩
    go_wp2
    rw [HQ.out]
    unfold KpPost
    rw [HE.out.1, HE.out.2]
    exact ⟨rfl, (H0.grown hb1).be⟩
  · have HE := Lib.hid (kt_yes hg)
    have HPP := Lib.hid (put_pay hg)
    have HPL := Lib.hid (kpay_len s hg)
    have hsp := sput_yes hg
    rw [chk_yes hg] at hC
    have HC := Lib.hid hC
    have KO := Lib.hid (fun W (hW : Below w.heap.size w W) => rof_c s ao cap W (shs_to HS.out hW) HF.out)
    have KP := Lib.hid (fun W (hW : Below w.heap.size w W) => refPut s ao cap W (shs_to HS.out hW) HF.out)
    rw [hsp] at KO KP
    obtain ⟨dg, hdg⟩ : ∃ dg, dg = djn bas (ste s) := ⟨_, rfl⟩
    have hpd : kpay s = le 8 s.fr ++ le 8 dg ++ ste s := by rw [hdg]; rfl
    have HDL := Lib.hid (show dg < 18446744073709551616 by rw [hdg]; exact djn_lt _ _ (by decide))
    rw [← hdg] at KO
    have HPD := Lib.hid hpd
    obtain ⟨t, hts⟩ : ∃ t, t = ste s := ⟨_, rfl⟩
    rw [← hts] at KP HPD
    have HTL := Lib.hid (show t.length ≤ 500 by rw [hts]; exact ste_le s hg)
    have N1 := Lib.hid (fun W => refNumber s.fr 8 W HF.out.1 (by decide))
    have N2 := Lib.hid (fun W => refNumber dg 8 W HDL.out (by decide))
    obtain ⟨x1, hx1⟩ : ∃ x, x = le 8 s.fr := ⟨_, rfl⟩
    obtain ⟨x2, hx2⟩ : ∃ x, x = le 8 dg := ⟨_, rfl⟩
    rw [← hx1] at N1 HPD
    rw [← hx2] at N2 HPD
    have XL := Lib.hid (show x1.length = 8 ∧ x2.length = 8 from ⟨by rw [hx1]; exact le_length 8 _, by rw [hx2]; exact le_length 8 _⟩)
    have A1 : Hid (str x1 ++ str x2 = str (x1 ++ x2)) := str_append _ _
    have A2 : Hid (str (x1 ++ x2) ++ str t = str (kpay s)) := by show _ = _; rw [HPD.out]; exact str_append _ _
    have ho1 : ¬ (9223372036854775807 < (str x1).size + (str x2).size) := by rw [str_size, str_size, XL.out.1, XL.out.2]; omega
    have ho2 : ¬ (9223372036854775807 < (str (x1 ++ x2)).size + (str t).size) := by rw [str_size, str_size, List.length_append, XL.out.1, XL.out.2]; have := HTL.out; omega
    clear hg hC hsp hdg hpd hts hx1 hx2
    go_enter Tryz.func58, Tryz.ntmps58
    go_upto_region 1 with fail
    generalize w.alloc (.cells (stc s ao cap) 34) = wa at *
    have l0 := H0.ldA ty_state 0 rfl 0 (vs := stc s ao cap) rfl (Nat.le_of_ble_eq_true rfl)
    go_wp2_with fail
    refine HC.out.mono ?_
    rintro R w1 ⟨rfl, hb1⟩
    have H1 := H0.grown hb1
    have HB1 := Lib.hid H1.be
    have a1 := H1.onA ty_state 0 rfl 0 (vs := stc s ao cap) rfl (Nat.le_of_ble_eq_true rfl)
    have a2 := H1.onO ty_u64 0 rfl 0 (v := .int .u64 (s.fr : Int)) rfl
    have o0 : G.On w1.heap.size w1 w1.drew := (Below.refl _ w1).drew
    clear hb1 l0 H0 HC H1
    go_upto_region 3 with fail
    refine wp_region_till (S := fun W => G.On w1.heap.size w1 W) (by kernel_rfl) ?_
    refine wpTill_take (i := 0) (v := ?vq1) rfl (by kernel_rfl) (fun _ _ _ h => h) (Or.inl ⟨by rfl, ?hq1⟩) o0 ?rq1
    case hq1 => (intro W hW; (try dsimp only at hW); go_simp; try with_reducible rfl)
    simp only [Act.put, List.setIfInBounds_toArray, List.set_cons_zero, List.set_cons_succ, List.getElem_toArray, List.getElem_cons_succ, List.getElem_cons_zero]
    refine wpTill_take (i := 1) (v := ?vq2) rfl (by kernel_rfl) (fun _ _ _ h => h) (Or.inl ⟨by rfl, ?hq2⟩) o0 ?rq2
    case hq2 => (intro W hW; (try dsimp only at hW); go_simp; try with_reducible rfl)
    simp only [Act.put, List.setIfInBounds_toArray, List.set_cons_zero, List.set_cons_succ, List.getElem_toArray, List.getElem_cons_succ, List.getElem_cons_zero]
    refine wpTill_take (i := 3) (v := ?vq3) rfl (by kernel_rfl) (fun _ _ _ h => h) (Or.inl ⟨by rfl, ?hq3⟩) o0 ?rq3
    case hq3 => (intro W hW; (try dsimp only at hW); go_simp; try with_reducible rfl)
    simp only [Act.put, List.setIfInBounds_toArray, List.set_cons_zero, List.set_cons_succ, List.getElem_toArray, List.getElem_cons_succ, List.getElem_cons_zero]
    refine wpTill_take (i := 7) (v := ?vq4) rfl (by kernel_rfl) (fun _ _ _ h => h) (Or.inl ⟨by rfl, ?hq4⟩) o0 ?rq4
    case hq4 => (intro W hW; (try dsimp only at hW); go_simp; try with_reducible rfl)
    simp only [Act.put, List.setIfInBounds_toArray, List.set_cons_zero, List.set_cons_succ, List.getElem_toArray, List.getElem_cons_succ, List.getElem_cons_zero]
    refine wpTill_run (i := 2) (by kernel_rfl) rfl o0 (fun K hK => ?_)
    go_simp
    go_at_call 76
    refine (N1.out _).mono ?_
    rintro E w2 ⟨rfl, hb2⟩
    have o1 := G.on_step (wd := w1) o0 (below_of_grown hb2)
    clear hb2
    refine hK _ _ ?_
    clear hK K
    refine wpTill_run (i := 4) (by kernel_rfl) rfl o1 (fun K hK => ?_)
    go_simp
    go_at_call 77
    refine (KO.out _ (HB1.out.trans (o1.mono HB1.out.size))).mono ?_
    rintro E w3 ⟨rfl, hb3⟩
    have o2 := G.on_step (wd := w1) o1 hb3
    clear hb3
    refine hK _ _ ?_
    clear hK K
    refine wpTill_run (i := 5) (by kernel_rfl) rfl o2 (fun K hK => ?_)
    go_simp
    go_at_call 76
    refine (N2.out _).mono ?_
    rintro E w4 ⟨rfl, hb4⟩
    have o3 := G.on_step (wd := w1) o2 (below_of_grown hb4)
    clear hb4
    refine hK _ _ ?_
    clear hK K
    refine wpTill_take (i := 6) (v := ?vq5) rfl (by kernel_rfl) (fun _ _ _ h => h) (Or.inl ⟨by rfl, ?hq5⟩) o3 ?rq5
    case hq5 => (intro W hW; (try dsimp only at hW); go_simp; try with_reducible rfl)
    simp only [Act.put, List.setIfInBounds_toArray, List.set_cons_zero, List.set_cons_succ, List.getElem_toArray, List.getElem_cons_succ, List.getElem_cons_zero]
    rw [A1.out]
    refine wpTill_run (i := 8) (by kernel_rfl) rfl o3 (fun K hK => ?_)
    go_simp
    go_at_call 107
    refine (KP.out _ (HB1.out.trans (o3.mono HB1.out.size))).mono ?_
    rintro E w5 ⟨rfl, hb5⟩
    have o4 := G.on_step (wd := w1) o3 (below_of_grown hb5)
    clear hb5
    refine hK _ _ ?_
    clear hK K
    refine wpTill_take (i := 9) (v := ?vq6) rfl (by kernel_rfl) (fun _ _ _ h => h) (Or.inl ⟨by rfl, ?hq6⟩) o4 ?rq6
    case hq6 => (intro W hW; (try dsimp only at hW); go_simp; try with_reducible rfl)
    simp only [Act.put, List.setIfInBounds_toArray, List.set_cons_zero, List.set_cons_succ, List.getElem_toArray, List.getElem_cons_succ, List.getElem_cons_zero]
    rw [A2.out]
    refine wpTill_run (i := 10) (by kernel_rfl) rfl o4 (fun K hK => ?_)
    go_simp
    go_at_call 106
    refine (frefPut (kpay s) _ (by have := HPL.out.2; simp only [maxLen]; omega)).mono ?_
    rw [HPP.out.1, HPP.out.2]
    rintro E w6 ⟨rfl, hb6⟩
    have o5 := G.on_step (wd := w1) o4 (below_of_grown hb6)
    clear hb6
    refine hK _ _ ?_
    clear hK K
    refine wpTill_take (i := 11) (v := ?vq7) rfl (by kernel_rfl) (fun _ _ _ h => h) (Or.inl ⟨by rfl, ?hq7⟩) o5 ?rq7
    case hq7 => (intro W hW; (try dsimp only at hW); go_simp; try with_reducible rfl)
    simp only [Act.put, List.setIfInBounds_toArray, List.set_cons_zero, List.set_cons_succ, List.getElem_toArray, List.getElem_cons_succ, List.getElem_cons_zero]
    refine wpTill_take (i := 12) (v := ?vq8) rfl (by kernel_rfl) (fun _ _ _ h => h) (Or.inl ⟨by rfl, ?hq8⟩) o5 ?rq8
    case hq8 => (intro W hW; (try dsimp only at hW); go_simp; try with_reducible rfl)
    simp only [Act.put, List.setIfInBounds_toArray, List.set_cons_zero, List.set_cons_succ, List.getElem_toArray, List.getElem_cons_succ, List.getElem_cons_zero]
    refine wpTill_take (i := 13) (v := ?vq9) rfl (by kernel_rfl) (fun _ _ _ h => h) (Or.inl ⟨by rfl, ?hq9⟩) o5 ?rq9
    case hq9 => (intro W hW; (try dsimp only at hW); go_simp; try with_reducible rfl)
    simp only [Act.put, List.setIfInBounds_toArray, List.set_cons_zero, List.set_cons_succ, List.getElem_toArray, List.getElem_cons_succ, List.getElem_cons_zero]
    refine wpTill_run (i := 14) (by kernel_rfl) rfl o5 (fun K hK => ?_)
    go_simp
    refine hK _ _ ?_
    clear hK K
    refine wpTill_done (by kernel_rfl) ?_
    go_wp2
    rw [HQ.out]
    unfold KpPost
    rw [HE.out.1, HE.out.2]
    exact ⟨rfl, HB1.out.trans (o5.mono HB1.out.size)⟩
set_option maxHeartbeats 1000000 in
theorem rin_c (l : List (List UInt8)) (n : List UInt8) {B : Nat} {v : Value} (w : World) (h : Lst w B v l) (hl : l.length ≤ 1000) :
    Calls Tryz.prog 61 #[v, .string (str n)] w fun R w' => R = .returned (.bool (decide (n ∈ l))) ∧ w = w' := by
  obtain ⟨uo, uc, rfl⟩ := h.sl
  have HA := Lib.hid h
  obtain ⟨Q, hQ⟩ : ∃ Q : Ending → World → Prop, Q = fun R w' => R = .returned (.bool (decide (n ∈ l))) ∧ w = w' := ⟨_, rfl⟩
  rw [← hQ]
  have HQ := Lib.hid hQ
  clear hQ h
  go_enter Tryz.func61, Tryz.ntmps61
  go_wp2
  go_loop [5] (fun i => ∃ k : Nat, k ≤ l.length ∧ i = .int .i64 (k : Int) ∧ Hid (∀ j (hj : j < k) (hl : j < l.length), l[j]'hl ≠ n)) (fun i => l.length - (intOf i).toNat)
  case atStart => exact ⟨0, Nat.zero_le _, rfl, fun j hj => by omega⟩
  case round =>
    obtain ⟨k, hk, rfl, HK⟩ := hrel
    by_cases hlt : k < l.length
    · have hlt1 : (k : Int) < (l.length : Int) := by omega
      obtain ⟨g, cp, e, hc⟩ := HA.out.at hlt
      have e1 : uo = some ⟨g, 0, none⟩ := by injection e
      subst e1
      rw [Nat.zero_add] at hc
      by_cases hx : l[k]'hlt = n
      · have hq1 := str_yes2' n
        rw [hx] at hc
        go_wp2_with fail
        rw [HQ.out]
        exact ⟨by rw [decide_eq_true (hx ▸ List.getElem_mem hlt)], rfl⟩
      · have hq1 := str_no2' hx
        have HX := Lib.hid hx
        go_wp2
        go_round
        case rel =>
          refine ⟨k + 1, by omega, by go_num, fun j hj hl => ?_⟩
          by_cases hjk : j = k
          · subst hjk; exact HX.out
          · exact HK.out j (by omega) hl
        case measure => simp [intOf]; omega
    · have hlt1 : ¬ (k : Int) < (l.length : Int) := by omega
      go_wp2_with fail
      rw [HQ.out]
      refine ⟨?_, rfl⟩
      rw [decide_eq_false fun hm => by
        obtain ⟨j, hj, rfl⟩ := List.getElem_of_mem hm
        exact HK.out j (by omega) hj rfl]
def KvPost (S : Nat → Prop) (w : World) (h gr : Nat) (q : Nat) (ko : Option Addr) (kc : Nat) (s : St) (p : Pw) (R : Ending) (w' : World) : Prop :=
  R = .returned (.int .i64 (kwE q s p : Nat)) ∧ QwC S w' h gr q ko kc (kwP q s p) ∧ Tu (fun x => x = h ∨ S x) w w'
set_option maxHeartbeats 8000000 in
theorem rkwrite_c {S : Nat → Prop} {h gr q : Nat} {kc : Nat} {ko : Option Addr} {p : Pw} (s : St) (ao : Option Addr) (cap : Nat) (w : World) (hk : QwC S w h gr q ko kc p) (hS : ∀ x, w.heap.size ≤ x → S x) (hs : Shs w ao s.ss) (hf : s.fit) (hpn : p.n + 5 < 1000000) :
    Calls Tryz.prog 12 #[.pointer (some ⟨h, 0, none⟩), sv s ao cap] w (KvPost S w h gr q ko kc s p) := by
  have HSH := Lib.hid hs
  have HF := Lib.hid hf
  have HP := Lib.hid hk
  have HS := Lib.hid hS
  have HPN := Lib.hid hpn
  have HEL := Lib.hid (qn_names hk)
  have H0 := Loc.one w 34 (stc s ao cap)
  obtain ⟨Q, hQ⟩ : ∃ Q : Ending → World → Prop, Q = KvPost S w h gr q ko kc s p := ⟨_, rfl⟩
  rw [← hQ]
  have HQ := Lib.hid hQ
  clear hs hf hk hS hpn hQ
  cases hg : s.good
  · have HE := Lib.hid (kt_no hg)
    have HO := Lib.hid (kw_bad (q := q) (p := p) hg)
    clear hg
    go_enter Tryz.func12, Tryz.ntmps12
    go_upto_region 1 with fail
    generalize w.alloc (.cells (stc s ao cap) 34) = wa at *
    have l0 := H0.ldA ty_state 0 rfl 0 (vs := stc s ao cap) rfl (Nat.le_of_ble_eq_true rfl)
    go_wp2_with fail
    refine (rtext_c s ao cap wa (shs_to HSH.out H0.be) HF.out).mono ?_
    rintro E w1 ⟨rfl, hb1⟩
    rw [HE.out.1, HE.out.2]
    have H1 := Lib.hid (H0.to hb1).be
    clear hb1 l0 H0
    go_wp2
    rw [HQ.out]
    unfold KvPost
    rw [HO.out.1, HO.out.2]
    exact ⟨rfl, HP.out.new H1.out, Tu.new H1.out⟩
  have HE := Lib.hid (kt_yes hg)
  have HTL := Lib.hid (ktxt_len s hg)
  have HO1 := Lib.hid (fun h => kw_there (q := q) (p := p) hg h)
  have HO2 := Lib.hid (fun h => kw_go (q := q) (p := p) hg h)
  have KN : Hid (∀ W, Calls Tryz.prog 59 #[.int .u64 (s.fr : Int)] W fun R w' => R = .returned (.string (str (cN s.fr))) ∧ Below W.heap.size W w') := fun W => refChk_c s.fr W HF.out.1
  have HML := Lib.hid (show (cN s.fr).length ≤ maxLen by rw [cN_len]; decide)
  have HNL := Lib.hid (show (cF s.fr).length ≤ maxLen by rw [cF_len]; decide)
  have hap : str (cN s.fr) ++ (⟨#[46, 110, 101, 119]⟩ : ByteArray) = str (cF s.fr) := str_append (cN s.fr) nw
  have h4 : (⟨#[46, 110, 101, 119]⟩ : ByteArray).size = 4 := rfl
  have hno : ¬ (9223372036854775807 < (str (cN s.fr)).size + 4) := by rw [str_size, cN_len]; decide
  obtain ⟨m, hm⟩ : ∃ m, m = cN s.fr := ⟨_, rfl⟩
  obtain ⟨n, hn⟩ : ∃ n, n = cF s.fr := ⟨_, rfl⟩
  obtain ⟨t, ht⟩ : ∃ t, t = ktxt s := ⟨_, rfl⟩
  rw [← hm] at HO1 HO2 KN HML hap hno
  rw [← hn] at HO2 HNL hap
  rw [← ht] at HE HTL HO2
  clear hg hm hn ht
  go_enter Tryz.func12, Tryz.ntmps12
  go_upto_region 1 with fail
  generalize w.alloc (.cells (stc s ao cap) 34) = wa at *
  have l0 := H0.ldA ty_state 0 rfl 0 (vs := stc s ao cap) rfl (Nat.le_of_ble_eq_true rfl)
  go_wp2_with fail
  refine (rtext_c s ao cap wa (shs_to HSH.out H0.be) HF.out).mono ?_
  rintro E w1 ⟨rfl, hb1⟩
  rw [HE.out.1, HE.out.2]
  have H1 := H0.to hb1
  have l1 := H1.ldO ty_u64 0 rfl 0 (v := .int .u64 (s.fr : Int)) rfl
  clear hb1 l0 H0
  go_wp2_with fail
  refine (KN.out _).mono ?_
  rintro E w2 ⟨rfl, hb2⟩
  have HB2 := Lib.hid (H1.to hb2).be
  clear hb2 l1 H1
  go_wp2_with fail
  refine (rplist_c w2 (HP.out.new HB2.out)).mono ?_
  rintro R w3 ⟨u, rfl, hu, hb3⟩
  have HB3 := Lib.hid (HB2.out.trans (hb3.mono HB2.out.size))
  have KC := Lib.hid (rin_c p.names m w3 hu HEL.out)
  have KD := Lib.hid (rin_c p.names n w3 hu HEL.out)
  have Q3 := Lib.hid (HP.out.new HB3.out)
  have HSZ := Lib.hid (show ∀ x, w3.heap.size ≤ x → S x from fun x hx => HS.out x (Nat.le_trans HB3.out.size hx))
  have HTU : Hid (∀ w', Tu (fun x => x = h ∨ S x) w3 w' → Tu (fun x => x = h ∨ S x) w w') := fun w' k => (Tu.new (S := fun x => x = h ∨ S x) HB3.out).trans k (fun _ _ hx => hx)
  clear hu hb3 HB2 HP HS
  by_cases hmm : m ∈ p.names
  · have HO := Lib.hid (HO1.out hmm)
    rw [decide_eq_true hmm] at KC
    clear hmm HO1 HO2 hap hno h4
    go_wp2_with fail
    refine KC.out.mono ?_
    rintro E w' ⟨rfl, rfl⟩
    go_wp2
    rw [HQ.out]
    unfold KvPost
    rw [HO.out.1, HO.out.2]
    exact ⟨rfl, Q3.out, HTU.out _ (Tu.refl _ _)⟩
  have HO := Lib.hid (HO2.out hmm)
  rw [decide_eq_false hmm] at KC
  clear hmm HO1 HO2
  have FIN : Hid (∀ (e : Nat) w' p', kR q n m t 5 0 p = (e, p') → QwC S w' h gr q ko kc p' → Tu (fun x => x = h ∨ S x) w3 w' → Q (.returned (.int .i64 (e : Int))) w') := fun e w' p' he hq ht => by
    rw [HQ.out]
    unfold KvPost
    rw [HO.out.1, HO.out.2, he]
    exact ⟨rfl, hq, HTU.out _ ht⟩
  clear HO HQ HTU
  go_wp2_with fail
  refine KC.out.mono ?_
  rintro E w' ⟨rfl, rfl⟩
  by_cases hnn : n ∈ p.names
  · rw [decide_eq_true hnn] at KD
    have HNN := Lib.hid hnn
    clear KC hnn
    go_wp2_with fail
    refine KD.out.mono ?_
    rintro E w' ⟨rfl, rfl⟩
    clear KD
    obtain ⟨P0, hP⟩ : ∃ x, x = p := ⟨_, rfl⟩
    have HRR : Hid (kR q n m t 5 0 p = kR q n m t 5 0 P0) := by rw [hP]; rfl
    have Q0 : Hid (QwC S w3 h gr q ko kc P0) := by rw [hP]; exact Q3.out
    have T0 : Hid (Tu (fun x => x = h ∨ S x) w3 w3) := Tu.refl _ _
    have N0 : Hid (P0.n ≤ p.n + 0) := by show _ ≤ _; rw [hP]; omega
    rw [← hP] at HNN
    clear hP
    go_wp2_with fail
    refine (rdo4_c n [] _ Q0.out (fun x hx => HSZ.out x (Nat.le_trans T0.out.size hx)) HNL.out (by simp) (by have h1 := N0.out; have h2 := HPN.out; omega)).mono ?_
    rintro R x0 ⟨rfl, hq, htt⟩
    obtain ⟨e1, he⟩ : ∃ e, e = kC q n m t P0 0 := ⟨_, rfl⟩
    obtain ⟨P1, hp⟩ : ∃ x, x = kP q n m t P0 0 := ⟨_, rfl⟩
    have hcd : P0.code (wrR 4 q P0.E n []) = e1 := by rw [he]; simp only [kC]; rw [if_pos HNN.out]; rfl
    have hpd : P0.after (wrE 4 q P0.E n []) = P1 := by rw [hp]; simp only [kP]; rw [if_pos HNN.out]; rfl
    rw [hcd]
    rw [hpd] at hq
    have N1 : Hid (P1.n ≤ p.n + 1) := by
      have h1 := kP_n q n m t P0 0
      have h2 := N0.out
      show _ ≤ _
      rw [hp]; omega
    have Z1 : Hid (e1 ≠ 0 → kR q n m t 5 0 p = (e1, P1)) := fun h => by rw [HRR.out, kR_no (by rw [← he]; exact h), ← he, ← hp]
    have R1 : Hid (e1 = 0 → kR q n m t 5 0 p = kR q n m t 4 1 P1) := fun h => by rw [HRR.out, hp]; exact kR_go (by rw [← he]; exact h)
    have Q1 : Hid (QwC S x0 h gr q ko kc P1) := hq
    have T1 := Lib.hid (T0.out.trans htt (fun _ _ h => h))
    clear hq htt hcd hpd he hp HRR
    by_cases z1 : e1 = 0
    rotate_left
    · have hqq : ((e1 : Int) != 0) = true := by rw [bne_iff_ne]; omega
      have HZZ := Lib.hid (Z1.out z1)
      clear z1
      go_wp2
      exact FIN.out _ _ _ HZZ.out Q1.out T1.out
    have HRR := Lib.hid (R1.out z1)
    have hq1 : ((e1 : Int) != 0) = false := by rw [z1]; rfl
    clear z1 Z1 R1
    go_wp2_with fail
    refine (rdo0_c n [] _ Q1.out (fun x hx => HSZ.out x (Nat.le_trans T1.out.size hx)) HNL.out (by simp) (by have h1 := N1.out; have h2 := HPN.out; omega)).mono ?_
    rintro R x1 ⟨rfl, hq, htt⟩
    obtain ⟨e2, he⟩ : ∃ e, e = kC q n m t P1 1 := ⟨_, rfl⟩
    obtain ⟨P2, hp⟩ : ∃ x, x = kP q n m t P1 1 := ⟨_, rfl⟩
    have hcd : P1.code (wrR 0 q P1.E n []) = e2 := he.symm
    have hpd : P1.after (wrE 0 q P1.E n []) = P2 := hp.symm
    rw [hcd]
    rw [hpd] at hq
    have N2 : Hid (P2.n ≤ p.n + 2) := by
      have h1 := kP_n q n m t P1 1
      have h2 := N1.out
      show _ ≤ _
      rw [hp]; omega
    have Z2 : Hid (e2 ≠ 0 → kR q n m t 5 0 p = (e2, P2)) := fun h => by rw [HRR.out, kR_no (by rw [← he]; exact h), ← he, ← hp]
    have R2 : Hid (e2 = 0 → kR q n m t 5 0 p = kR q n m t 3 2 P2) := fun h => by rw [HRR.out, hp]; exact kR_go (by rw [← he]; exact h)
    have Q2 : Hid (QwC S x1 h gr q ko kc P2) := hq
    have T2 := Lib.hid (T1.out.trans htt (fun _ _ h => h))
    clear hq htt hcd hpd he hp HRR hq1
    by_cases z2 : e2 = 0
    rotate_left
    · have hqq : ((e2 : Int) != 0) = true := by rw [bne_iff_ne]; omega
      have HZZ := Lib.hid (Z2.out z2)
      clear z2
      go_wp2
      exact FIN.out _ _ _ HZZ.out Q2.out T2.out
    have HRR := Lib.hid (R2.out z2)
    have hq2 : ((e2 : Int) != 0) = false := by rw [z2]; rfl
    clear z2 Z2 R2
    go_wp2_with fail
    refine (rdo1_c n t _ Q2.out (fun x hx => HSZ.out x (Nat.le_trans T2.out.size hx)) HNL.out (by have := HTL.out; simp only [maxLen]; omega) (by have h1 := N2.out; have h2 := HPN.out; omega)).mono ?_
    rintro R x2 ⟨rfl, hq, htt⟩
    obtain ⟨e3, he⟩ : ∃ e, e = kC q n m t P2 2 := ⟨_, rfl⟩
    obtain ⟨P3, hp⟩ : ∃ x, x = kP q n m t P2 2 := ⟨_, rfl⟩
    have hcd : P2.code (wrR 1 q P2.E n t) = e3 := he.symm
    have hpd : P2.after (wrE 1 q P2.E n t) = P3 := hp.symm
    rw [hcd]
    rw [hpd] at hq
    have N3 : Hid (P3.n ≤ p.n + 3) := by
      have h1 := kP_n q n m t P2 2
      have h2 := N2.out
      show _ ≤ _
      rw [hp]; omega
    have Z3 : Hid (e3 ≠ 0 → kR q n m t 5 0 p = (e3, P3)) := fun h => by rw [HRR.out, kR_no (by rw [← he]; exact h), ← he, ← hp]
    have R3 : Hid (e3 = 0 → kR q n m t 5 0 p = kR q n m t 2 3 P3) := fun h => by rw [HRR.out, hp]; exact kR_go (by rw [← he]; exact h)
    have Q3 : Hid (QwC S x2 h gr q ko kc P3) := hq
    have T3 := Lib.hid (T2.out.trans htt (fun _ _ h => h))
    clear hq htt hcd hpd he hp HRR hq2
    by_cases z3 : e3 = 0
    rotate_left
    · have hqq : ((e3 : Int) != 0) = true := by rw [bne_iff_ne]; omega
      have HZZ := Lib.hid (Z3.out z3)
      clear z3
      go_wp2
      exact FIN.out _ _ _ HZZ.out Q3.out T3.out
    have HRR := Lib.hid (R3.out z3)
    have hq3 : ((e3 : Int) != 0) = false := by rw [z3]; rfl
    clear z3 Z3 R3
    go_wp2_with fail
    refine (rdo2_c n [] _ Q3.out (fun x hx => HSZ.out x (Nat.le_trans T3.out.size hx)) HNL.out (by simp) (by have h1 := N3.out; have h2 := HPN.out; omega)).mono ?_
    rintro R x3 ⟨rfl, hq, htt⟩
    obtain ⟨e4, he⟩ : ∃ e, e = kC q n m t P3 3 := ⟨_, rfl⟩
    obtain ⟨P4, hp⟩ : ∃ x, x = kP q n m t P3 3 := ⟨_, rfl⟩
    have hcd : P3.code (wrR 2 q P3.E n []) = e4 := he.symm
    have hpd : P3.after (wrE 2 q P3.E n []) = P4 := hp.symm
    rw [hcd]
    rw [hpd] at hq
    have N4 : Hid (P4.n ≤ p.n + 4) := by
      have h1 := kP_n q n m t P3 3
      have h2 := N3.out
      show _ ≤ _
      rw [hp]; omega
    have Z4 : Hid (e4 ≠ 0 → kR q n m t 5 0 p = (e4, P4)) := fun h => by rw [HRR.out, kR_no (by rw [← he]; exact h), ← he, ← hp]
    have R4 : Hid (e4 = 0 → kR q n m t 5 0 p = kR q n m t 1 4 P4) := fun h => by rw [HRR.out, hp]; exact kR_go (by rw [← he]; exact h)
    have Q4 : Hid (QwC S x3 h gr q ko kc P4) := hq
    have T4 := Lib.hid (T3.out.trans htt (fun _ _ h => h))
    clear hq htt hcd hpd he hp HRR hq3
    by_cases z4 : e4 = 0
    rotate_left
    · have hqq : ((e4 : Int) != 0) = true := by rw [bne_iff_ne]; omega
      have HZZ := Lib.hid (Z4.out z4)
      clear z4
      go_wp2
      exact FIN.out _ _ _ HZZ.out Q4.out T4.out
    have HRR := Lib.hid (R4.out z4)
    have hq4 : ((e4 : Int) != 0) = false := by rw [z4]; rfl
    clear z4 Z4 R4
    go_wp2_with fail
    refine (rdo3_c n m _ Q4.out (fun x hx => HSZ.out x (Nat.le_trans T4.out.size hx)) HNL.out HML.out (by have h1 := N4.out; have h2 := HPN.out; omega)).mono ?_
    rintro R x4 ⟨rfl, hq, htt⟩
    obtain ⟨e5, he⟩ : ∃ e, e = kC q n m t P4 4 := ⟨_, rfl⟩
    obtain ⟨P5, hp⟩ : ∃ x, x = kP q n m t P4 4 := ⟨_, rfl⟩
    have hcd : P4.code (wrR 3 q P4.E n m) = e5 := he.symm
    have hpd : P4.after (wrE 3 q P4.E n m) = P5 := hp.symm
    rw [hcd]
    rw [hpd] at hq
    have N5 : Hid (P5.n ≤ p.n + 5) := by
      have h1 := kP_n q n m t P4 4
      have h2 := N4.out
      show _ ≤ _
      rw [hp]; omega
    have Z5 : Hid (e5 ≠ 0 → kR q n m t 5 0 p = (e5, P5)) := fun h => by rw [HRR.out, kR_no (by rw [← he]; exact h), ← he, ← hp]
    have R5 : Hid (e5 = 0 → kR q n m t 5 0 p = (e5, P5)) := fun h => by rw [HRR.out, kR_go (by rw [← he]; exact h), ← hp, h]; rfl
    have Q5 : Hid (QwC S x4 h gr q ko kc P5) := hq
    have T5 := Lib.hid (T4.out.trans htt (fun _ _ h => h))
    clear hq htt hcd hpd he hp HRR hq4
    clear hap hno h4
    go_wp2
    have HZZ : Hid (kR q n m t 5 0 p = (e5, P5)) := by
      by_cases z : e5 = 0
      · exact R5.out z
      · exact Z5.out z
    exact FIN.out _ _ _ HZZ.out Q5.out T5.out
  · rw [decide_eq_false hnn] at KD
    have HRR : Hid (kR q n m t 5 0 p = kR q n m t 4 1 p) := by
      have e1 : kC q n m t p 0 = 0 := by simp only [kC]; exact if_neg hnn
      have e2 : kP q n m t p 0 = p := by simp only [kP]; exact if_neg hnn
      show _ = _
      rw [kR_go e1, e2]
    clear KC hnn
    go_wp2_with fail
    refine KD.out.mono ?_
    rintro E w' ⟨rfl, rfl⟩
    clear KD
    obtain ⟨P1, hP⟩ : ∃ x, x = p := ⟨_, rfl⟩
    have HRR : Hid (kR q n m t 5 0 p = kR q n m t 4 1 P1) := by rw [hP]; exact HRR.out
    have Q1 : Hid (QwC S w3 h gr q ko kc P1) := by rw [hP]; exact Q3.out
    have T1 : Hid (Tu (fun x => x = h ∨ S x) w3 w3) := Tu.refl _ _
    have N1 : Hid (P1.n ≤ p.n + 1) := by show _ ≤ _; rw [hP]; omega
    clear hP
    go_wp2_with fail
    refine (rdo0_c n [] _ Q1.out (fun x hx => HSZ.out x (Nat.le_trans T1.out.size hx)) HNL.out (by simp) (by have h1 := N1.out; have h2 := HPN.out; omega)).mono ?_
    rintro R x1 ⟨rfl, hq, htt⟩
    obtain ⟨e2, he⟩ : ∃ e, e = kC q n m t P1 1 := ⟨_, rfl⟩
    obtain ⟨P2, hp⟩ : ∃ x, x = kP q n m t P1 1 := ⟨_, rfl⟩
    have hcd : P1.code (wrR 0 q P1.E n []) = e2 := he.symm
    have hpd : P1.after (wrE 0 q P1.E n []) = P2 := hp.symm
    rw [hcd]
    rw [hpd] at hq
    have N2 : Hid (P2.n ≤ p.n + 2) := by
      have h1 := kP_n q n m t P1 1
      have h2 := N1.out
      show _ ≤ _
      rw [hp]; omega
    have Z2 : Hid (e2 ≠ 0 → kR q n m t 5 0 p = (e2, P2)) := fun h => by rw [HRR.out, kR_no (by rw [← he]; exact h), ← he, ← hp]
    have R2 : Hid (e2 = 0 → kR q n m t 5 0 p = kR q n m t 3 2 P2) := fun h => by rw [HRR.out, hp]; exact kR_go (by rw [← he]; exact h)
    have Q2 : Hid (QwC S x1 h gr q ko kc P2) := hq
    have T2 := Lib.hid (T1.out.trans htt (fun _ _ h => h))
    clear hq htt hcd hpd he hp HRR
    by_cases z2 : e2 = 0
    rotate_left
    · have hqq : ((e2 : Int) != 0) = true := by rw [bne_iff_ne]; omega
      have HZZ := Lib.hid (Z2.out z2)
      clear z2
      go_wp2
      exact FIN.out _ _ _ HZZ.out Q2.out T2.out
    have HRR := Lib.hid (R2.out z2)
    have hq2 : ((e2 : Int) != 0) = false := by rw [z2]; rfl
    clear z2 Z2 R2
    go_wp2_with fail
    refine (rdo1_c n t _ Q2.out (fun x hx => HSZ.out x (Nat.le_trans T2.out.size hx)) HNL.out (by have := HTL.out; simp only [maxLen]; omega) (by have h1 := N2.out; have h2 := HPN.out; omega)).mono ?_
    rintro R x2 ⟨rfl, hq, htt⟩
    obtain ⟨e3, he⟩ : ∃ e, e = kC q n m t P2 2 := ⟨_, rfl⟩
    obtain ⟨P3, hp⟩ : ∃ x, x = kP q n m t P2 2 := ⟨_, rfl⟩
    have hcd : P2.code (wrR 1 q P2.E n t) = e3 := he.symm
    have hpd : P2.after (wrE 1 q P2.E n t) = P3 := hp.symm
    rw [hcd]
    rw [hpd] at hq
    have N3 : Hid (P3.n ≤ p.n + 3) := by
      have h1 := kP_n q n m t P2 2
      have h2 := N2.out
      show _ ≤ _
      rw [hp]; omega
    have Z3 : Hid (e3 ≠ 0 → kR q n m t 5 0 p = (e3, P3)) := fun h => by rw [HRR.out, kR_no (by rw [← he]; exact h), ← he, ← hp]
    have R3 : Hid (e3 = 0 → kR q n m t 5 0 p = kR q n m t 2 3 P3) := fun h => by rw [HRR.out, hp]; exact kR_go (by rw [← he]; exact h)
    have Q3 : Hid (QwC S x2 h gr q ko kc P3) := hq
    have T3 := Lib.hid (T2.out.trans htt (fun _ _ h => h))
    clear hq htt hcd hpd he hp HRR hq2
    by_cases z3 : e3 = 0
    rotate_left
    · have hqq : ((e3 : Int) != 0) = true := by rw [bne_iff_ne]; omega
      have HZZ := Lib.hid (Z3.out z3)
      clear z3
      go_wp2
      exact FIN.out _ _ _ HZZ.out Q3.out T3.out
    have HRR := Lib.hid (R3.out z3)
    have hq3 : ((e3 : Int) != 0) = false := by rw [z3]; rfl
    clear z3 Z3 R3
    go_wp2_with fail
    refine (rdo2_c n [] _ Q3.out (fun x hx => HSZ.out x (Nat.le_trans T3.out.size hx)) HNL.out (by simp) (by have h1 := N3.out; have h2 := HPN.out; omega)).mono ?_
    rintro R x3 ⟨rfl, hq, htt⟩
    obtain ⟨e4, he⟩ : ∃ e, e = kC q n m t P3 3 := ⟨_, rfl⟩
    obtain ⟨P4, hp⟩ : ∃ x, x = kP q n m t P3 3 := ⟨_, rfl⟩
    have hcd : P3.code (wrR 2 q P3.E n []) = e4 := he.symm
    have hpd : P3.after (wrE 2 q P3.E n []) = P4 := hp.symm
    rw [hcd]
    rw [hpd] at hq
    have N4 : Hid (P4.n ≤ p.n + 4) := by
      have h1 := kP_n q n m t P3 3
      have h2 := N3.out
      show _ ≤ _
      rw [hp]; omega
    have Z4 : Hid (e4 ≠ 0 → kR q n m t 5 0 p = (e4, P4)) := fun h => by rw [HRR.out, kR_no (by rw [← he]; exact h), ← he, ← hp]
    have R4 : Hid (e4 = 0 → kR q n m t 5 0 p = kR q n m t 1 4 P4) := fun h => by rw [HRR.out, hp]; exact kR_go (by rw [← he]; exact h)
    have Q4 : Hid (QwC S x3 h gr q ko kc P4) := hq
    have T4 := Lib.hid (T3.out.trans htt (fun _ _ h => h))
    clear hq htt hcd hpd he hp HRR hq3
    by_cases z4 : e4 = 0
    rotate_left
    · have hqq : ((e4 : Int) != 0) = true := by rw [bne_iff_ne]; omega
      have HZZ := Lib.hid (Z4.out z4)
      clear z4
      go_wp2
      exact FIN.out _ _ _ HZZ.out Q4.out T4.out
    have HRR := Lib.hid (R4.out z4)
    have hq4 : ((e4 : Int) != 0) = false := by rw [z4]; rfl
    clear z4 Z4 R4
    go_wp2_with fail
    refine (rdo3_c n m _ Q4.out (fun x hx => HSZ.out x (Nat.le_trans T4.out.size hx)) HNL.out HML.out (by have h1 := N4.out; have h2 := HPN.out; omega)).mono ?_
    rintro R x4 ⟨rfl, hq, htt⟩
    obtain ⟨e5, he⟩ : ∃ e, e = kC q n m t P4 4 := ⟨_, rfl⟩
    obtain ⟨P5, hp⟩ : ∃ x, x = kP q n m t P4 4 := ⟨_, rfl⟩
    have hcd : P4.code (wrR 3 q P4.E n m) = e5 := he.symm
    have hpd : P4.after (wrE 3 q P4.E n m) = P5 := hp.symm
    rw [hcd]
    rw [hpd] at hq
    have N5 : Hid (P5.n ≤ p.n + 5) := by
      have h1 := kP_n q n m t P4 4
      have h2 := N4.out
      show _ ≤ _
      rw [hp]; omega
    have Z5 : Hid (e5 ≠ 0 → kR q n m t 5 0 p = (e5, P5)) := fun h => by rw [HRR.out, kR_no (by rw [← he]; exact h), ← he, ← hp]
    have R5 : Hid (e5 = 0 → kR q n m t 5 0 p = (e5, P5)) := fun h => by rw [HRR.out, kR_go (by rw [← he]; exact h), ← hp, h]; rfl
    have Q5 : Hid (QwC S x4 h gr q ko kc P5) := hq
    have T5 := Lib.hid (T4.out.trans htt (fun _ _ h => h))
    clear hq htt hcd hpd he hp HRR hq4
    clear hap hno h4
    go_wp2
    have HZZ : Hid (kR q n m t 5 0 p = (e5, P5)) := by
      by_cases z : e5 = 0
      · exact R5.out z
      · exact Z5.out z
    exact FIN.out _ _ _ HZZ.out Q5.out T5.out
end Go.Proofs.YtacgmadgkmcmoaaGreatDoor
