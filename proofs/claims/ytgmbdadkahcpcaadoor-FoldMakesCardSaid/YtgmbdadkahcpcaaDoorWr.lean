/- FoldParts: the walk. Nothing is assumed beyond the bounds of the row's own types. -/
import Derived.Test.YtgmbdadkahcpcaaDoorWp
import Derived.Test.YtgmbdadkahcpcaaDoorWm
import Derived.ArgAppend
import Derived.Deep.Upon
namespace Go.Proofs.YtgmbdadkahcpcaaDoor
open Go.RowKit
set_option linter.unusedVariables false
set_option linter.unusedSimpArgs false
set_option maxRecDepth 20000
/-- How many of the pairs may be. -/
def cntL (l : List (Nat × Nat)) : Nat := (l.filter fun p => decide (p.1 < 64) && decide (p.2 < 64)).length
theorem cntL_le (l : List (Nat × Nat)) : cntL l ≤ l.length := List.length_filter_le ..
theorem cntL_next (l : List (Nat × Nat)) (k : Nat) (hk : k < l.length) {i j : Nat} (h : l[k]'hk = (i, j)) : cntL (l.take (k + 1)) = cntL (l.take k) + if i < 64 ∧ j < 64 then 1 else 0 := by
  rw [List.take_succ_eq_append_getElem hk, h]
  unfold cntL
  rw [List.filter_append, List.length_append]
  congr 1
  by_cases h1 : i < 64 <;> by_cases h2 : j < 64 <;> simp [h1, h2]
theorem stps_bad {s : St} (h : s.good = false) (l : List (Nat × Nat)) : stps s l = s := by
  induction l with
  | nil => rfl
  | cons p l ih =>
    have : stp s p.1 p.2 = s := if_neg (by rw [h]; simp)
    show stps (stp s p.1 p.2) l = s
    rw [this]; exact ih
theorem stps_fr : ∀ (l : List (Nat × Nat)) {s : St}, s.good = true → s.fit → s.fr < 18446744073709551616 → (stps s l).fr = (s.fr + cntL l) % 18446744073709551616
  | [], s, h, hf, hr => by show s.fr = (s.fr + 0) % _; omega
  | p :: l, s, h, hf, hr => by
    show (stps (stp s p.1 p.2) l).fr = _
    by_cases hp : p.1 < 64 ∧ p.2 < 64
    · have e : stp s p.1 p.2 = frame src s (inp p.1) (inp p.2) := if_pos ⟨h, hp⟩
      have hr := frame_right src_ok h hf (inp p.1) (inp p.2)
      rw [e, stps_fr l hr.1 hr.2.1 (by rw [hr.2.2.1]; omega), hr.2.2.1]
      have hc : cntL (p :: l) = cntL l + 1 := by unfold cntL; rw [List.filter_cons, if_pos (by simp [hp.1, hp.2])]; rfl
      rw [hc]; omega
    · have e : stp s p.1 p.2 = s := if_neg (fun k => hp k.2)
      have hc : cntL (p :: l) = cntL l := by unfold cntL; rw [List.filter_cons, if_neg (by simp; intro h1; exact Nat.not_lt.1 (fun h2 => hp ⟨h1, h2⟩))]
      rw [e, stps_fr l h hf hr, hc]
/-- a[:len(a):len(a)]. -/
theorem run_slF (ao : Option Addr) (n cap : Nat) (h1 : n ≤ cap) (hp : 0 < n → ∃ b o, ao = some ⟨b, o, none⟩) (w : World) : (slT (.slice ao n cap) none (some (.int .i64 (n : Int))) (some (.int .i64 (n : Int)))).run Tryd.prog w = .ok (.slice ao n n) w := by
  have hC : (Tryd.prog.info? 47).map (·.size) = some 2 := by kernel_rfl
  obtain ⟨i, hi, hs⟩ := Option.map_eq_some_iff.1 hC
  by_cases hn : n = 0
  · subst hn
    simp [slT, Instr.slice, Instr.sliceBounds, Instr.sliceBound, run_underlying Tryd.underlying31, sizeOf, typeInfo, hi, hs, go_sem]
  · obtain ⟨b, o, rfl⟩ := hp (by omega)
    have hadd : (⟨b, o, none⟩ : Addr).add 0 = ⟨b, o, none⟩ := by unfold Addr.add; split <;> simp_all
    simp [slT, Instr.slice, Instr.sliceBounds, Instr.sliceBound, run_underlying Tryd.underlying31, sizeOf, typeInfo, hi, hs, go_sem, h1, hn, hadd]
theorem pis_append {w : World} {r : Nat} {l : List (Nat × Nat)} {n cap : Nat} (hown : w.ownsRow 0 47 2 (.slice (some ⟨r, 0, none⟩) n cap) n (prc l)) (hl : l.length = n) (hf : ∀ p ∈ l, p.1 < 256 ∧ p.2 < 256) : Pis w (some ⟨r, 0, none⟩) l := by
  rcases hown.2 with ⟨hv, h0⟩ | ⟨g, cap', cur, he, _, hh, _, _, _, hxs⟩
  · cases hv
  · injection he with e1 e2 e3
    injection e1 with e1
    injection e1 with e1
    subst e1
    exact pis_cells hh (by rw [hl]; exact hxs) hf
theorem prc_append : ∀ (l m : List (Nat × Nat)), prc (l ++ m) = prc l ++ prc m
  | [], m => rfl
  | p :: l, m => by simp [prc, prc_append l m]
/-- append(a[:n:n], b...): whatever it is, these pairs can be read there. -/
theorem wpList_append_full {w : World} {ops : Array Oper} {rest : List Oper} {o : Oper} {a : Act} {Q : Exit → Act → World → Prop} (hgd : o.guard = none) (s x : Operand)
    (ho : o.op = .call { callee := .builtin .append, args := #[s, x], argTypes := #[31, 31] }) (ao bo : Option Addr) (cb : Nat) (l m : List (Nat × Nat)) (hs : a.eval s = .slice ao l.length l.length) (hx : a.eval x = .slice bo m.length cb)
    (hA : Pis w ao l) (hB : Pis w bo m) (hl : l.length ≤ 1000000) (hm : m.length ≤ 1000000)
    (h : ∀ ao' cap' w' k, k = (l ++ m).length → Pis w' ao' (l ++ m) → Below w.heap.size w w' → wpList Tryd.prog ops Q rest (a.put o.dst (.slice ao' k cap')) w') :
    wpList Tryd.prog ops Q (o :: rest) a w := by
  obtain ⟨i0, hi0, hz0, hz1, hz2⟩ := info_parts info_Pair
  by_cases h0 : m.length = 0
  · obtain rfl := List.eq_nil_of_length_eq_zero h0
    refine wpList_plain hgd fun K hK' => ?_
    have hsrc : Go.Src Tryd.prog i0.size 31 (.slice bo 0 cb) 0 [] w := by
      cases bo with
      | none => exact Go.Src.ofNil w Tryd.underlying31 cb
      | some b => exact Go.Src.ofSlice w Tryd.underlying31 b 0 cb [] (by simp) (by simp) (by simp)
    have hrun := run_append_nothing (P := Tryd.prog) w 31 31 o.type 47 i0 Tryd.underlying31 hi0 ao l.length l.length (Nat.le_refl _) _ hsrc
    have hx' : a.eval x = .slice bo 0 cb := hx
    unfold Oper.wp
    simp [execOp, ho, resolve, invoke, builtin, hs, hx', hrun, Result.andThen]
    exact hK' _ _ (h ao l.length w l.length (by rw [List.append_nil]) (by rw [List.append_nil]; exact hA) (Below.refl _ _))
  · obtain ⟨_, _, b, o', rfl, _⟩ := hB 0 (by omega)
    have pl : ∀ b, ao = some b → ∀ j u, (prc l)[j]? = some u → w.cell? (b.add j) = some u := fun b e j u hu => by
      have h1 := prc_get l j
      rw [hu] at h1
      obtain ⟨p, hp, _⟩ := Option.map_eq_some_iff.1 h1.symm
      obtain ⟨hk, _⟩ := List.getElem?_eq_some_iff.1 hp
      obtain ⟨_, _, b1, o1, e1, _⟩ := hA (j / 2) hk
      rw [e] at e1
      cases e1
      subst e
      exact prc_news hA j u hu
    have hnone : ao = none → l.length = 0 ∧ l.length = 0 := fun e => by
      rcases Nat.eq_zero_or_pos l.length with h1 | h1
      · exact ⟨h1, h1⟩
      · obtain ⟨_, _, b1, o1, e1, _⟩ := hA 0 h1
        rw [e] at e1; cases e1
    refine wpList_append_grows w hgd s x 31 ho 47 i0 (.agg #[.int .u8 0, .int .u8 0]) 2 2 Tryd.underlying31 hi0 hz0 hz1 hz2 rfl (by decide) ao l.length l.length (prc l) hs hnone (prc_len l) pl ⟨b, o', none⟩ m.length cb (prc m) hx (prc_len m) (prc_news hB) (prc_one m) (by omega) (by simp only [maxLen]; omega) (by omega) ?_
    intro v' w' hown hgr
    rw [← prc_append] at hown
    rcases hown.2 with ⟨hv, hz⟩ | ⟨g, cap', cur, he, _, _, _, _, _, _⟩
    · omega
    · subst he
      rw [← List.length_append] at hown
      exact h _ cap' w' _ (by rw [List.length_append]) (pis_append (owns_less hown (Nat.zero_le _)) rfl (fun p hp => by
        rcases List.mem_append.1 hp with hp | hp
        · exact hA.all p hp
        · exact hB.all p hp)) (below_of_grown hgr)
attribute [local go_sem ↓] ld_pair ld_state ld_shots ld_input ld_u64 st_state sl_pairs
set_option maxHeartbeats 4000000 in
theorem law_parts (s : St) (ao : Option Addr) (cap : Nat) (l m : List (Nat × Nat)) (lo mo : Option Addr) (c2 c3 : Nat) (w : World) (hS : Shs w ao s.ss) (hn : ao = none → cap = 0) (hl : s.ss.length ≤ maxLen) (hf : s.fit) (hP : Pis w lo l) (hM : Pis w mo m) (hl2 : l.length ≤ c2) (hlm : c2 ≤ maxLen) (hm2 : m.length ≤ maxLen) (hL : Laid w) :
    Calls Tryd.prog 6 #[sv s ao cap, .slice lo l.length c2, .slice mo m.length c3] w fun E w' => E = .returned (.bool true) ∧ Below w.heap.size w w' := by
  have HS := Lib.hid hS
  have HN := Lib.hid hn
  have HFT := Lib.hid hf
  have HP := Lib.hid hP
  have HM := Lib.hid hM
  have HL := Lib.hid hL
  have HL2 := Lib.hid hl2
  have H0 := Lib.hid (Loc.one w 30 (stc s ao cap))
  clear hS hn hf hP hL hM hl2
  go_enter Tryd.func6, Tryd.ntmps6
  go_upto_region 1 with fail
  generalize w.alloc (.cells (stc s ao cap) 30) = wa at *
  have la := H0.out.ldO ty_shots 0 rfl 16 (v := .slice ao s.ss.length cap) rfl
  by_cases hc1 : 100 < s.ss.length
  · have i1 : (100 : Int) < (s.ss.length : Int) := by omega
    go_wp2_with fail
    refine (awake_c _ (HL.out.to H0.out.be)).mono ?_
    rintro E w1 ⟨rfl, hb1⟩
    go_wp2
    go_ret
    exact ⟨rfl, (H0.out.to hb1).be⟩
  have i1 : ¬ (100 : Int) < (s.ss.length : Int) := by omega
  by_cases hc2 : 100 < l.length
  · have i2 : (100 : Int) < (l.length : Int) := by omega
    go_wp2_with fail
    refine (awake_c _ (HL.out.to H0.out.be)).mono ?_
    rintro E w1 ⟨rfl, hb1⟩
    go_wp2
    go_ret
    exact ⟨rfl, (H0.out.to hb1).be⟩
  have i2 : ¬ (100 : Int) < (l.length : Int) := by omega
  by_cases hc3 : 100 < m.length
  · have i3 : (100 : Int) < (m.length : Int) := by omega
    go_wp2_with fail
    refine (awake_c _ (HL.out.to H0.out.be)).mono ?_
    rintro E w1 ⟨rfl, hb1⟩
    go_wp2
    go_ret
    exact ⟨rfl, (H0.out.to hb1).be⟩
  have i3 : ¬ (100 : Int) < (m.length : Int) := by omega
  have HSL := Lib.hid (show s.ss.length ≤ 1000000 by omega)
  have HLL := Lib.hid (show l.length ≤ 100 ∧ m.length ≤ 100 by omega)
  have sl := run_slF lo l.length c2 HL2.out (fun h0 => by obtain ⟨b, o, _, _, e, _⟩ := HP.out.at 0 h0; exact ⟨b, o, e⟩) wa
  go_upto_region 3 with fail
  clear la i1 i2 i3 hc1 hc2 hc3 hl hlm hm2
  go_upto_region 4 with (at_builtin; refine wpList_append_full rfl _ _ rfl lo mo c3 l m (by simp [Act.eval]) (by simp [Act.eval]) (HP.out.to H0.out.be) (HM.out.to H0.out.be) (by have := HLL.out; omega) (by have := HLL.out; omega) ?_; intro no cap4 w1 k hk hN hb1; obtain ⟨n, hn⟩ : ∃ n, l ++ m = n := ⟨_, rfl⟩; rw [hn] at hk hN; subst hk; have HNN := Lib.hid hn; have HNP := Lib.hid hN; have HB1 := Lib.hid hb1; clear hN hb1 hn)
  clear sl
  have H1 := H0.out.to HB1.out
  have HLN : Hid (n.length ≤ 200) := by show n.length ≤ 200; rw [← HNN.out, List.length_append]; have := HLL.out; omega
  have HAP : Hid (∀ s, stps s n = stps (stps s l) m) := by show ∀ s, _; rw [← HNN.out]; exact fun s => stps_append s l m
  have la := H1.ldA ty_state 0 rfl 0 (vs := stc s ao cap) rfl (Nat.le_of_ble_eq_true rfl)
  have HS1 := Lib.hid (Shs_grown HS.out (grown_of_below (r := none) H1.be) (by simp))
  have CF0 : Hid (Calls Tryd.prog 11 #[sv s ao cap, .slice no n.length cap4] w1 (StPost w1.heap.size w1 (stps s n))) := fold_c s ao cap n no cap4 w1 HS1.out HN.out HSL.out HFT.out HNP.out (Nat.le_trans HLN.out (by decide)) (HL.out.to H1.be)
  obtain ⟨T, hT⟩ : ∃ T, T = stps s n := ⟨_, rfl⟩
  obtain ⟨U, hU⟩ : ∃ U, U = stps s l := ⟨_, rfl⟩
  have HT := Lib.hid hT
  have HU := Lib.hid hU
  have HTU : Hid (T = stps U m) := by show T = _; rw [hT, hU]; exact HAP.out s
  have HTF : Hid (T.fit ∧ T.ss.length ≤ 1000000) := by show _ ∧ _; rw [hT]; exact ⟨stps_fit HFT.out n, stps_len HFT.out (by decide) HSL.out n⟩
  have HUF : Hid (U.fit ∧ U.ss.length ≤ 1000000) := by show _ ∧ _; rw [hU]; exact ⟨stps_fit HFT.out l, stps_len HFT.out (by decide) HSL.out l⟩
  rw [← hT] at CF0
  clear hT hU H0
  go_wp2_with fail
  refine CF0.out.mono ?_
  rintro E w2 ⟨ao2, cap2, rfl, hR2, hb2⟩
  clear la CF0
  have H2 := H1.to hb2
  obtain ⟨g2, w3, z3, s3, H3, q3⟩ := H2.newA ty_state zsc (stc T ao2 cap2) rfl rfl rfl
  replace H3 : Loc _ _ _ [(w.heap.size, 30, stc s ao cap), (g2, 30, stc T ao2 cap2)] := H3
  have HR3 := Lib.hid (hR2.to (below_of_grown q3))
  have HH3 := Lib.hid H3
  have HB3 := Lib.hid ((HB1.out.trans (hb2.mono HB1.out.size)).trans ((below_of_grown q3).mono (Nat.le_trans HB1.out.size hb2.size)))
  have HNP3 := Lib.hid ((HNP.out.to hb2).to (below_of_grown q3))
  clear hR2 hb2 q3 H1 H2 H3 HS1 HNP
  go_upto_region 5 with fail
  clear s3 z3
  have a1 := HH3.out.onA ty_state 1 rfl 0 (vs := stc T ao2 cap2) rfl (Nat.le_of_ble_eq_true rfl)
  have a2 := HH3.out.onA ty_state 0 rfl 0 (vs := stc s ao cap) rfl (Nat.le_of_ble_eq_true rfl)
  have SW : Hid (∀ W, G.On w3.heap.size w3 W → Shs W ao s.ss) := fun W hW => Shs_grown HS.out (grown_of_below (r := none) (HH3.out.to hW).be) (by simp)
  have CF : Hid (∀ W, G.On w3.heap.size w3 W → Calls Tryd.prog 11 #[sv s ao cap, .slice lo l.length c2] W (StPost W.heap.size W U)) := fun W hW => by
    rw [HU.out]; exact fold_c s ao cap l lo c2 W (SW.out W hW) HN.out HSL.out HFT.out (HP.out.to (HH3.out.to hW).be) (Nat.le_trans HLL.out.1 (by decide)) (HL.out.to (HH3.out.to hW).be)
  have CG : Hid (∀ W ao5 cap5, G.On w3.heap.size w3 W → Shr w3.heap.size W [] ao5 U.ss.length cap5 U.ss → Calls Tryd.prog 11 #[sv U ao5 cap5, .slice mo m.length c3] W (StPost W.heap.size W T)) := fun W ao5 cap5 hW hR => by
    rw [HTU.out]; exact fold_c U ao5 cap5 m mo c3 W (hR.shs HUF.out.1.2.2.2.2.1) hR.nil HUF.out.2 HUF.out.1 (HM.out.to (HH3.out.to hW).be) (Nat.le_trans HLL.out.2 (by decide)) (HL.out.to (HH3.out.to hW).be)
  have CE : Hid (∀ W, G.On w3.heap.size w3 W → Calls Tryd.prog 11 #[sv s ao cap, .slice none 0 0] W (StPost W.heap.size W s)) := fun W hW =>
    fold_c s ao cap [] none 0 W (SW.out W hW) HN.out HSL.out HFT.out (Pis.nil _ _) (by decide) (HL.out.to (HH3.out.to hW).be)
  have hs0 := G.On.drew w3.heap.size w3
  generalize hwd : w3.drew = wd at *
  refine wp_region_till (S := fun w' => G.On w3.heap.size w3 w') (by kernel_rfl) ?_
  rw [hwd]
  clear hwd
  refine wpTill_take (i := 0) (v := ?vr0) rfl (by kernel_rfl) (fun _ _ _ h => h) (Or.inl ⟨by rfl, ?hyr0⟩) hs0 ?restr0
  case hyr0 => (intro W hW; (try dsimp only at hW); go_simp; try with_reducible rfl)
  simp only [Act.put, List.setIfInBounds_toArray, List.set_cons_zero, List.set_cons_succ]
  refine wpTill_take (i := 1) (v := ?vr1) rfl (by kernel_rfl) (fun _ _ _ h => h) (Or.inl ⟨by rfl, ?hyr1⟩) hs0 ?restr1
  case hyr1 => (intro W hW; (try dsimp only at hW); go_simp; try with_reducible rfl)
  simp only [Act.put, List.setIfInBounds_toArray, List.set_cons_zero, List.set_cons_succ]
  refine wpTill_take (i := 2) (v := ?vr2) rfl (by kernel_rfl) (fun _ _ _ h => h) (Or.inl ⟨by rfl, ?hyr2⟩) hs0 ?restr2
  case hyr2 => (intro W hW; (try dsimp only at hW); go_simp; try with_reducible rfl)
  simp only [Act.put, List.setIfInBounds_toArray, List.set_cons_zero, List.set_cons_succ]
  refine wpTill_take (i := 4) (v := ?vr4) rfl (by kernel_rfl) (fun _ _ _ h => h) (Or.inl ⟨by rfl, ?hyr4⟩) hs0 ?restr4
  case hyr4 => (intro W hW; (try dsimp only at hW); go_simp; try with_reducible rfl)
  simp only [Act.put, List.setIfInBounds_toArray, List.set_cons_zero, List.set_cons_succ]
  refine wpTill_run (i := 3) (by kernel_rfl) rfl hs0 (fun K hK => ?_)
  go_simp
  go_at_call 11
  refine (CF.out wd hs0).mono ?_
  rintro E w4 ⟨ao4, cap4', rfl, hR4, hb4⟩
  have hs4 := G.on_step hs0 hb4
  have HR4 := Lib.hid (hR4.low hs0.size)
  clear hR4 hb4
  refine hK _ _ ?_
  clear hK K
  refine wpTill_run (i := 5) (by kernel_rfl) rfl hs4 (fun K hK => ?_)
  go_simp
  go_at_call 11
  refine (CG.out w4 ao4 cap4' hs4 HR4.out).mono ?_
  rintro E w5 ⟨ao5, cap5, rfl, hR5, hb5⟩
  have hs5 := G.on_step hs4 hb5
  have HS5 := Lib.hid (hR5.shs HTF.out.1.2.2.2.2.1)
  have HS2 := Lib.hid ((HR3.out.to hs5).shs HTF.out.1.2.2.2.2.1)
  clear hR5 hb5
  refine hK _ _ ?_
  clear hK K
  refine wpTill_run (i := 6) (by kernel_rfl) rfl hs5 (fun K hK => ?_)
  go_simp
  go_at_call 23
  refine (same_self T ao2 ao5 cap2 cap5 w5 HS2.out HS5.out (Nat.le_trans HTF.out.2 (by decide))).mono ?_
  rintro E w6 ⟨rfl, hg6⟩
  have hs6 := G.on_step hs5 (below_of_grown hg6)
  clear hg6
  refine hK _ _ ?_
  clear hK K
  refine wpTill_take (i := 7) (v := ?vr7) rfl (by kernel_rfl) (fun _ _ _ h => h) (Or.inl ⟨by rfl, ?hyr7⟩) hs6 ?restr7
  case hyr7 => (intro W hW; (try dsimp only at hW); go_simp; try with_reducible rfl)
  simp only [Act.put, List.setIfInBounds_toArray, List.set_cons_zero, List.set_cons_succ]
  refine wpTill_take (i := 8) (v := ?vr8) rfl (by kernel_rfl) (fun _ _ _ h => h) (Or.inl ⟨by rfl, ?hyr8⟩) hs6 ?restr8
  case hyr8 => (intro W hW; (try dsimp only at hW); go_simp; try with_reducible rfl)
  simp only [Act.put, List.setIfInBounds_toArray, List.set_cons_zero, List.set_cons_succ]
  refine wpTill_take (i := 9) (v := ?vr9) rfl (by kernel_rfl) (fun _ _ _ h => h) (Or.inl ⟨by rfl, ?hyr9⟩) hs6 ?restr9
  case hyr9 => (intro W hW; (try dsimp only at hW); go_simp; try with_reducible rfl)
  simp only [Act.put, List.setIfInBounds_toArray, List.set_cons_zero, List.set_cons_succ]
  refine wpTill_take (i := 11) (v := ?vr11) rfl (by kernel_rfl) (fun _ _ _ h => h) (Or.inl ⟨by rfl, ?hyr11⟩) hs6 ?restr11
  case hyr11 => (intro W hW; (try dsimp only at hW); go_simp; try with_reducible rfl)
  simp only [Act.put, List.setIfInBounds_toArray, List.set_cons_zero, List.set_cons_succ]
  refine wpTill_run (i := 10) (by kernel_rfl) rfl hs6 (fun K hK => ?_)
  go_simp
  go_at_call 11
  refine (CE.out w6 hs6).mono ?_
  rintro E w7 ⟨ao7, cap7, rfl, hR7, hb7⟩
  have hs7 := G.on_step hs6 hb7
  have HS7 := Lib.hid (hR7.shs HFT.out.2.2.2.2.1)
  clear hR7 hb7
  refine hK _ _ ?_
  clear hK K
  refine wpTill_run (i := 12) (by kernel_rfl) rfl hs7 (fun K hK => ?_)
  go_simp
  go_at_call 23
  refine (same_self s ao7 ao cap7 cap w7 HS7.out (SW.out w7 hs7) (Nat.le_trans HSL.out (by decide))).mono ?_
  rintro E w8 ⟨rfl, hg8⟩
  have hs8 := G.on_step hs7 (below_of_grown hg8)
  clear hg8
  refine hK _ _ ?_
  clear hK K
  refine wpTill_take (i := 13) (v := ?vr13) rfl (by kernel_rfl) (fun _ _ _ h => h) (Or.inl ⟨by rfl, ?hyr13⟩) hs8 ?restr13
  case hyr13 => (intro W hW; (try dsimp only at hW); go_simp; try with_reducible rfl)
  simp only [Act.put, List.setIfInBounds_toArray, List.set_cons_zero, List.set_cons_succ]
  refine wpTill_run (i := 14) (by kernel_rfl) rfl hs8 (fun K hK => ?_)
  go_simp
  refine hK _ _ ?_
  clear hK K
  refine wpTill_done (by kernel_rfl) ?_
  have HNP8 := Lib.hid (HNP3.out.to hs8)
  have HS8 := Lib.hid (SW.out w8 hs8)
  have HT8 := Lib.hid ((HR3.out.to hs8).shs HTF.out.1.2.2.2.2.1)
  have HH8 := Lib.hid (HH3.out.to hs8)
  clear hs0 hs4 hs5 hs6 hs7 hs8 a1 a2 HNP3 HH3 HB3 CF CG CE SW HR3 HR4 HS5 HS2 HS7
  have hnl : n.length ≤ 200 := HLN.out
  go_wp2
  go_loopw [10, 9] (fun v c wr => ∃ k : Nat, k ≤ n.length ∧ v = .int .i64 k ∧ c = .int .i64 ((cntL (n.take k) : Nat) : Int) ∧ w8 = wr) (fun v _ _ => n.length - (intOf v).toNat)
  case atStart => exact ⟨0, by omega, rfl, rfl, rfl⟩
  case round =>
    obtain ⟨k, hk, rfl, rfl, rfl⟩ := hrel
    by_cases hlt : k < n.length
    · have i1 : (k : Int) < (n.length : Int) := by omega
      obtain ⟨h1, h2, b0, o0, rfl, x0, x1⟩ := HNP8.out k hlt
      obtain ⟨⟨p, q⟩, hx⟩ : ∃ z, n[k]'hlt = z := ⟨_, rfl⟩
      rw [hx] at x0 x1
      have l0 := run_ldCell ty_input x0
      have l1 := run_ldCell ty_input x1
      have HX := Lib.hid (cntL_next n k hlt hx)
      have hcl : cntL (n.take k) ≤ 200 := Nat.le_trans (cntL_le _) (by rw [List.length_take]; have := HLN.out; omega)
      have HCL := Lib.hid hcl
      clear x0 x1 h1 h2 hx hcl
      generalize cntL (n.take k) = c at *
      by_cases hp : p < 64
      · have i2 : (p : Int) < 64 := by omega
        by_cases hq : q < 64
        · have i3 : (q : Int) < 64 := by omega
          rw [if_pos ⟨hp, hq⟩] at HX
          have e1 : IntKind.i64.wrap ((c : Int) + 1) = ((c + 1 : Nat) : Int) := IntWalk.i64_in _ (by have := HCL.out; omega)
          clear hp hq
          go_wp2
          go_roundw
          case rel => exact ⟨k + 1, by omega, by go_num, by rw [HX.out]; go_num, trivial⟩
          case measure => simp [intOf]; omega
        · have i3 : ¬ (q : Int) < 64 := by omega
          rw [if_neg (fun h => hq h.2)] at HX
          clear hp hq
          go_wp2
          go_roundw
          case rel => exact ⟨k + 1, by omega, by go_num, by rw [HX.out]; rfl, trivial⟩
          case measure => simp [intOf]; omega
      · have i2 : ¬ (p : Int) < 64 := by omega
        rw [if_neg (fun h => hp h.1)] at HX
        clear hp
        go_wp2
        go_roundw
        case rel => exact ⟨k + 1, by omega, by go_num, by rw [HX.out]; rfl, trivial⟩
        case measure => simp [intOf]; omega
    · obtain rfl : k = n.length := by omega
      have l0 := HH8.out.ldA ty_state 0 rfl 0 (vs := stc s ao cap) rfl (Nat.le_of_ble_eq_true rfl)
      have CC := Lib.hid (check_c s ao cap w8 HS8.out HFT.out (HL.out.to HH8.out.be).t)
      by_cases hg : s.good = true
      · rw [chk_yes hg] at CC
        have HFR := Lib.hid (stps_fr n hg HFT.out HFT.out.1)
        rw [← HT.out] at HFR
        have hcl : cntL n ≤ 200 := Nat.le_trans (cntL_le _) HLN.out
        rw [List.take_length]
        have e1 : IntKind.u64.wrap ((cntL n : Nat) : Int) = ((cntL n : Nat) : Int) := u64_id _ (by omega) (by omega)
        have e2 : IntKind.u64.wrap ((s.fr : Int) + ((cntL n : Nat) : Int)) = (T.fr : Int) := by rw [HFR.out, IntKind.wrap_u64]; omega
        clear hg hcl
        generalize cntL n = c at *
        go_wp2_with fail
        refine CC.out.mono ?_
        rintro E w9 ⟨rfl, hg9⟩
        clear l0 CC
        have H9 := HH8.out.grown hg9
        have m0 := H9.ldO ty_u64 1 rfl 0 (v := .int .u64 (T.fr : Int)) rfl
        have m1 := H9.ldO ty_u64 0 rfl 0 (v := .int .u64 (s.fr : Int)) rfl
        go_wp2_with fail
        refine (awake_c w9 (HL.out.to H9.be)).mono ?_
        rintro E w10 ⟨rfl, hb10⟩
        go_wp2
        go_ret
        exact ⟨rfl, (H9.to hb10).be⟩
      · have hg' : s.good = false := by simpa using hg
        rw [chk_no hg'] at CC
        have HTS : Hid (T = s) := by show _ = _; rw [HT.out]; exact stps_bad hg' n
        clear hg hg'
        go_wp2_with fail
        refine CC.out.mono ?_
        rintro E w9 ⟨rfl, hg9⟩
        clear l0 CC
        have H9 := HH8.out.grown hg9
        have m0 := H9.ldA ty_state 1 rfl 0 (vs := stc T ao2 cap2) rfl (Nat.le_of_ble_eq_true rfl)
        have m1 := H9.ldA ty_state 0 rfl 0 (vs := stc s ao cap) rfl (Nat.le_of_ble_eq_true rfl)
        have CS : Hid (Calls Tryd.prog 23 #[sv T ao2 cap2, sv s ao cap] w9 fun E w' => E = .returned (.bool true) ∧ w9.grownBy w' none) := by
          have h1 := Shs_grown HT8.out hg9 (by simp)
          show Calls _ _ _ _ _
          rw [HTS.out] at h1 ⊢
          exact same_self s ao2 ao cap2 cap w9 h1 (Shs_grown HS8.out hg9 (by simp)) (Nat.le_trans HSL.out (by decide))
        go_wp2_with fail
        refine CS.out.mono ?_
        rintro E w10 ⟨rfl, hg10⟩
        have H10 := H9.grown hg10
        go_wp2_with fail
        refine (awake_c w10 (HL.out.to H10.be)).mono ?_
        rintro E w11 ⟨rfl, hb11⟩
        go_wp2
        go_ret
        exact ⟨rfl, (H10.to hb11).be⟩
end Go.Proofs.YtgmbdadkahcpcaaDoor
