/- The document's Load and Swap: one contract each. -/
import Derived.Test.YtakejacamkdncaaGreatDoorZq
import Derived.Test.YtakejacamkdncaaGreatDoorMr
import Derived.Test.YtakejacamkdncaaGreatDoorPn
namespace Go.Proofs.YtakejacamkdncaaGreatDoor
open Go.RowKit
set_option linter.unusedVariables false
set_option linter.unusedSimpArgs false
set_option maxRecDepth 20000
attribute [local go_sem ↓] ld_rman st_rman
theorem qrd_most {S : Nat → Prop} {w : World} {h gr q kc : Nat} {ko : Option Addr} {p : Pw} (k : QwC S w h gr q ko kc p) (n : List UInt8) : (p.rd n).length ≤ 65536 := by
  obtain ⟨g, ao, cap, _, hk⟩ := k.rk
  unfold Pw.rd
  split
  · simp
  · exact rd_most hk.good n
theorem qn_names {S : Nat → Prop} {w : World} {h gr q kc : Nat} {ko : Option Addr} {p : Pw} (k : QwC S w h gr q ko kc p) : p.names.length ≤ 1000 ∧ p.names.Nodup := by
  obtain ⟨g, ao, cap, _, hk⟩ := k.rk
  have h1 := hk.good.len
  have h2 := hk.good.srt
  unfold Pw.names
  split
  · simp
  · refine ⟨by rw [List.length_map]; omega, ?_⟩
    have h3 := List.Pairwise.map (S := fun a b => a < b) Ent.nm (fun a b h => h) h2
    exact h3.imp fun h => nm_lt_ne h
set_option maxHeartbeats 4000000 in
theorem rload_c {S : Nat → Prop} {h gr q : Nat} {kc : Nat} {ko : Option Addr} {p : Pw} (w : World) (k : QwC S w h gr q ko kc p) :
    Calls Tryz.prog 16 #[.pointer (some ⟨h, 0, none⟩)] w (ManPost w (ldM p) (ldC p)) := by
  have H0 := Loc.one w 48 (mcs mz none 0 none 0)
  have HP := Lib.hid k
  have HL := Lib.hid (qrd_most k nM)
  have HM : Hid (ldM p = if p.rdc nM = 0 then tkM (p.rd nM) else mz) := rfl
  have HC : Hid (ldC p = if p.rdc nM = 0 then tkE (p.rd nM) else (p.rdc nM : Nat)) := rfl
  have KR : Hid (∀ W, QwC S W h gr q ko kc p → Calls Tryz.prog 42 #[.pointer (some ⟨h, 0, none⟩), .string (str nM)] W fun R w' => R = .returned (.tuple #[.string (str (p.rd nM)), .int .i64 (p.rdc nM : Nat)]) ∧ W = w') := fun W hW => rpread_c nM W hW (by decide)
  obtain ⟨Q, hQ⟩ : ∃ Q, Q = ManPost w (ldM p) (ldC p) := ⟨_, rfl⟩
  rw [← hQ]
  have HQ := Lib.hid hQ
  obtain ⟨s, hs⟩ : ∃ s, s = p.rd nM := ⟨_, rfl⟩
  obtain ⟨c, hc⟩ : ∃ c, c = p.rdc nM := ⟨_, rfl⟩
  rw [← hs] at HL HM HC KR
  rw [← hc] at HM HC KR
  clear hQ hs hc k
  go_enter Tryz.func16, Tryz.ntmps16
  go_upto_region 1 with fail
  rw [show (#[.int .u64 0, .int .u8 0, .slice none 0 0, .slice none 0 0] : Array Value) = mcs mz none 0 none 0 from rfl]
  generalize w.alloc (.cells (mcs mz none 0 none 0) 48) = wa at *
  go_wp2_with fail
  refine (KR.out wa (HP.out.new H0.be)).mono ?_
  rintro R w1 ⟨rfl, rfl⟩
  have H1 := H0
  clear H0
  by_cases h0 : c = 0
  · have hM := HM.out
    have hC := HC.out
    rw [if_pos h0] at hM hC
    have HMC := Lib.hid (And.intro hM hC)
    clear hM hC HM HC
    subst h0
    go_wp2_with fail
    refine (rtake_c s wa (by have := HL.out; omega)).mono ?_
    rintro R w2 ⟨so, sc, co, cc, rfl, hm2, hb2, hn1, hn2, hn3⟩
    have H2 := H1.to hb2
    obtain ⟨w3, s3, H3, q3⟩ := H2.stA ty_rman 0 rfl 0 (mcs (tkM s) so sc co cc) (cs' := mcs (tkM s) so sc co cc) rfl (L' := [(w.heap.size, 48, mcs (tkM s) so sc co cc)]) rfl (Nat.le_of_ble_eq_true rfl) rfl rfl
    have hlt := H1.low (e := (w.heap.size, 48, mcs mz none 0 none 0)) (by simp)
    dsimp only at hlt
    have h9 : Hid (Q (.returned (.tuple #[.agg (mcs (tkM s) so sc co cc), .int .i64 (tkE s)])) w3) := by
      show Q _ _
      rw [HQ.out, HMC.out.1, HMC.out.2]
      exact ⟨so, sc, co, cc, rfl, ⟨hm2.fit, ps_off hm2.ps q3 (fun _ a e => by have := hn1 a e; omega), ns_off hm2.ns q3 (fun _ a e => by have := hn2 a e; omega), hm2.l1, hm2.l2⟩, H3.be, fun a e => by have := hn1 a e; omega, fun a e => by have := hn2 a e; omega, hn3⟩
    obtain ⟨e, he⟩ : ∃ e, e = tkE s := ⟨_, rfl⟩
    rw [← he] at h9 ⊢
    clear he hm2 hb2 hn1 hn2 hn3 hlt q3 H1 H2 HMC
    go_wp2
    refine bodyPost_ret (shut_man _ e _ Tryz.results16 ty_rman (H3.get 0 rfl) rfl rfl rfl) rfl ?_
    exact h9.out
  · have hM := HM.out
    have hC := HC.out
    rw [if_neg h0] at hM hC
    have HMC := Lib.hid (And.intro hM hC)
    have hq : ((c : Int) != 0) = true := by rw [bne_iff_ne]; omega
    clear hM hC HM HC h0
    obtain ⟨w3, s3, H3, _⟩ := H1.stA ty_rman 0 rfl 0 #[.int .u64 0, .int .u8 0, .slice none 0 0, .slice none 0 0] (cs' := mcs mz none 0 none 0) rfl (L' := [(w.heap.size, 48, mcs mz none 0 none 0)]) rfl (Nat.le_of_ble_eq_true rfl) rfl rfl
    go_wp2
    refine bodyPost_ret (shut_man _ (c : Int) _ Tryz.results16 ty_rman (H3.get 0 rfl) rfl rfl rfl) rfl ?_
    rw [HQ.out, HMC.out.1, HMC.out.2]
    exact man_none H3.be _
theorem nN_yes : ((str nN).toList == [109, 97, 110, 105, 102, 101, 115, 116, 46, 110, 101, 119]) = true := by rw [str_toList]; rfl
theorem nN_no {a : List UInt8} (h : a ≠ nN) : ((str a).toList == [109, 97, 110, 105, 102, 101, 115, 116, 46, 110, 101, 119]) = false := by rw [str_toList]; exact beq_eq_false_iff_ne.2 h
theorem QwC.back {S S' : Nat → Prop} {w w' : World} {h gr q kc : Nat} {ko : Option Addr} {p p' : Pw} (k' : QwC S' w' h gr q ko kc p') (k : QwC S w h gr q ko kc p) (hk : p'.ks = p.ks) (hs : ∀ x, S' x → S x) : QwC S w' h gr q ko kc p' :=
  ⟨k'.blk, k'.ks, k'.kl, fun a e hn => ⟨(k.kf a e (by rw [← hk]; exact hn)).1, (k'.kf a e hn).2⟩, k.ng, k'.rk.mono fun x _ hx => hs x hx⟩
def RwPost (S : Nat → Prop) (w : World) (h gr : Nat) (q : Nat) (ko : Option Addr) (kc : Nat) (m : Mf) (p : Pw) (R : Ending) (w' : World) : Prop :=
  R = .returned (.int .i64 (swE q m p : Nat)) ∧ QwC S w' h gr q ko kc (swP q m p) ∧ Tu (fun x => x = h ∨ S x) w w'
set_option maxHeartbeats 8000000 in
theorem rswap_c {S : Nat → Prop} {h gr q : Nat} {kc : Nat} {ko : Option Addr} {p : Pw} (m : Mf) (so : Option Addr) (sc : Nat) (co : Option Addr) (cc : Nat) (w : World) (hk : QwC S w h gr q ko kc p) (hS : ∀ x, w.heap.size ≤ x → S x) (hm : MfAt w m so co) (hpn : p.n + 5 < 1000000) :
    Calls Tryz.prog 12 #[.pointer (some ⟨h, 0, none⟩), .agg (mcs m so sc co cc)] w (RwPost S w h gr q ko kc m p) := by
  have HM := Lib.hid hm
  have HP := Lib.hid hk
  have HS := Lib.hid hS
  have HPN := Lib.hid hpn
  have HEL := Lib.hid (qn_names hk)
  have H0 := Loc.one w 48 (mcs m so sc co cc)
  obtain ⟨Q, hQ⟩ : ∃ Q : Ending → World → Prop, Q = RwPost S w h gr q ko kc m p := ⟨_, rfl⟩
  rw [← hQ]
  have HQ := Lib.hid hQ
  clear hm hk hS hpn hQ
  cases hok : m.ok
  · have HE := Lib.hid (pt_no hok)
    have HO := Lib.hid (sw_no (q := q) (p := p) hok)
    clear hok
    go_enter Tryz.func12, Tryz.ntmps12
    go_upto_region 1 with fail
    generalize w.alloc (.cells (mcs m so sc co cc) 48) = wa at *
    have l0 := H0.ldA ty_rman 0 rfl 0 (vs := mcs m so sc co cc) rfl (Nat.le_of_ble_eq_true rfl)
    go_wp2_with fail
    refine (rput_c m so sc co cc wa (HM.out.to H0.be)).mono ?_
    rintro E w1 ⟨rfl, hb1⟩
    rw [HE.out.1, HE.out.2]
    have H1 := Lib.hid (H0.to hb1).be
    clear hb1 l0 H0
    go_wp2
    rw [HQ.out]
    unfold RwPost
    rw [HO.out.1, HO.out.2]
    exact ⟨rfl, HP.out.new H1.out, Tu.new H1.out⟩
  have HE := Lib.hid (pt_yes hok)
  have HO := Lib.hid (sw_yes (q := q) (p := p) hok)
  have HLN := Lib.hid (enc_len hok)
  clear hok
  obtain ⟨t, ht⟩ : ∃ t, t = enc m := ⟨_, rfl⟩
  rw [← ht] at HE HO HLN
  clear ht
  go_enter Tryz.func12, Tryz.ntmps12
  go_upto_region 1 with fail
  generalize w.alloc (.cells (mcs m so sc co cc) 48) = wa at *
  have l0 := H0.ldA ty_rman 0 rfl 0 (vs := mcs m so sc co cc) rfl (Nat.le_of_ble_eq_true rfl)
  go_wp2_with fail
  refine (rput_c m so sc co cc wa (HM.out.to H0.be)).mono ?_
  rintro E w1 ⟨rfl, hb1⟩
  rw [HE.out.1, HE.out.2]
  have H1 := Lib.hid (H0.to hb1).be
  clear hb1 l0 H0
  go_wp2_with fail
  refine (rplist_c w1 (HP.out.new H1.out)).mono ?_
  rintro R w2 ⟨u, rfl, hu, hb2⟩
  obtain ⟨uo, uc, rfl⟩ := hu.sl
  have HB2 := Lib.hid (H1.out.trans (hb2.mono H1.out.size))
  obtain ⟨N, hN⟩ : ∃ N, N = p.names := ⟨_, rfl⟩
  rw [← hN] at hu HEL ⊢
  have HNE := Lib.hid hN
  obtain ⟨S1, hS1⟩ : ∃ S1 : Nat → Prop, S1 = fun x => S x ∧ (x < w.heap.size ∨ w2.heap.size ≤ x) := ⟨_, rfl⟩
  have HSS := Lib.hid hS1
  have P2 : Hid (QwC S1 w2 h gr q ko kc p) := by
    have hsz := HB2.out.size
    show QwC _ _ _ _ _ _ _ _
    rw [hS1]
    exact (HP.out.mono (S' := fun x => S x ∧ (x < w.heap.size ∨ w2.heap.size ≤ x)) fun x hx => ⟨fun h => ⟨h, .inl hx⟩, fun h => h.1⟩).new HB2.out
  have HUA : Hid (∀ x, w1.heap.size ≤ x → x < w2.heap.size → ¬ (x = h ∨ S1 x)) := by
    intro x h1 h2 h3
    have e1 := HP.out.blk.lt
    have e2 := H1.out.size
    rcases h3 with rfl | h3
    · omega
    · rw [hS1] at h3
      rcases h3.2 with h4 | h4 <;> omega
  have HS1 : Hid (∀ x, w2.heap.size ≤ x → S1 x) := fun x hx => by rw [hS1]; exact ⟨HS.out x (Nat.le_trans HB2.out.size hx), .inr hx⟩
  have HBK : Hid (∀ w' p', QwC S1 w' h gr q ko kc p' → p'.ks = p.ks → Tu (fun x => x = h ∨ S1 x) w2 w' → QwC S w' h gr q ko kc p' ∧ Tu (fun x => x = h ∨ S x) w w') := fun w' p' k e t => by
    refine ⟨k.back HP.out e (fun x hx => by rw [hS1] at hx; exact hx.1), (Tu.new (S := fun x => x = h ∨ S x) HB2.out).trans t (fun x _ hx => hx.imp id (fun hx => by rw [hS1] at hx; exact hx.1))⟩
  have HUO : Hid (∀ x, (Value.slice uo N.length uc).ownBlock = some x → w1.heap.size ≤ x ∧ x < w2.heap.size) := fun x hx => World.ownsRow.lt hu x hx
  have HU := Lib.hid hu
  clear hN hS1 hu hb2 HP HS
  go_wp2
  go_loopw [6, 8] (fun ev iv wr => ∃ (k : Nat) (e : Nat) (p' : Pw), k ≤ N.length ∧ ev = .int .i64 (e : Int) ∧ iv = .int .i64 (k : Int) ∧ Hid (p' = (if nN ∈ N.take k then p.wr 4 q nN [] else p)) ∧ Hid (e = (if nN ∈ N.take k then p.wrc 4 q nN [] else 0)) ∧ Hid (QwC S1 wr h gr q ko kc p') ∧ Hid (Tu (fun x => x = h ∨ S1 x) w2 wr) ∧ Hid (Lst wr w1.heap.size (.slice uo N.length uc) N)) (fun _ iv _ => N.length - (intOf iv).toNat)
  case atStart => exact ⟨0, 0, p, Nat.zero_le _, rfl, rfl, rfl, rfl, P2.out, Tu.refl _ _, HU.out⟩
  case round =>
    obtain ⟨k, e, p', hk, rfl, rfl, HPP, HEE, HQ1, HT1, HL1⟩ := hrel
    clear P2 HU
    have hnl := HEL.out.1
    by_cases hlt : k < N.length
    · have hlt1 : (k : Int) < (N.length : Int) := by omega
      obtain ⟨g, cp, e9, hc⟩ := HL1.out.at hlt
      have e10 : uo = some ⟨g, 0, none⟩ := by injection e9
      subst e10
      rw [Nat.zero_add] at hc
      have HTK := Lib.hid (List.take_succ_eq_append_getElem hlt)
      by_cases hx : N[k]'hlt = nN
      · have hq1 := nN_yes
        have hno : nN ∉ N.take k := fun hm => by
          obtain ⟨j, hj, hje⟩ := List.getElem_of_mem hm
          rw [List.length_take] at hj
          rw [List.getElem_take] at hje
          exact (List.pairwise_iff_getElem.1 HEL.out.2) j k (by omega) hlt (by omega) (by rw [hje, hx])
        have HNO := Lib.hid hno
        have hp' : p' = p := by rw [HPP.out, if_neg hno]
        subst hp'
        rw [hx] at hc
        have HX := Lib.hid hx
        clear hno hx
        go_wp2_with fail
        refine (rdo4_c nN [] _ HQ1.out (fun x hx => HS1.out x (Nat.le_trans HT1.out.size hx)) (by decide) (by simp) (by have := HPN.out; omega)).mono ?_
        rintro R w3 ⟨rfl, hq3, ht3⟩
        have hin : nN ∈ N.take (k + 1) := by rw [HTK.out, HX.out]; simp
        have HIN := Lib.hid hin
        have Q3 : Hid (QwC S1 w3 h gr q ko kc (p'.wr 4 q nN [])) := hq3
        have T3 := Lib.hid (HT1.out.trans ht3 (fun _ _ h => h))
        have L3 : Hid (Lst _ w1.heap.size (.slice (some ⟨g, 0, none⟩) N.length uc) N) := row_tu HL1.out ht3 (fun x hx => HUA.out x (HUO.out x hx).1 (HUO.out x hx).2)
        clear hq3 ht3 hin
        go_wp2
        go_roundw
        case rel => exact ⟨k + 1, p'.wrc 4 q nN [], p'.wr 4 q nN [], by omega, rfl, by go_num, by show _ = _; rw [if_pos HIN.out], by show _ = _; rw [if_pos HIN.out], Q3.out, T3.out, L3.out⟩
        case measure => simp [intOf]; omega
      · have hq1 := nN_no hx
        have hiff : Hid (nN ∈ N.take (k + 1) ↔ nN ∈ N.take k) := by
          show _ ↔ _
          rw [HTK.out]
          constructor
          · intro h
            rcases List.mem_append.1 h with h | h
            · exact h
            · exact absurd (List.mem_singleton.1 h).symm hx
          · intro h
            exact List.mem_append.2 (.inl h)
        clear hx
        go_wp2
        go_roundw
        case rel => exact ⟨k + 1, e, p', by omega, rfl, by go_num, by show _ = _; rw [HPP.out]; simp only [hiff.out], by show _ = _; rw [HEE.out]; simp only [hiff.out], HQ1.out, HT1.out, HL1.out⟩
        case measure => simp [intOf]; omega
    · have hlt1 : ¬ (k : Int) < (N.length : Int) := by omega
      obtain rfl : k = N.length := by omega
      have hp1 : p' = stP q t p 0 := by rw [HPP.out, List.take_length, HNE.out]; rfl
      have he1 : e = stC q t p 0 := by rw [HEE.out, List.take_length, HNE.out]; rfl
      have HE1 := Lib.hid he1
      have hn1 : Hid (p'.n ≤ p.n + 1) := by show _ ≤ _; rw [hp1]; exact stP_n _ _ _ _
      have hks1 : Hid (p'.ks = p.ks) := by show _ = _; rw [hp1]; exact stP_ks _ _ _ _
      have HR1 : Hid (e = 0 → swR q t 5 0 p = swR q t 4 1 p') := fun h => by rw [hp1]; exact swR_go (by rw [← he1]; exact h)
      have HZ1 : Hid (e ≠ 0 → swR q t 5 0 p = (e, p')) := fun h => by rw [swR_no (by rw [← he1]; exact h), ← he1, ← hp1]
      clear hp1 he1 HPP HEE HL1 HUA HUO
      by_cases z1 : e = 0
      rotate_left
      · have hq1 : ((e : Int) == 0) = false := beq_eq_false_iff_ne.2 (by omega)
        have HZZ := Lib.hid (HZ1.out z1)
        clear z1
        go_wp2
        rw [HQ.out]
        unfold RwPost
        rw [HO.out.1, HO.out.2, HZZ.out]
        obtain ⟨r1, r2⟩ := HBK.out _ _ HQ1.out hks1.out HT1.out
        exact ⟨rfl, r1, r2⟩
      have HRR := Lib.hid (HR1.out z1)
      subst z1
      go_wp2_with fail
      refine (rdo0_c nN [] _ HQ1.out (fun x hx => HS1.out x (Nat.le_trans HT1.out.size hx)) (by decide) (by simp) (by have h1 := hn1.out; have h2 := HPN.out; omega)).mono ?_
      rintro R x1 ⟨rfl, hq, htt⟩
      obtain ⟨e2, he2⟩ : ∃ e2, e2 = stC q t p' 1 := ⟨_, rfl⟩
      obtain ⟨p2, hp2⟩ : ∃ p2, p2 = stP q t p' 1 := ⟨_, rfl⟩
      have hcd : p'.code (wrR 0 q p'.E nN []) = e2 := he2.symm
      rw [hcd]
      have N2 : Hid (p2.n ≤ p.n + 2) := by
        have h1 := stP_n q t p' 1
        have h2 := hn1.out
        show _ ≤ _
        rw [hp2]; omega
      have K2 : Hid (p2.ks = p.ks) := by show _ = _; rw [hp2, stP_ks]; exact hks1.out
      have R2 : Hid (e2 = 0 → swR q t 5 0 p = swR q t 3 2 p2) := fun h => by rw [HRR.out, hp2]; exact swR_go (by rw [← he2]; exact h)
      have Z2 : Hid (e2 ≠ 0 → swR q t 5 0 p = (e2, p2)) := fun h => by rw [HRR.out, swR_no (by rw [← he2]; exact h), ← he2, ← hp2]
      have Q2 : Hid (QwC S1 x1 h gr q ko kc p2) := by rw [hp2]; exact hq
      have T2 := Lib.hid (HT1.out.trans htt (fun _ _ h => h))
      clear hq htt hcd he2 hp2 HRR 
      by_cases z2 : e2 = 0
      rotate_left
      · have hq2 : ((e2 : Int) == 0) = false := beq_eq_false_iff_ne.2 (by omega)
        have HZZ := Lib.hid (Z2.out z2)
        clear z2
        go_wp2
        rw [HQ.out]
        unfold RwPost
        rw [HO.out.1, HO.out.2, HZZ.out]
        obtain ⟨r1, r2⟩ := HBK.out _ _ Q2.out K2.out T2.out
        exact ⟨rfl, r1, r2⟩
      have HRR := Lib.hid (R2.out z2)
      have hq2 : ((e2 : Int) == 0) = true := by rw [z2]; rfl
      go_wp2_with fail
      refine (rdo1_c nN t _ Q2.out (fun x hx => HS1.out x (Nat.le_trans T2.out.size hx)) (by decide) (by have := HLN.out; simp only [maxLen]; omega) (by have h1 := N2.out; have h2 := HPN.out; omega)).mono ?_
      rintro R x2 ⟨rfl, hq, htt⟩
      obtain ⟨e3, he3⟩ : ∃ e3, e3 = stC q t p2 2 := ⟨_, rfl⟩
      obtain ⟨p3, hp3⟩ : ∃ p3, p3 = stP q t p2 2 := ⟨_, rfl⟩
      have hcd : p2.code (wrR 1 q p2.E nN t) = e3 := he3.symm
      rw [hcd]
      have N3 : Hid (p3.n ≤ p.n + 3) := by
        have h1 := stP_n q t p2 2
        have h2 := N2.out
        show _ ≤ _
        rw [hp3]; omega
      have K3 : Hid (p3.ks = p.ks) := by show _ = _; rw [hp3, stP_ks]; exact K2.out
      have R3 : Hid (e3 = 0 → swR q t 5 0 p = swR q t 2 3 p3) := fun h => by rw [HRR.out, hp3]; exact swR_go (by rw [← he3]; exact h)
      have Z3 : Hid (e3 ≠ 0 → swR q t 5 0 p = (e3, p3)) := fun h => by rw [HRR.out, swR_no (by rw [← he3]; exact h), ← he3, ← hp3]
      have Q3 : Hid (QwC S1 x2 h gr q ko kc p3) := by rw [hp3]; exact hq
      have T3 := Lib.hid (T2.out.trans htt (fun _ _ h => h))
      clear hq htt hcd he3 hp3 HRR hq2
      by_cases z3 : e3 = 0
      rotate_left
      · have hq3 : ((e3 : Int) == 0) = false := beq_eq_false_iff_ne.2 (by omega)
        have HZZ := Lib.hid (Z3.out z3)
        clear z3
        go_wp2
        rw [HQ.out]
        unfold RwPost
        rw [HO.out.1, HO.out.2, HZZ.out]
        obtain ⟨r1, r2⟩ := HBK.out _ _ Q3.out K3.out T3.out
        exact ⟨rfl, r1, r2⟩
      have HRR := Lib.hid (R3.out z3)
      have hq3 : ((e3 : Int) == 0) = true := by rw [z3]; rfl
      go_wp2_with fail
      refine (rdo2_c nN [] _ Q3.out (fun x hx => HS1.out x (Nat.le_trans T3.out.size hx)) (by decide) (by simp) (by have h1 := N3.out; have h2 := HPN.out; omega)).mono ?_
      rintro R x3 ⟨rfl, hq, htt⟩
      obtain ⟨e4, he4⟩ : ∃ e4, e4 = stC q t p3 3 := ⟨_, rfl⟩
      obtain ⟨p4, hp4⟩ : ∃ p4, p4 = stP q t p3 3 := ⟨_, rfl⟩
      have hcd : p3.code (wrR 2 q p3.E nN []) = e4 := he4.symm
      rw [hcd]
      have N4 : Hid (p4.n ≤ p.n + 4) := by
        have h1 := stP_n q t p3 3
        have h2 := N3.out
        show _ ≤ _
        rw [hp4]; omega
      have K4 : Hid (p4.ks = p.ks) := by show _ = _; rw [hp4, stP_ks]; exact K3.out
      have R4 : Hid (e4 = 0 → swR q t 5 0 p = swR q t 1 4 p4) := fun h => by rw [HRR.out, hp4]; exact swR_go (by rw [← he4]; exact h)
      have Z4 : Hid (e4 ≠ 0 → swR q t 5 0 p = (e4, p4)) := fun h => by rw [HRR.out, swR_no (by rw [← he4]; exact h), ← he4, ← hp4]
      have Q4 : Hid (QwC S1 x3 h gr q ko kc p4) := by rw [hp4]; exact hq
      have T4 := Lib.hid (T3.out.trans htt (fun _ _ h => h))
      clear hq htt hcd he4 hp4 HRR hq3
      by_cases z4 : e4 = 0
      rotate_left
      · have hq4 : ((e4 : Int) == 0) = false := beq_eq_false_iff_ne.2 (by omega)
        have HZZ := Lib.hid (Z4.out z4)
        clear z4
        go_wp2
        rw [HQ.out]
        unfold RwPost
        rw [HO.out.1, HO.out.2, HZZ.out]
        obtain ⟨r1, r2⟩ := HBK.out _ _ Q4.out K4.out T4.out
        exact ⟨rfl, r1, r2⟩
      have HRR := Lib.hid (R4.out z4)
      have hq4 : ((e4 : Int) == 0) = true := by rw [z4]; rfl
      go_wp2_with fail
      refine (rdo3_c nN nM _ Q4.out (fun x hx => HS1.out x (Nat.le_trans T4.out.size hx)) (by decide) (by decide) (by have h1 := N4.out; have h2 := HPN.out; omega)).mono ?_
      rintro R x4 ⟨rfl, hq, htt⟩
      obtain ⟨e5, he5⟩ : ∃ e5, e5 = stC q t p4 4 := ⟨_, rfl⟩
      obtain ⟨p5, hp5⟩ : ∃ p5, p5 = stP q t p4 4 := ⟨_, rfl⟩
      have hcd : p4.code (wrR 3 q p4.E nN nM) = e5 := he5.symm
      rw [hcd]
      have N5 : Hid (p5.n ≤ p.n + 5) := by
        have h1 := stP_n q t p4 4
        have h2 := N4.out
        show _ ≤ _
        rw [hp5]; omega
      have K5 : Hid (p5.ks = p.ks) := by show _ = _; rw [hp5, stP_ks]; exact K4.out
      have R5 : Hid (e5 = 0 → swR q t 5 0 p = swR q t 0 5 p5) := fun h => by rw [HRR.out, hp5]; exact swR_go (by rw [← he5]; exact h)
      have Z5 : Hid (e5 ≠ 0 → swR q t 5 0 p = (e5, p5)) := fun h => by rw [HRR.out, swR_no (by rw [← he5]; exact h), ← he5, ← hp5]
      have Q5 : Hid (QwC S1 x4 h gr q ko kc p5) := by rw [hp5]; exact hq
      have T5 := Lib.hid (T4.out.trans htt (fun _ _ h => h))
      clear hq htt hcd he5 hp5 HRR hq4
      have HZZ : Hid (swR q t 5 0 p = (e5, p5)) := by
        show _ = _
        by_cases z5 : e5 = 0
        · rw [R5.out z5, z5]; rfl
        · exact Z5.out z5
      go_wp2
      rw [HQ.out]
      unfold RwPost
      rw [HO.out.1, HO.out.2, HZZ.out]
      obtain ⟨r1, r2⟩ := HBK.out _ _ Q5.out K5.out T5.out
      exact ⟨rfl, r1, r2⟩
end Go.Proofs.YtakejacamkdncaaGreatDoor
