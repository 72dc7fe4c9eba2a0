/- Texts of the walk. -/
import Derived.Test.YtgeaacabpnepmaaGreatDoorQz8
import Derived.Test.YtgeaacabpnepmaaGreatDoorMc8
import Derived.Test.YtgeaacabpnepmaaGreatDoorAg8
import Derived.Deep.RegionLaw
/- Check and Put, by the program: one contract each. -/
namespace Go.Proofs.YtgeaacabpnepmaaGreatDoor
open Go.RowKit
set_option linter.unusedVariables false
set_option linter.unusedSimpArgs false
set_option maxRecDepth 20000
attribute [local go_sem ↓] ld_man ld_part ld_parts ld_nums ld_u64 ld_u8 st_part
theorem mb_alloc (w : World) (o : Obj) : Below w.heap.size w (w.alloc o) := (Below.refl _ w).alloc (Nat.le_refl _) o
theorem ptE_of {m : Mf} {b : Bool} (h : m.ok = b) : ptE m = if b then 0 else 4 := by rw [← h]; rfl
theorem ok_of (m : Mf) {b1 b2 b3 b4 : Bool} (h1 : decide (0 < m.ep) = b1) (h2 : decide (m.pl ≤ 1) = b2) (h3 : segsB m.sg = b3) (h4 : cksB m.ck = b4) : ptE m = if b1 && (b2 && (b3 && b4)) then 0 else 4 := by
  apply ptE_of; rw [← h1, ← h2, ← h3, ← h4]; rfl
set_option maxHeartbeats 1000000 in
theorem mcheck_c (m : Mf) (so : Option Addr) (sc : Nat) (co : Option Addr) (cc : Nat) (w : World) (h : MfAt w m so co) :
    Calls Tryz.prog 74 #[.agg (mcs m so sc co cc)] w fun R w' => R = .returned (.int .i64 (ptE m : Nat)) ∧ Below w.heap.size w w' := by
  have H0 := Loc.one w 60 (mcs m so sc co cc)
  have CS := Lib.hid (fun W hW => segs_c m.sg so sc W hW h.fit.sg h.l1)
  have CK := Lib.hid (fun W hW => cks_c m.ck co cc W hW h.fit.ck h.l2)
  have HA := Lib.hid h
  have he := h.fit.ep
  have hp := h.fit.pl
  obtain ⟨b3, hb3⟩ : ∃ b, segsB m.sg = b := ⟨_, rfl⟩
  obtain ⟨b4, hb4⟩ : ∃ b, cksB m.ck = b := ⟨_, rfl⟩
  obtain ⟨b1, hb1⟩ : ∃ b, decide (0 < m.ep) = b := ⟨_, rfl⟩
  obtain ⟨b2, hb2⟩ : ∃ b, decide (m.pl ≤ 1) = b := ⟨_, rfl⟩
  have HO := Lib.hid (ok_of m hb1 hb2 hb3 hb4)
  obtain ⟨E, hE⟩ : ∃ E, E = ptE m := ⟨_, rfl⟩
  rw [← hE] at HO ⊢
  rw [hb3] at CS
  rw [hb4] at CK
  clear hE hb3 hb4 h
  go_enter Tryz.func74, Tryz.ntmps74
  go_upto_region 1 with fail
  generalize w.alloc (.cells (mcs m so sc co cc) 60) = wa at *
  have l0 := H0.ldO ty_u64 0 rfl 0 (v := .int .u64 (m.ep : Int)) rfl
  have l1 := H0.ldO ty_u8 0 rfl 1 (v := .int .u8 (m.pl : Int)) rfl
  have l2 := H0.ldO ty_parts 0 rfl 2 (v := .slice so m.sg.length sc) rfl
  have hP := HA.out.to H0.be
  cases b1
  · have e0 : m.ep = 0 := by simpa using hb1
    have hq : ((m.ep : Int) == 0) = true := by rw [e0]; rfl
    clear e0 hb1 hb2
    go_wp2_with fail
    go_ret
    exact ⟨by rw [HO.out]; rfl, H0.be⟩
  · have e0 : m.ep ≠ 0 := by have : 0 < m.ep := by simpa using hb1
                             omega
    have hq : ((m.ep : Int) == 0) = false := beq_eq_false_iff_ne.2 (by omega)
    clear e0 hb1
    cases b2
    · have hq2 : (1 : Int) < (m.pl : Int) := by have : ¬ m.pl ≤ 1 := by simpa using hb2
                                                omega
      clear hb2
      go_wp2_with fail
      go_ret
      exact ⟨by rw [HO.out]; rfl, H0.be⟩
    · have hq2 : ¬ (1 : Int) < (m.pl : Int) := by have : m.pl ≤ 1 := by simpa using hb2
                                                  omega
      clear hb2
      go_wp2_with fail
      refine (CS.out wa hP.ps).mono ?_
      rintro R w1 ⟨rfl, hb1⟩
      have H1 := H0.to hb1
      have l3 := H1.ldO ty_nums 0 rfl 3 (v := .slice co m.ck.length cc) rfl
      cases b3
      · go_wp2_with fail
        go_ret
        exact ⟨by rw [HO.out]; rfl, H1.be⟩
      · go_wp2_with fail
        refine (CK.out w1 (hP.ns.to hb1)).mono ?_
        rintro R w2 ⟨rfl, hb2⟩
        have H2 := H1.to hb2
        cases b4
        · go_wp2_with fail
          go_ret
          exact ⟨by rw [HO.out]; rfl, H2.be⟩
        · go_wp2_with fail
          go_ret
          exact ⟨by rw [HO.out]; rfl, H2.be⟩
theorem wm_more {w w' : World} {g : Nat} {S T : Nat → Prop} {bs : List UInt8} (h : Ws w g S bs) (k : w.grownBy w' none) (hT : ∀ k, T k → S k ∨ (w.heap.size ≤ k ∧ k < w'.heap.size)) : Ws w' g T bs := by
  obtain ⟨h1, h2, ao, cap, hc, ho, hr⟩ := h
  refine ⟨fun hk => ?_, fun i hi => ?_, ao, cap, hc.grown k (by simp), ?_, fun i e hi => ?_⟩
  · have := hc.lt
    rcases hT _ hk with h3 | h3
    · exact h1 h3
    · omega
  · have := k.size
    rcases hT _ hi with h3 | h3
    · have := h2 i h3; omega
    · exact h3.2
  · exact ho.kept k (by
      rcases ho.2 with ⟨he, _⟩ | ⟨g', cap', cur, he, hg, _⟩
      · rw [he]; exact .inl rfl
      · rw [he]; exact .inr (by simp [Value.ownBlock]))
  · have := (ho.lt i e).2
    rcases hT _ hi with h3 | h3
    · exact hr i e h3
    · omega
theorem ws_back {wA wr w7 w9 : World} {g : Nat} {S T : Nat → Prop} {bs bs2 : List UInt8} (h0 : WsTo wA g S bs wr) (hg : wr.grownBy w7 none) (h1 : WsTo w7 g T bs2 w9) (hS : ∀ k, S k → T k) : WsTo wA g S bs2 w9 :=
  ⟨ws_less h1.1 hS, h0.2.trans ((kept_grown hg h0.1.2.1 (fun _ _ => by simp)).trans (h1.2.less hS))⟩
theorem ws_be {wA w' : World} {g B : Nat} {bs : List UInt8} (h : WsTo wA g (fun k => k < B) bs w') : Below B wA w' := kept_below h.2
def PtPost (m : Mf) (w : World) (R : Ending) (w' : World) : Prop := R = .returned (.tuple #[.string (str (ptS m)), .int .i64 (ptE m : Nat)]) ∧ Below w.heap.size w w'
set_option maxHeartbeats 2000000 in
theorem mput_c (m : Mf) (so : Option Addr) (sc : Nat) (co : Option Addr) (cc : Nat) (w : World) (h : MfAt w m so co) (ht : Tab w) :
    Calls Tryz.prog 165 #[.agg (mcs m so sc co cc)] w (PtPost m w) := by
  have H0 := Loc.one w 60 (mcs m so sc co cc)
  have hC := mcheck_c m so sc co cc (w.alloc (.cells (mcs m so sc co cc) 60)) (h.to (mb_alloc w _))
  obtain ⟨Q, hQ⟩ : ∃ Q, Q = PtPost m w := ⟨_, rfl⟩
  rw [← hQ]
  have HQ := Lib.hid hQ
  have HA := Lib.hid h
  have HT := Lib.hid ht
  clear hQ ht
  cases hok : m.ok
  · obtain ⟨e1, e2⟩ := pt_no hok
    rw [e2] at hC
    have HC := Lib.hid hC
    have HE := Lib.hid (And.intro e1 e2)
    clear hok e1 e2 hC h
    go_enter Tryz.func165, Tryz.ntmps165
    go_upto_region 1 with fail
    generalize w.alloc (.cells (mcs m so sc co cc) 60) = wa at *
    have l0 := H0.ldA ty_man 0 rfl 0 (vs := mcs m so sc co cc) rfl (Nat.le_of_ble_eq_true rfl)
    go_wp2_with fail
    refine HC.out.mono ?_
    rintro R w1 ⟨rfl, hb1⟩
    go_wp2
    rw [HQ.out]
    unfold PtPost
    rw [HE.out.1, HE.out.2]
    exact ⟨rfl, (H0.to hb1).be⟩
  · obtain ⟨e1, e2⟩ := pt_yes hok
    obtain ⟨n1, n2⟩ := Mf.ok_len hok
    have hpl := pay_short hok
    rw [e2] at hC
    have HC := Lib.hid hC
    have HE := Lib.hid (And.intro e1 e2)
    have HPL := Lib.hid hpl
    have hf := h.fit
    have HF := Lib.hid hf
    clear hok e1 e2 hC h hpl
    go_enter Tryz.func165, Tryz.ntmps165
    go_upto_region 1 with fail
    generalize w.alloc (.cells (mcs m so sc co cc) 60) = wa at *
    have l0 := H0.ldA ty_man 0 rfl 0 (vs := mcs m so sc co cc) rfl (Nat.le_of_ble_eq_true rfl)
    go_wp2_with fail
    refine HC.out.mono ?_
    rintro R w1 ⟨rfl, hb1⟩
    have H1 := Lib.hid (H0.to hb1)
    have hlt := H1.out.low (e := (w.heap.size, 60, mcs m so sc co cc)) (by simp)
    have HLT := Lib.hid hlt
    have WN := Lib.hid (ws_to (ws_new (T := 272) w1 (fun k => k < w1.heap.size) (fun _ h => h)))
    have HWA := Lib.hid (mb_alloc w1 (.cells #[.slice none 0 0] 272))
    clear hb1 l0 H0 HC hlt
    have hLOC := fun W (hW : Below w1.heap.size w1 W) => H1.out.to hW
    have l1 := (hLOC _ HWA.out).ldO ty_u64 0 rfl 0 (v := .int .u64 (m.ep : Int)) rfl
    have HLOC := Lib.hid hLOC
    clear hLOC
    go_upto_region 5 with fail
    generalize w1.alloc (.cells #[.slice none 0 0] 272) = wA at *
    go_wp2_with fail
    refine (wsU64 w1.heap.size m.ep _ [] _ WN.out.1 (by simp) HF.out.ep).mono ?_
    rintro E w2 ⟨rfl, hw2⟩
    have W2 := Lib.hid (wsTo_trans WN.out hw2)
    clear hw2 WN l1
    have H2 := HLOC.out w2 (HWA.out.trans (ws_be W2.out))
    have l2 := H2.ldO ty_u8 0 rfl 1 (v := .int .u8 (m.pl : Int)) rfl
    go_wp2_with fail
    refine (wsU8 w1.heap.size m.pl _ _ _ W2.out.1 (by simp [le_length]) HF.out.pl).mono ?_
    rintro E w3 ⟨rfl, hw3⟩
    have W3 := Lib.hid (wsTo_trans W2.out hw3)
    clear hw3 W2 l2 H2
    have H3 := HLOC.out w3 (HWA.out.trans (ws_be W3.out))
    have l3 := H3.ldO ty_parts 0 rfl 2 (v := .slice so m.sg.length sc) rfl
    have u1 := u8_id (n := m.sg.length) (by omega)
    go_wp2_with fail
    refine (wsU8 w1.heap.size m.sg.length _ _ _ W3.out.1 (by simp [le_length]) (by omega)).mono ?_
    rintro E w4 ⟨rfl, hw4⟩
    have W4 := Lib.hid (wsTo_trans W3.out hw4)
    clear hw4 W3 l3 H3 u1
    have H4 := HLOC.out w4 (HWA.out.trans (ws_be W4.out))
    have l4 := H4.ldO ty_parts 0 rfl 2 (v := .slice so m.sg.length sc) rfl
    obtain ⟨X, hX⟩ : ∃ X, X = [] ++ le 8 m.ep ++ le 1 m.pl ++ le 1 m.sg.length := ⟨_, rfl⟩
    rw [← hX] at W4
    have HX := Lib.hid hX
    have HXL : Hid (X.length = 10) := by show _ = _; rw [hX]; simp [le_length]
    clear hX
    go_wp2
    clear l4 H4
    go_loopw [29] (fun i wr => ∃ k : Nat, k ≤ m.sg.length ∧ i = .int .i64 (k : Int) ∧ Hid (WsTo wA w1.heap.size (fun k => k < w1.heap.size) (X ++ sgb (m.sg.take k)) wr)) (fun i _ => m.sg.length - (intOf i).toNat)
    case atStart => exact ⟨0, Nat.zero_le _, rfl, by show WsTo _ _ _ _ _; simpa [sgb] using W4.out⟩
    case round =>
      obtain ⟨k, hk, rfl, HW⟩ := hrel
      clear W4
      have hbe := HWA.out.trans (ws_be HW.out)
      have HR := HLOC.out wr hbe
      by_cases hlt : k < m.sg.length
      · obtain ⟨bb, oo, hso, hone⟩ := (((HA.out.ps.to (H1.out.be)))).one hlt
        have hld := (hone wr hbe).1 _ ty_part
        have hpf := HF.out.sg _ (List.getElem_mem hlt)
        have HST : Hid (sgb (m.sg.take (k + 1)) = sgb (m.sg.take k) ++ le 8 (m.sg[k]'hlt).1 ++ le 8 (m.sg[k]'hlt).2) := by
          show _ = _; rw [List.take_succ_eq_append_getElem hlt, sgb_snoc]
        obtain ⟨⟨p1, p2⟩, hp⟩ : ∃ p, p = m.sg[k]'hlt := ⟨_, rfl⟩
        rw [← hp] at hpf hld HST
        dsimp only at hpf hld HST
        obtain ⟨hp1, hp2⟩ := hpf
        clear hone hp
        have HBL : Hid ((X ++ sgb (m.sg.take k)).length ≤ 1000) := by
          show _ ≤ _; rw [List.length_append, HXL.out, sgb_len, List.length_take]; omega
        obtain ⟨g7, w7, z7, s7, H7, q7⟩ := HR.newA ty_part #[.int .u64 0, .int .u64 0] #[.int .u64 (p1 : Int), .int .u64 (p2 : Int)] rfl rfl rfl
        replace H7 : Loc _ _ _ [(w.heap.size, 60, mcs m so sc co cc), (g7, 122, #[.int .u64 (p1 : Int), .int .u64 (p2 : Int)])] := H7
        have g7l := H7.low (e := (g7, 122, #[.int .u64 (p1 : Int), .int .u64 (p2 : Int)])) (by simp)
        have W7 := Lib.hid (wm_more (T := fun x => x < w1.heap.size ∨ x = g7) HW.out.1 q7 (fun x hx => hx.elim .inl (fun e => .inr ⟨by omega, by omega⟩)))
        have l7 := H7.ldO ty_u64 1 rfl 0 (v := .int .u64 (p1 : Int)) rfl
        have HH7 := Lib.hid H7
        have HQ7 := Lib.hid q7
        clear q7 g7l H7
        subst hso
        go_wp2_with (fail)
        refine (wsU64 w1.heap.size p1 _ _ _ W7.out (by have := HBL.out; omega) hp1).mono ?_
        rintro E w8 ⟨rfl, hw8⟩
        have W8 := Lib.hid hw8
        have H8 := HH7.out.kept hw8.2 (fun x hx => .inl (by have := HLT.out; omega)) (List.Sublist.refl _) (fun e he => by
          simp only [List.mem_cons, List.not_mem_nil, or_false] at he
          rcases he with rfl | rfl
          · exact .inl HLT.out
          · exact .inr rfl)
        have l8 := H8.ldO ty_u64 1 rfl 1 (v := .int .u64 (p2 : Int)) rfl
        clear hw8 s7 l7 hld
        go_wp2_with (fail)
        refine (wsU64 w1.heap.size p2 _ _ _ W8.out.1 (by have := HBL.out; rw [List.length_append, le_length]; omega) hp2).mono ?_
        rintro E w9 ⟨rfl, hw9⟩
        have W9 := Lib.hid (ws_back HW.out HQ7.out (wsTo_trans W8.out hw9) (fun _ h => .inl h))
        clear hw9 l8 H8 HR
        go_wp2
        go_roundw
        case rel => exact ⟨k + 1, by omega, by go_num, by show WsTo _ _ _ _ _; rw [HST.out]; simpa [List.append_assoc] using W9.out⟩
        case measure => simp [intOf]; omega
      · obtain rfl : k = m.sg.length := by omega
        rw [List.take_length] at HW
        obtain ⟨Y, hY⟩ : ∃ Y, Y = X ++ sgb m.sg := ⟨_, rfl⟩
        rw [← hY] at HW
        have HY := Lib.hid hY
        have HYL : Hid (Y.length ≤ 500) := by show _ ≤ _; rw [hY, List.length_append, HXL.out, sgb_len]; omega
        clear hY hlt
        have l5 := HR.ldO ty_nums 0 rfl 3 (v := .slice co m.ck.length cc) rfl
        have u1 := u8_id (n := m.ck.length) (by omega)
        go_wp2_with fail
        refine (wsU8 w1.heap.size m.ck.length _ _ _ HW.out.1 (by have := HYL.out; omega) (by omega)).mono ?_
        rintro E w5 ⟨rfl, hw5⟩
        have W5 := Lib.hid (wsTo_trans HW.out hw5)
        clear hw5 HW l5 HR u1 hbe
        have H5 := HLOC.out w5 (HWA.out.trans (ws_be W5.out))
        have l6 := H5.ldO ty_nums 0 rfl 3 (v := .slice co m.ck.length cc) rfl
        obtain ⟨Z, hZ⟩ : ∃ Z, Z = Y ++ le 1 m.ck.length := ⟨_, rfl⟩
        rw [← hZ] at W5
        have HZ := Lib.hid hZ
        have HZL : Hid (Z.length ≤ 501) := by show _ ≤ _; rw [hZ, List.length_append, le_length]; have := HYL.out; omega
        clear hZ
        go_wp2
        clear l6 H5
        go_loopw [48] (fun i wx => ∃ j : Nat, j ≤ m.ck.length ∧ i = .int .i64 (j : Int) ∧ Hid (WsTo wA w1.heap.size (fun k => k < w1.heap.size) (Z ++ ckb (m.ck.take j)) wx)) (fun i _ => m.ck.length - (intOf i).toNat)
        case atStart => exact ⟨0, Nat.zero_le _, rfl, by show WsTo _ _ _ _ _; simpa [ckb] using W5.out⟩
        case round =>
          obtain ⟨j, hj, rfl, HV⟩ := hrel
          clear W5
          have hbe := HWA.out.trans (ws_be HV.out)
          by_cases hlt : j < m.ck.length
          · obtain ⟨bb, oo, hco, hone⟩ := (HA.out.ns.to (H1.out.be)).one hlt
            have hld := hone _ hbe
            have hcf := HF.out.ck _ (List.getElem_mem hlt)
            have HST : Hid (ckb (m.ck.take (j + 1)) = ckb (m.ck.take j) ++ le 8 (m.ck[j]'hlt)) := by
              show _ = _; rw [List.take_succ_eq_append_getElem hlt, ckb_snoc]
            obtain ⟨c, hc⟩ : ∃ c, c = m.ck[j]'hlt := ⟨_, rfl⟩
            rw [← hc] at hcf hld HST
            clear hone hc
            have HBL : Hid ((Z ++ ckb (m.ck.take j)).length ≤ 1000) := by
              show _ ≤ _; rw [List.length_append, ckb_len, List.length_take]; have := HZL.out; omega
            subst hco
            go_wp2_with (fail)
            refine (wsU64 w1.heap.size c _ _ _ HV.out.1 (by have := HBL.out; omega) hcf).mono ?_
            rintro E w8 ⟨rfl, hw8⟩
            have W8 := Lib.hid (wsTo_trans HV.out hw8)
            clear hw8 hld
            go_wp2
            go_roundw
            case rel => exact ⟨j + 1, by omega, by go_num, by show WsTo _ _ _ _ _; rw [HST.out]; simpa [List.append_assoc] using W8.out⟩
            case measure => simp [intOf]; omega
          · obtain rfl : j = m.ck.length := by omega
            rw [List.take_length] at HV
            have hpy : Z ++ ckb m.ck = pay m := by rw [HZ.out, HY.out, HX.out]; simp [pay, List.append_assoc]
            rw [hpy] at HV
            have hx := H1.out.be.trans (hbe.mono H1.out.size)
            have HBX := Lib.hid hx
            have HTX := Lib.hid (tab_below HT.out hx)
            clear hpy hbe hx hlt
            go_wp2_with fail
            refine (wsBytes w1.heap.size _ _ _ HV.out.1).mono ?_
            rintro E w8 ⟨rfl, rfl⟩
            have hS : putS (pay m) = enc m := if_pos (by have := HPL.out; omega)
            have hE : putE (pay m) = 0 := if_pos (by have := HPL.out; omega)
            go_wp2_with fail
            refine (fput_c (pay m) _ (by have := HPL.out; simp only [maxLen]; omega) HTX.out).mono ?_
            rintro E w9 ⟨rfl, hg9⟩
            rw [hS, hE]
            have H9 := Lib.hid (HBX.out.trans (below_of_grown hg9 |>.mono HBX.out.size))
            clear hg9
            go_wp2
            rw [HQ.out]
            unfold PtPost
            rw [HE.out.1, HE.out.2]
            exact ⟨rfl, H9.out⟩
end Go.Proofs.YtgeaacabpnepmaaGreatDoor
/- A manifest read from a reader, by the program: its contract. -/
namespace Go.Proofs.YtgeaacabpnepmaaGreatDoor
open Go.RowKit
set_option linter.unusedVariables false
set_option linter.unusedSimpArgs false
set_option maxRecDepth 20000

theorem Loc.re {B : Nat} {w0 w : World} {L : List (Nat × TypeId × Array Value)} (h : Loc B w0 w L) : Loc B w w L := ⟨h.size, Below.refl _ _, h.ge, h.nd, h.cs⟩
theorem Loc.past {B g : Nat} {w0 w w' : World} {L : List (Nat × TypeId × Array Value)} (h : Loc B w0 w L) (k : w.grownBy w' (some g)) (hg : g < B) : Loc B w' w' L :=
  ⟨Nat.le_trans h.size k.size, Below.refl _ _, h.ge, h.nd, fun e he => (h.cs e he).grown k (fun q => by
    have := h.ge e he
    have := Option.some.inj q
    omega)⟩
theorem g_then {w w1 w2 : World} {g : Nat} (h : w.grownBy w1 (some g)) (k : Below w.heap.size w1 w2) : w.grownBy w2 (some g) :=
  ⟨k.os.trans h.os, k.tape.trans h.tape, k.output.trans h.output, Nat.le_trans h.size k.size, fun i hi hn => (k.block i hi).trans (h.block i hi hn)⟩
theorem rd_past {w w' : World} {g b : Nat} {l : List UInt8} {e : Int} (h : Rd w g l e) (k : w.grownBy w' (some b)) (hb : b ≠ g) : Rd w' g l e := ⟨h.1.grown k (fun q => hb (Option.some.inj q).symm), h.2⟩
structure RS (w : World) (gr : Nat) (m : Mf) (so : Option Addr) (sc : Nat) (co : Option Addr) (cc : Nat) (l : List UInt8) (e : Int) (wr : World) : Prop where
  L : Loc w.heap.size wr wr [(w.heap.size, 60, mcs mz none 0 none 0), (w.heap.size + 1, 60, mcs m so sc co cc)]
  ps : Grw 122 2 w.heap.size wr [w.heap.size, w.heap.size + 1] so m.sg.length sc (Gpl m.sg)
  ns : Grw 37 1 w.heap.size wr [w.heap.size, w.heap.size + 1] co m.ck.length cc (Gnl m.ck)
  rd : Rd wr gr l e
  g : w.grownBy wr (some gr)
  lt : gr < w.heap.size
section
variable {w wr w' : World} {gr sc cc : Nat} {m : Mf} {so co : Option Addr} {l l' : List UInt8} {e e' : Int}
theorem row_past {T : TypeId} {k B : Nat} {bs : List Nat} {ao : Option Addr} {n cap g : Nat} {xs : List Value} (h : Grw T k B wr bs ao n cap xs) (hk : wr.grownBy w' (some g)) (hg : g < B) : Grw T k B w' bs ao n cap xs :=
  h.keep hk (.inr fun e => by have := (h.own.lt g e).1; omega)
theorem RS.call (h : RS w gr m so sc co cc l e wr) (k : RdTo wr gr l' e' w') : RS w gr m so sc co cc l' e' w' :=
  ⟨h.L.past k.2 h.lt, row_past h.ps k.2 h.lt, row_past h.ns k.2 h.lt, k.1, h.g.trans k.2, h.lt⟩
theorem RS.set {m' : Mf} {so' co' : Option Addr} {sc' cc' : Nat} (h : RS w gr m so sc co cc l e wr) (q : wr.grownBy w' (some (w.heap.size + 1)))
    (H : Loc w.heap.size wr w' [(w.heap.size, 60, mcs mz none 0 none 0), (w.heap.size + 1, 60, mcs m' so' sc' co' cc')])
    (hp : Grw 122 2 w.heap.size w' [w.heap.size, w.heap.size + 1] so' m'.sg.length sc' (Gpl m'.sg)) (hn : Grw 37 1 w.heap.size w' [w.heap.size, w.heap.size + 1] co' m'.ck.length cc' (Gnl m'.ck)) :
    RS w gr m' so' sc' co' cc' l e w' :=
  ⟨H.re, hp, hn, rd_past h.rd q (by have := h.lt; omega), g_then h.g H.be, h.lt⟩
theorem RS.ep (h : RS w gr m so sc co cc l e wr) (n : Nat) : ∃ w', (stT 37 (.pointer (some ⟨w.heap.size + 1, 0, none⟩)) (.int .u64 (n : Int))).run Tryz.prog wr = .ok () w' ∧ RS w gr ⟨n, m.pl, m.sg, m.ck⟩ so sc co cc l e w' := by
  obtain ⟨w2, s2, H2, q2⟩ := h.L.stO ty_u64 1 rfl 0 (.int .u64 (n : Int)) (cs' := mcs ⟨n, m.pl, m.sg, m.ck⟩ so sc co cc) rfl (L' := [(w.heap.size, 60, mcs mz none 0 none 0), (w.heap.size + 1, 60, mcs ⟨n, m.pl, m.sg, m.ck⟩ so sc co cc)]) rfl (Nat.le_of_ble_eq_true rfl) rfl rfl
  exact ⟨w2, s2, h.set q2 H2 (h.ps.turn (by simp) q2) (h.ns.turn (by simp) q2)⟩
theorem RS.pl (h : RS w gr m so sc co cc l e wr) (n : Nat) : ∃ w', (stT 5 (.pointer (some ⟨w.heap.size + 1, 1, none⟩)) (.int .u8 (n : Int))).run Tryz.prog wr = .ok () w' ∧ RS w gr ⟨m.ep, n, m.sg, m.ck⟩ so sc co cc l e w' := by
  obtain ⟨w2, s2, H2, q2⟩ := h.L.stO ty_u8 1 rfl 1 (.int .u8 (n : Int)) (cs' := mcs ⟨m.ep, n, m.sg, m.ck⟩ so sc co cc) rfl (L' := [(w.heap.size, 60, mcs mz none 0 none 0), (w.heap.size + 1, 60, mcs ⟨m.ep, n, m.sg, m.ck⟩ so sc co cc)]) rfl (Nat.le_of_ble_eq_true rfl) rfl rfl
  exact ⟨w2, s2, h.set q2 H2 (h.ps.turn (by simp) q2) (h.ns.turn (by simp) q2)⟩
theorem RS.drew (h : RS w gr m so sc co cc l e wr) : RS w gr m so sc co cc l e wr.drew :=
  ⟨h.L.drew.re, h.ps.to (Below.refl _ wr).drew, h.ns.to (Below.refl _ wr).drew, rd_on h.rd (grown_of_below (Below.refl _ wr).drew), g_then h.g ((Below.refl _ wr).drew), h.lt⟩
theorem RS.alloc (h : RS w gr m so sc co cc l e wr) (o : Obj) : RS w gr m so sc co cc l e (wr.alloc o) :=
  have hb := mb_alloc wr o
  ⟨(h.L.to hb).re, h.ps.to hb, h.ns.to hb, rd_on h.rd (grown_of_below hb), g_then h.g (hb.mono h.L.size), h.lt⟩
theorem RS.part {cap' r' : Nat} (h : RS w gr m so sc co cc l e wr) (p : Nat × Nat) (hr : Grw 122 2 w.heap.size w' [w.heap.size, w.heap.size + 1] (some ⟨r', 0, none⟩) (m.sg.length + 1) cap' (Gpl m.sg ++ gpv p))
    (hL : Loc w.heap.size wr w' [(w.heap.size, 60, mcs mz none 0 none 0), (w.heap.size + 1, 60, mcs m so sc co cc)])
    (hg : (wr.alloc (.cells (gpv p).toArray 122)).grownBy w' (Value.slice so m.sg.length sc).ownBlock) :
    ∃ w2, (stT 58 (.pointer (some ⟨w.heap.size + 1, 2, none⟩)) (.slice (some ⟨r', 0, none⟩) (m.sg.length + 1) cap')).run Tryz.prog w' = .ok () w2 ∧ RS w gr ⟨m.ep, m.pl, m.sg ++ [p], m.ck⟩ (some ⟨r', 0, none⟩) cap' co cc l e w2 := by
  have ha := h.alloc (.cells (gpv p).toArray 122)
  obtain ⟨w2, s2, H2, q2⟩ := hL.re.stO ty_parts 1 rfl 2 (.slice (some ⟨r', 0, none⟩) (m.sg.length + 1) cap') (cs' := mcs ⟨m.ep, m.pl, m.sg ++ [p], m.ck⟩ (some ⟨r', 0, none⟩) cap' co cc) (by simp [mcs]) (L' := [(w.heap.size, 60, mcs mz none 0 none 0), (w.heap.size + 1, 60, mcs ⟨m.ep, m.pl, m.sg ++ [p], m.ck⟩ (some ⟨r', 0, none⟩) cap' co cc)]) rfl (Nat.le_of_ble_eq_true rfl) rfl rfl
  refine ⟨w2, s2, H2.re, ?_, (ha.ns.keep hg ((ha.ns.unlike ha.ps (by decide)))).turn (by simp) q2, ?_, ?_, h.lt⟩
  · have := hr.turn (g := w.heap.size + 1) (by simp) q2
    simpa [Gpl_snoc] using this
  · have h1 : Rd w' gr l e := by
      refine ⟨ha.rd.1.grown hg (fun q => ?_), h.rd.2⟩
      have := (ha.ps.own.lt gr q.symm).1
      have := h.lt
      omega
    exact rd_past h1 q2 (by have := h.lt; omega)
  · exact g_then h.g (hL.be.trans H2.be)
theorem RS.num {cap' r' : Nat} (h : RS w gr m so sc co cc l e wr) (p : Nat) (hr : Grw 37 1 w.heap.size w' [w.heap.size, w.heap.size + 1] (some ⟨r', 0, none⟩) (m.ck.length + 1) cap' (Gnl m.ck ++ gnv p))
    (hL : Loc w.heap.size wr w' [(w.heap.size, 60, mcs mz none 0 none 0), (w.heap.size + 1, 60, mcs m so sc co cc)])
    (hg : (wr.alloc (.cells (gnv p).toArray 37)).grownBy w' (Value.slice co m.ck.length cc).ownBlock) :
    ∃ w2, (stT 41 (.pointer (some ⟨w.heap.size + 1, 3, none⟩)) (.slice (some ⟨r', 0, none⟩) (m.ck.length + 1) cap')).run Tryz.prog w' = .ok () w2 ∧ RS w gr ⟨m.ep, m.pl, m.sg, m.ck ++ [p]⟩ so sc (some ⟨r', 0, none⟩) cap' l e w2 := by
  have ha := h.alloc (.cells (gnv p).toArray 37)
  obtain ⟨w2, s2, H2, q2⟩ := hL.re.stO ty_nums 1 rfl 3 (.slice (some ⟨r', 0, none⟩) (m.ck.length + 1) cap') (cs' := mcs ⟨m.ep, m.pl, m.sg, m.ck ++ [p]⟩ so sc (some ⟨r', 0, none⟩) cap') (by simp [mcs]) (L' := [(w.heap.size, 60, mcs mz none 0 none 0), (w.heap.size + 1, 60, mcs ⟨m.ep, m.pl, m.sg, m.ck ++ [p]⟩ so sc (some ⟨r', 0, none⟩) cap')]) rfl (Nat.le_of_ble_eq_true rfl) rfl rfl
  refine ⟨w2, s2, H2.re, (ha.ps.keep hg ((ha.ps.unlike ha.ns (by decide)))).turn (by simp) q2, ?_, ?_, ?_, h.lt⟩
  · have := hr.turn (g := w.heap.size + 1) (by simp) q2
    simpa [Gnl_snoc] using this
  · have h1 : Rd w' gr l e := by
      refine ⟨ha.rd.1.grown hg (fun q => ?_), h.rd.2⟩
      have := (ha.ns.own.lt gr q.symm).1
      have := h.lt
      omega
    exact rd_past h1 q2 (by have := h.lt; omega)
  · exact g_then h.g (hL.be.trans H2.be)
end
end Go.Proofs.YtgeaacabpnepmaaGreatDoor
