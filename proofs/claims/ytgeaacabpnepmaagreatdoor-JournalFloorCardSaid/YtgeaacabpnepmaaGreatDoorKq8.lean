/- Texts of the walk. -/
import Derived.Test.YtgeaacabpnepmaaGreatDoorKp8
/- The files of a manifest; clearing. -/
namespace Go.Proofs.YtgeaacabpnepmaaGreatDoor
open Go.RowKit
set_option linter.unusedVariables false
set_option linter.unusedSimpArgs false
set_option maxRecDepth 20000

theorem wpList_append_str {w : World} {B : Nat} {v : Value} {l : List (List UInt8)} {ops : Array Oper} {rest : List Oper} {o : Oper} {a : Act} {Q : Exit → Act → World → Prop} (hgd : o.guard = none) (s x : Operand)
    (ho : o.op = .call { callee := .builtin .append, args := #[s, x], argTypes := #[78, 78] }) (hs : a.eval s = v) (n : List UInt8) (hx : a.eval x = .slice (some ⟨w.heap.size, 0, none⟩) 1 1) (hL : Lst w B v l) {w0 : World} {L : List (Nat × TypeId × Array Value)} (hLo : Loc B w0 w L) (hfar : ∀ e ∈ L, v.ownBlock ≠ some e.1) (hl : l.length ≤ 1000000)
    (h : ∀ v' w', Lst w' B v' (l ++ [n]) → Loc B w0 w' L → (∀ e ∈ L, v'.ownBlock ≠ some e.1) → wpList Tryz.prog ops Q rest (a.put o.dst v') w') : wpList Tryz.prog ops Q (o :: rest) a (w.alloc (.cells #[.string (str n)] 9)) := by
  obtain ⟨i0, hi0, hz0, hz1, hz2⟩ := info_parts info_st
  have hal : w.grownBy (w.alloc (.cells #[.string (str n)] 9)) none := grown_alloc _ _
  have hL1 : Lst (w.alloc (.cells #[.string (str n)] 9)) B v l := hL.new (below_of_grown hal)
  have hB := hLo.size
  refine wpList_append_lies _ hgd s x 78 ho B 9 i0 (.string ⟨#[]⟩) 1 16 Tryz.underlying78 hi0 hz0 hz1 hz2 rfl (by decide) v l.length _ hs hL1 ⟨w.heap.size, 0, none⟩ 1 1 [.string (str n)] hx rfl (cell_one_new _ _ _) (by simp [Value.oneCell']) (by decide) (by simp only [maxLen]; omega) (by omega) (by have := hal.size; omega) _ rfl fun g cap w' hown hgr hat _ => ?_
  refine h _ _ ?_ ?_ ?_
  · unfold Lst
    rw [List.map_append, List.length_append]
    exact hown
  · have h1 := hLo.grown hal
    cases hv : v.ownBlock with
    | none => rw [hv] at hgr; exact h1.grown hgr
    | some r => rw [hv] at hgr; exact h1.row hgr (hL.lt r hv).1 (fun e he q => hfar e he (by rw [hv, q]))
  · intro e he q
    have q : g = e.1 := by simpa [Value.ownBlock] using q
    rcases hat with hat | hat
    · exact hfar e he (by rw [hat, q])
    · have := hLo.low he
      simp at hat
      omega
attribute [local go_sem ↓] ld_man ld_parts ld_part st_part ld_nums ld_u64
def LstPost (l : List (List UInt8)) (w : World) (R : Ending) (w' : World) : Prop := ∃ v, R = .returned v ∧ Lst w' w.heap.size v l ∧ Below w.heap.size w w'
theorem str_nM : str nM = ⟨#[109, 97, 110, 105, 102, 101, 115, 116]⟩ := rfl
set_option maxHeartbeats 2000000 in
theorem files_c (m : Mf) (so : Option Addr) (sc : Nat) (co : Option Addr) (cc : Nat) (w : World) (h : MfAt w m so co) (h1 : m.sg.length ≤ 400) (h2 : m.ck.length ≤ 400) :
    Calls Tryz.prog 120 #[.agg (mcs m so sc co cc)] w (LstPost (jfs m) w) := by
  have HM := Lib.hid h
  have H0 := Loc.one w 60 (mcs m so sc co cc)
  have l0 := H0.ldO ty_parts 0 rfl 2 (v := .slice so m.sg.length sc) rfl
  have HL0 := Lib.hid H0
  obtain ⟨Q, hQ⟩ : ∃ Q : Ending → World → Prop, Q = LstPost (jfs m) w := ⟨_, rfl⟩
  rw [← hQ]
  have HQ := Lib.hid hQ
  clear h hQ H0
  go_enter Tryz.func120, Tryz.ntmps120
  go_upto_region 1 with fail
  generalize w.alloc (.cells (mcs m so sc co cc) 60) = wa at *
  have HN0 : Hid (Lst (wa.alloc (.cells #[.string (str nM)] 9)) w.heap.size (.slice (some ⟨wa.heap.size, 0, none⟩) 1 1) [nM]) :=
    ⟨rfl, .inr ⟨wa.heap.size, 1, #[.string (str nM)], rfl, HL0.out.size, heap_alloc_new wa _, Nat.le_refl _, by simp [maxLen], rfl, by simp⟩⟩
  have HLb := Lib.hid (HL0.out.to (below_alloc wa (.cells #[.string (str nM)] 9)))
  rw [str_nM] at HN0 HLb
  have l1 := HLb.out.ldO ty_parts 0 rfl 2 (v := .slice so m.sg.length sc) rfl
  have HWA : Hid (w.heap.size < wa.heap.size) := by show _ < _; exact (HL0.out.low (e := (w.heap.size, 60, mcs m so sc co cc)) (by simp))
  clear l0 HL0
  go_wp2
  clear l1
  go_loopw [3, 12] (fun lv iv wr => ∃ (k : Nat) (v : Value), k ≤ m.sg.length ∧ iv = .int .i64 (k : Int) ∧ v = lv ∧ Hid (Lst wr w.heap.size v (nM :: (m.sg.take k).map fun s => sgn s.1)) ∧ Hid (Loc w.heap.size w wr [(w.heap.size, 60, mcs m so sc co cc)]) ∧ Hid (v.ownBlock ≠ some w.heap.size)) (fun _ iv _ => m.sg.length - (intOf iv).toNat)
  case atStart => exact ⟨0, _, Nat.zero_le _, rfl, rfl, by rw [List.take_zero]; exact HN0, HLb, by show Value.ownBlock _ ≠ _; have := HWA.out; simp [Value.ownBlock]; omega⟩
  case round =>
    obtain ⟨k, v, hk, rfl, rfl, HLs, HL, HFar⟩ := hrel
    by_cases hlt : k < m.sg.length
    · obtain ⟨b, o, hb, hone⟩ := HM.out.ps.one hlt
      subst hb
      have hf := HM.out.fit.sg _ (List.getElem_mem hlt)
      have hld := (hone wr HL.out.be).1 _ ty_part
      have HTK : Hid ((nM :: (m.sg.take (k + 1)).map fun s => sgn s.1) = (nM :: (m.sg.take k).map fun s => sgn s.1) ++ [sgn (m.sg[k]'hlt).1]) := by
        show _ = _
        rw [List.take_succ_eq_append_getElem hlt, List.map_append]; rfl
      have HLN : Hid ((nM :: (m.sg.take k).map fun s => sgn s.1).length ≤ 1000000) := by show _ ≤ _; simp; omega
      obtain ⟨⟨p1, p2⟩, hp⟩ : ∃ p, p = m.sg[k]'hlt := ⟨_, rfl⟩
      rw [← hp] at hf hld HTK
      dsimp only at hf hld HTK
      obtain ⟨hp1, hp2⟩ := hf
      have HLT := Lib.hid hlt
      have HP1 := Lib.hid hp1
      clear hone hp hp1 hp2
      obtain ⟨g5, w5, z5, s5, H5, q5⟩ := HL.out.newA ty_part #[.int .u64 0, .int .u64 0] #[.int .u64 (p1 : Int), .int .u64 (p2 : Int)] rfl rfl rfl
      have l5 := H5.ldO ty_u64 1 rfl 0 (v := .int .u64 (p1 : Int)) rfl
      have HL5 := Lib.hid (HLs.out.new (below_of_grown q5))
      have H5' := Lib.hid H5
      clear H5 q5
      go_wp2_with fail
      refine (seg_c p1 w5 HP1.out).mono ?_
      rintro E w6 ⟨rfl, hb6⟩
      have HL6 := Lib.hid (HL5.out.new hb6)
      have H6 : Hid (Loc w.heap.size w w6 [(w.heap.size, 60, mcs m (some ⟨b, o, none⟩) sc co cc)]) := (H5'.out.to hb6).drop 1 rfl
      clear hb6 l5 s5 z5 hld
      rw [show str (115 :: hex p1) = str (sgn p1) from rfl]
      go_wp2_with (at_builtin; refine wpList_append_str rfl _ _ rfl (by simp [Act.eval]) (sgn p1) (by simp [Act.eval]) HL6.out H6.out (by intro e he; rw [List.mem_singleton] at he; subst he; exact HFar.out) HLN.out ?_; intro v7 w7 hl7 hb7 hf7; have HL7 := Lib.hid hl7; have HL7L := Lib.hid hb7; have HF7 : Hid (v7.ownBlock ≠ some w.heap.size) := hf7 _ (List.mem_singleton.2 rfl); clear hl7 hb7 hf7)
      go_wp2
      go_roundw
      case rel =>
        exact ⟨k + 1, _, HLT.out, by go_num, rfl, by rw [HTK.out]; exact HL7, HL7L, HF7⟩
      case measure => have := HLT.out; simp [intOf]; omega
    · obtain rfl : k = m.sg.length := by omega
      have l2 := HL.out.ldO ty_nums 0 rfl 3 (v := .slice co m.ck.length cc) rfl
      have HLs2 : Hid (Lst wr w.heap.size v (nM :: m.sg.map fun s => sgn s.1)) := by have := HLs; rw [List.take_length] at this; exact this
      have HB2 := Lib.hid HL.out.be
      clear HLs HL
      go_wp2
      clear l2
      go_loopw [3, 26] (fun lv iv wr => ∃ (k : Nat) (v : Value), k ≤ m.ck.length ∧ iv = .int .i64 (k : Int) ∧ v = lv ∧ Hid (Lst wr w.heap.size v ((nM :: m.sg.map fun s => sgn s.1) ++ (m.ck.take k).map ckn)) ∧ Hid (Below w.heap.size w wr)) (fun _ iv _ => m.ck.length - (intOf iv).toNat)
      case atStart => exact ⟨0, _, Nat.zero_le _, rfl, rfl, by rw [List.take_zero, List.map_nil, List.append_nil]; exact HLs2, HB2⟩
      case round =>
        obtain ⟨k, v2, hk2, rfl, rfl, HLs3, HB3⟩ := hrel
        by_cases hlt : k < m.ck.length
        · obtain ⟨b, o, hb, hone⟩ := HM.out.ns.one hlt
          subst hb
          have hf := HM.out.fit.ck _ (List.getElem_mem hlt)
          have hld := hone wr HB3.out
          have HTK : Hid ((nM :: m.sg.map fun s => sgn s.1) ++ (m.ck.take (k + 1)).map ckn = ((nM :: m.sg.map fun s => sgn s.1) ++ (m.ck.take k).map ckn) ++ [ckn (m.ck[k]'hlt)]) := by
            show _ = _
            rw [List.take_succ_eq_append_getElem hlt, List.map_append, List.append_assoc]; rfl
          have HLN : Hid (((nM :: m.sg.map fun s => sgn s.1) ++ (m.ck.take k).map ckn).length ≤ 1000000) := by show _ ≤ _; simp; omega
          obtain ⟨f, hp⟩ : ∃ p, p = m.ck[k]'hlt := ⟨_, rfl⟩
          rw [← hp] at hf hld HTK
          have HLT := Lib.hid hlt
          have HF := Lib.hid hf
          clear hone hp hf
          go_wp2_with fail
          refine (chk_c f wr HF.out).mono ?_
          rintro E w6 ⟨rfl, hb6⟩
          have HL6 := Lib.hid (HLs3.out.new hb6)
          have H6 : Hid (Loc w.heap.size w w6 []) := ⟨Nat.le_refl _, HB3.out.trans (hb6.mono HB3.out.size), fun _ h => (by cases h), List.nodup_nil, fun _ h => (by cases h)⟩
          clear hb6 hld HB3 HLs3
          rw [show str (99 :: hex f) = str (ckn f) from rfl]
          go_wp2_with (at_builtin; refine wpList_append_str rfl _ _ rfl (by simp [Act.eval]) (ckn f) (by simp [Act.eval]) HL6.out H6.out (fun e he => by cases he) HLN.out ?_; intro v7 w7 hl7 hb7 _; have HL7 := Lib.hid hl7; have HB7 := Lib.hid hb7.be; clear hl7 hb7)
          go_wp2
          go_roundw
          case rel => exact ⟨k + 1, _, HLT.out, by go_num, rfl, by rw [HTK.out]; exact HL7, HB7⟩
          case measure => have := HLT.out; simp [intOf]; omega
        · obtain rfl : k = m.ck.length := by omega
          have HFin : Hid (Q (.returned v2) wr) := by
            show Q _ _
            have := HLs3.out
            rw [List.take_length] at this
            rw [HQ.out]
            exact ⟨v2, rfl, this, HB3.out⟩
          go_wp2
          exact HFin.out
section
variable {V : Nat → Prop} {w : World} {gp q kc : Nat} {dv : Value} {ko : Option Addr} {p : Pw}
theorem PJ.names (h : PJ V w gp q dv ko kc p) : p.names.length ≤ 64 ∧ p.names.Nodup ∧ (∀ n ∈ p.names, n.length ≤ 32) ∧ DGood q p.E := by
  obtain ⟨S, h1, _⟩ := h
  have hg := h1.dk.good
  unfold Pw.names
  split
  · exact ⟨by decide, List.nodup_nil, fun n h => (by cases h), hg⟩
  · refine ⟨by rw [List.length_map]; exact hg.len, by have := hg.srt; unfold Srt at this; rw [List.nodup_iff_pairwise_ne, List.pairwise_map]; exact this.imp fun hab => nm_lt_ne hab, fun n hn => ?_, hg⟩
    obtain ⟨e, he, rfl⟩ := List.mem_map.1 hn
    have := hg.nms e he
    simp only [isNm, Bool.and_eq_true, decide_eq_true_eq] at this
    exact this.1.2
def ClPost (V : Nat → Prop) (w : World) (gp q : Nat) (dv : Value) (ko : Option Addr) (kc : Nat) (r : Nat × Pw) : Ending → World → Prop := fun R w' =>
  R = .returned (.int .i64 (r.1 : Int)) ∧ ∃ V', PJ V' w' gp q dv ko kc r.2 ∧ JTo V w V' w'
theorem clr_go {q : Nat} {ks : List (List UInt8)} {n : List UInt8} {l : List (List UInt8)} {p : Pw} (h : n ∈ ks) : clr q ks (n :: l) p = clr q ks l p := if_pos h
theorem clr_did {q : Nat} {ks : List (List UInt8)} {n : List UInt8} {l : List (List UInt8)} {p : Pw} (h : n ∉ ks) (h0 : p.wrc 4 q n [] = 0) : clr q ks (n :: l) p = clr q ks l (p.wr 4 q n []) := by
  show (if _ then _ else _) = _
  rw [if_neg h, if_pos h0]
theorem clr_bad {q : Nat} {ks : List (List UInt8)} {n : List UInt8} {l : List (List UInt8)} {p : Pw} (h : n ∉ ks) (h0 : p.wrc 4 q n [] ≠ 0) : clr q ks (n :: l) p = (p.wrc 4 q n [], p.wr 4 q n []) := by
  show (if _ then _ else _) = _
  rw [if_neg h, if_neg h0]
attribute [local go_sem ↓] ld_man
set_option maxHeartbeats 4000000 in
theorem clear_c (m : Mf) (so : Option Addr) (sc : Nat) (co : Option Addr) (cc : Nat) (w : World) (h : PJ V w gp q dv ko kc p) (hm : MfAt w m so co) (h1 : m.sg.length ≤ 400) (h2 : m.ck.length ≤ 400) (hn : p.n + 100 < 1000000) :
    Calls Tryz.prog 77 #[.pointer (some ⟨gp, 0, none⟩), .agg (mcs m so sc co cc)] w (ClPost V w gp q dv ko kc (clr q (jfs m) p.names p)) := by
  have HM := Lib.hid hm
  have HP := Lib.hid h
  have HN := Lib.hid hn
  have HNL := Lib.hid h.names
  have HSZ := Lib.hid (And.intro h1 h2)
  have H0 := Loc.one w 60 (mcs m so sc co cc)
  have l0 := H0.ldA ty_man 0 rfl 0 (vs := mcs m so sc co cc) rfl (Nat.le_of_ble_eq_true rfl)
  have HB0 := Lib.hid H0.be
  obtain ⟨Q, hQ⟩ : ∃ Q : Ending → World → Prop, Q = ClPost V w gp q dv ko kc (clr q (jfs m) p.names p) := ⟨_, rfl⟩
  rw [← hQ]
  have HQ := Lib.hid hQ
  clear hm h hn h1 h2 H0 hQ
  go_enter Tryz.func77, Tryz.ntmps77
  go_upto_region 1 with fail
  generalize w.alloc (.cells (mcs m so sc co cc) 60) = wa at *
  go_wp2_with fail
  refine (files_c m so sc co cc wa (HM.out.to HB0.out) HSZ.out.1 HSZ.out.2).mono ?_
  rintro R w1 ⟨v1, rfl, hl1, hb1⟩
  have HB1 := Lib.hid (HB0.out.trans (hb1.mono HB0.out.size))
  have HL1 := Lib.hid hl1
  clear hl1 hb1 l0
  obtain ⟨S, hpw, _⟩ := HP.out.new HB1.out
  have HPW := Lib.hid hpw
  clear hpw
  go_wp2_with fail
  refine (plist_c w1 HPW.out).mono ?_
  rintro R w2 ⟨v2, rfl, hl2, hb2⟩
  have HB2 := Lib.hid (HB1.out.trans (hb2.mono HB1.out.size))
  have HL12 := Lib.hid (HL1.out.new hb2)
  have HL2 := Lib.hid hl2
  have HSz : Hid (w.heap.size ≤ w1.heap.size) := HB1.out.size
  have HO1 : Hid (∀ x, v1.ownBlock = some x → w.heap.size ≤ x ∧ x < w2.heap.size) := fun x e => by
    have := HL1.out.lt x e
    have := HB0.out.size
    have := hb2.size
    omega
  have HO2 : Hid (∀ x, v2.ownBlock = some x → w.heap.size ≤ x ∧ x < w2.heap.size) := fun x e => by
    have := HL2.out.lt x e
    have := HB1.out.size
    omega
  obtain ⟨N, hN⟩ : ∃ N, N = p.names := ⟨_, rfl⟩
  rw [← hN] at HL2 HNL HQ
  obtain ⟨g2, c2, rfl⟩ : ∃ ao c2, v2 = .slice ao N.length c2 := by
    rcases HL2.out.2 with ⟨e, h0⟩ | ⟨g, cap, cur, e, _⟩
    · have : N.length = 0 := h0
      exact ⟨none, 0, by rw [e, this]⟩
    · exact ⟨_, cap, e⟩
  have hNl : N.length ≤ 64 := HNL.out.1
  clear hl2 hb2 HL1 HPW hN HB1
  go_wp2
  go_loopw [14] (fun iv wr => ∃ (k : Nat) (V1 : Nat → Prop) (p1 : Pw), k ≤ N.length ∧ iv = .int .i64 (k : Int) ∧ Hid (PJ V1 wr gp q dv ko kc p1) ∧ Hid (JTo V w V1 wr) ∧ Hid (w2.heap.size ≤ wr.heap.size ∧ ∀ x, V1 x → V x ∨ w2.heap.size ≤ x) ∧ Hid (clr q (jfs m) N p = clr q (jfs m) (N.drop k) p1) ∧ Hid (p1.n ≤ p.n + k) ∧ Hid (Lst wr w.heap.size v1 (jfs m)) ∧ Hid (Lst wr w.heap.size (.slice g2 N.length c2) N)) (fun iv _ => N.length - (intOf iv).toNat)
  case atStart => exact ⟨0, V, p, Nat.zero_le _, rfl, HP.out.new HB2.out, JTo.new HB2.out, ⟨Nat.le_refl _, fun x h => .inl h⟩, rfl, Nat.le_refl _, own_low HL12.out HB0.out.size, own_low HL2.out HSz.out⟩
  case round =>
    obtain ⟨k, V1, p1, hk, rfl, HP1, HT1, HV1, HC1, HN1, HL1, HL2'⟩ := hrel
    by_cases hlt : k < N.length
    · have hlt1 : (k : Int) < (N.length : Int) := by omega
      obtain ⟨gg, cp, e, hc⟩ := HL2'.out.at hlt
      have e1 : g2 = some ⟨gg, 0, none⟩ := by injection e
      subst e1
      rw [Nat.zero_add] at hc
      have HDK := Lib.hid (List.drop_eq_getElem_cons hlt)
      have hns := HNL.out.2.2.1 _ (List.getElem_mem hlt)
      obtain ⟨n, hn⟩ : ∃ n, n = N[k]'hlt := ⟨_, rfl⟩
      rw [← hn] at hc HDK hns
      have HLT := Lib.hid hlt
      have HNS := Lib.hid hns
      clear hn e hns
      have HCo := Lib.hid (contains_c (jfs m) n wr HL1.out (by have := HSZ.out; unfold jfs; simp; omega))
      by_cases hx : n ∈ jfs m
      · rw [decide_eq_true hx] at HCo
        have HX := Lib.hid hx
        clear hx
        go_wp2_with fail
        refine HCo.out.mono ?_
        rintro R w' ⟨rfl, rfl⟩
        clear HCo hc
        go_wp2
        go_roundw
        case rel =>
          refine ⟨k + 1, V1, p1, HLT.out, by go_num, HP1, HT1, HV1, ?_, ?_, HL1, HL2'⟩
          · show _ = _
            rw [HC1.out, HDK.out, clr_go HX.out]
          · show _ ≤ _; have := HN1.out; omega
        case measure => have := HLT.out; simp [intOf]; omega
      · rw [decide_eq_false hx] at HCo
        have HX := Lib.hid hx
        clear hx
        obtain ⟨S1, hpw1, hS1, hback⟩ := HP1.out.open
        have HPW1 := Lib.hid hpw1
        have HS1 := Lib.hid hS1
        have HBK := Lib.hid hback
        clear hpw1 hS1 hback
        go_wp2_with fail
        refine HCo.out.mono ?_
        rintro R w' ⟨rfl, rfl⟩
        clear HCo hc
        go_wp2_with fail
        refine (premove_c n [] wr HPW1.out HS1.out (Nat.le_trans HNS.out (by simp [maxLen])) (by simp) (by have := HN.out; have := HN1.out; have := HLT.out; omega)).mono ?_
        rintro R w5 ⟨rfl, hp5, ht5⟩
        obtain ⟨V5, hpj5, hto5⟩ := HBK.out w5 _ hp5 (swa_ks p1 _) ht5
        have HPJ5 := Lib.hid hpj5
        have HTO5 := Lib.hid hto5
        have HL15 : Hid (Lst w5 w.heap.size v1 (jfs m)) := row_tu HL1.out hto5.tu fun x hx hv => by
          have h1 := HO1.out x hx
          rcases HV1.out.2 x hv with h2 | h2
          · have := HP.out.lt x h2; omega
          · omega
        have HL25 : Hid (Lst w5 w.heap.size (.slice (some ⟨gg, 0, none⟩) N.length c2) N) := row_tu HL2'.out hto5.tu fun x hx hv => by
          have h1 := HO2.out x hx
          rcases HV1.out.2 x hv with h2 | h2
          · have := HP.out.lt x h2; omega
          · omega
        have HV5 : Hid (w2.heap.size ≤ w5.heap.size ∧ ∀ x, V5 x → V x ∨ w2.heap.size ≤ x) := ⟨Nat.le_trans HV1.out.1 hto5.tu.size, fun x hx => by
          rcases hto5.more x hx with h1 | h1
          · exact HV1.out.2 x h1
          · exact .inr (Nat.le_trans HV1.out.1 h1)⟩
        obtain ⟨cc5, hcc⟩ : ∃ c : Nat, c = p1.wrc 4 q n [] := ⟨_, rfl⟩
        have hcd : p1.code (wrR 4 q p1.E n []) = cc5 := hcc.symm
        rw [hcd]
        have HCC := Lib.hid hcc
        clear hp5 ht5 hpj5 hto5 hcc hcd HBK HPW1
        by_cases hz : cc5 = 0
        · have hq0 : ((cc5 : Int) != 0) = false := by rw [hz]; rfl
          have HZ := Lib.hid hz
          clear hz
          go_wp2
          go_roundw
          case rel =>
            refine ⟨k + 1, V5, p1.wr 4 q n [], HLT.out, by go_num, HPJ5, HT1.out.trans HTO5.out, HV5, ?_, ?_, HL15, HL25⟩
            · show _ = _
              rw [HC1.out, HDK.out, clr_did HX.out (by rw [← HCC.out]; exact HZ.out)]
            · show _ ≤ _; have := HN1.out; have : (p1.wr 4 q n []).n ≤ p1.n + 1 := swa_n _ _; omega
          case measure => have := HLT.out; simp [intOf]; omega
        · have hq0 : ((cc5 : Int) != 0) = true := by rw [bne_iff_ne]; omega
          have HF : Hid (Q (.returned (.int .i64 (cc5 : Int))) w5) := by
            show Q _ _
            rw [HQ.out, HC1.out, HDK.out, clr_bad HX.out (by rw [← HCC.out]; exact hz), HCC.out]
            exact ⟨rfl, V5, HPJ5.out, HT1.out.trans HTO5.out⟩
          go_wp2
          exact HF.out
    · have hlt1 : ¬ (k : Int) < (N.length : Int) := by omega
      have HF : Hid (Q (.returned (.int .i64 0)) wr) := by
        show Q _ _
        rw [HQ.out, HC1.out, List.drop_of_length_le (by omega)]
        exact ⟨rfl, V1, HP1.out, HT1.out⟩
      go_wp2
      exact HF.out
end
end Go.Proofs.YtgeaacabpnepmaaGreatDoor
