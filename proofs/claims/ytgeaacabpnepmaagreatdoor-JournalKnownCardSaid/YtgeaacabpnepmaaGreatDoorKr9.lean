/- Texts of the walk. -/
import Derived.Test.YtgeaacabpnepmaaGreatDoorKp9
/- The files of a manifest; clearing. -/
namespace Go.Proofs.YtgeaacabpnepmaaGreatDoor
open Go.RowKit
set_option linter.unusedVariables false
set_option linter.unusedSimpArgs false
set_option maxRecDepth 20000

/-- append(names, a name). -/
theorem wpList_append_str {w : World} {B : Nat} {v : Value} {l : List (List UInt8)} {ops : Array Oper} {rest : List Oper} {o : Oper} {a : Act} {Q : Exit → Act → World → Prop} (hgd : o.guard = none) (s x : Operand)
    (ho : o.op = .call { callee := .builtin .append, args := #[s, x], argTypes := #[78, 78] }) (hs : a.eval s = v) (n : List UInt8) (hx : a.eval x = .slice (some ⟨w.heap.size, 0, none⟩) 1 1) (hL : Lst w B v l) {w0 : World} {L : List (Nat × TypeId × Array Value)} (hLo : Loc B w0 w L) (hfar : ∀ e ∈ L, v.ownBlock ≠ some e.1) (hl : l.length ≤ 1000000)
    (h : ∀ v' w', Lst w' B v' (l ++ [n]) → Loc B w0 w' L → (∀ e ∈ L, v'.ownBlock ≠ some e.1) → wpList Tryz.prog ops Q rest (a.put o.dst v') w') : wpList Tryz.prog ops Q (o :: rest) a (w.alloc (.cells #[.string (str n)] 9)) := by
  obtain ⟨i0, hi0, hz0, hz1, hz2⟩ := info_parts info_st
  have hal : w.grownBy (w.alloc (.cells #[.string (str n)] 9)) none := grown_alloc _ _
  have hL1 : Lst (w.alloc (.cells #[.string (str n)] 9)) B v l := hL.new (below_of_grown hal)
  have hB := hLo.size
  refine wpList_append_lies _ hgd s x 78 ho B 9 i0 (.string ⟨#[]⟩) 1 16 Tryz.underlying78 hi0 hz0 hz1 hz2 rfl (by decide) v l.length _ hs hL1 ⟨w.heap.size, 0, none⟩ 1 1 [.string (str n)] hx rfl (cell_one_new _ _ _) (by simp [Value.oneCell']) (by decide) (by simp only [maxLen]; omega) (by omega) (by have := hal.size; omega) _ rfl fun g cap w' hown hgr hat _ => ?_
  refine h _ _ ?_ ?_ ?_
  · unfold Lst
    rw [List.map_append, List.length_append]
    exact hown
  · have h1 := hLo.grown hal
    cases hv : v.ownBlock with
    | none => rw [hv] at hgr; exact h1.grown hgr
    | some r => rw [hv] at hgr; exact h1.row hgr (hL.lt r hv).1 (fun e he q => hfar e he (by rw [hv, q]))
  · intro e he q
    have q : g = e.1 := by simpa [Value.ownBlock] using q
    rcases hat with hat | hat
    · exact hfar e he (by rw [hat, q])
    · have := hLo.low he
      simp at hat
      omega
attribute [local go_sem ↓] ld_man ld_parts ld_part st_part ld_nums ld_u64
def LstPost (l : List (List UInt8)) (w : World) (R : Ending) (w' : World) : Prop := ∃ v, R = .returned v ∧ Lst w' w.heap.size v l ∧ Below w.heap.size w w'
theorem str_nM : str nM = ⟨#[109, 97, 110, 105, 102, 101, 115, 116]⟩ := rfl
set_option maxHeartbeats 2000000 in
theorem files_c (m : Mf) (so : Option Addr) (sc : Nat) (co : Option Addr) (cc : Nat) (w : World) (h : MfAt w m so co) (h1 : m.sg.length ≤ 400) (h2 : m.ck.length ≤ 400) :
    Calls Tryz.prog 120 #[.agg (mcs m so sc co cc)] w (LstPost (jfs m) w) := by
  have HM := Lib.hid h
  have H0 := Loc.one w 60 (mcs m so sc co cc)
  have l0 := H0.ldO ty_parts 0 rfl 2 (v := .slice so m.sg.length sc) rfl
  have HL0 := Lib.hid H0
  obtain ⟨Q, hQ⟩ : ∃ Q : Ending → World → Prop, Q = LstPost (jfs m) w := ⟨_, rfl⟩
  rw [← hQ]
  have HQ := Lib.hid hQ
  clear h hQ H0
  go_enter Tryz.func120, Tryz.ntmps120
  go_upto_region 1 with fail
  generalize w.alloc (.cells (mcs m so sc co cc) 60) = wa at *
  have HN0 : Hid (Lst (wa.alloc (.cells #[.string (str nM)] 9)) w.heap.size (.slice (some ⟨wa.heap.size, 0, none⟩) 1 1) [nM]) :=
    ⟨rfl, .inr ⟨wa.heap.size, 1, #[.string (str nM)], rfl, HL0.out.size, heap_alloc_new wa _, Nat.le_refl _, by simp [maxLen], rfl, by simp⟩⟩
  have HLb := Lib.hid (HL0.out.to (below_alloc wa (.cells #[.string (str nM)] 9)))
  rw [str_nM] at HN0 HLb
  have l1 := HLb.out.ldO ty_parts 0 rfl 2 (v := .slice so m.sg.length sc) rfl
  have HWA : Hid (w.heap.size < wa.heap.size) := by show _ < _; exact (HL0.out.low (e := (w.heap.size, 60, mcs m so sc co cc)) (by simp))
  clear l0 HL0
  go_wp2
  clear l1
  go_loopw [3, 12] (fun lv iv wr => ∃ (k : Nat) (v : Value), k ≤ m.sg.length ∧ iv = .int .i64 (k : Int) ∧ v = lv ∧ Hid (Lst wr w.heap.size v (nM :: (m.sg.take k).map fun s => sgn s.1)) ∧ Hid (Loc w.heap.size w wr [(w.heap.size, 60, mcs m so sc co cc)]) ∧ Hid (v.ownBlock ≠ some w.heap.size)) (fun _ iv _ => m.sg.length - (intOf iv).toNat)
  case atStart => exact ⟨0, _, Nat.zero_le _, rfl, rfl, by rw [List.take_zero]; exact HN0, HLb, by show Value.ownBlock _ ≠ _; have := HWA.out; simp [Value.ownBlock]; omega⟩
  case round =>
    obtain ⟨k, v, hk, rfl, rfl, HLs, HL, HFar⟩ := hrel
    by_cases hlt : k < m.sg.length
    · obtain ⟨b, o, hb, hone⟩ := HM.out.ps.one hlt
      subst hb
      have hf := HM.out.fit.sg _ (List.getElem_mem hlt)
      have hld := (hone wr HL.out.be).1 _ ty_part
      have HTK : Hid ((nM :: (m.sg.take (k + 1)).map fun s => sgn s.1) = (nM :: (m.sg.take k).map fun s => sgn s.1) ++ [sgn (m.sg[k]'hlt).1]) := by
        show _ = _
        rw [List.take_succ_eq_append_getElem hlt, List.map_append]; rfl
      have HLN : Hid ((nM :: (m.sg.take k).map fun s => sgn s.1).length ≤ 1000000) := by show _ ≤ _; simp; omega
      obtain ⟨⟨p1, p2⟩, hp⟩ : ∃ p, p = m.sg[k]'hlt := ⟨_, rfl⟩
      rw [← hp] at hf hld HTK
      dsimp only at hf hld HTK
      obtain ⟨hp1, hp2⟩ := hf
      have HLT := Lib.hid hlt
      have HP1 := Lib.hid hp1
      clear hone hp hp1 hp2
      obtain ⟨g5, w5, z5, s5, H5, q5⟩ := HL.out.newA ty_part #[.int .u64 0, .int .u64 0] #[.int .u64 (p1 : Int), .int .u64 (p2 : Int)] rfl rfl rfl
      have l5 := H5.ldO ty_u64 1 rfl 0 (v := .int .u64 (p1 : Int)) rfl
      have HL5 := Lib.hid (HLs.out.new (below_of_grown q5))
      have H5' := Lib.hid H5
      clear H5 q5
      go_wp2_with fail
      refine (seg_c p1 w5 HP1.out).mono ?_
      rintro E w6 ⟨rfl, hb6⟩
      have HL6 := Lib.hid (HL5.out.new hb6)
      have H6 : Hid (Loc w.heap.size w w6 [(w.heap.size, 60, mcs m (some ⟨b, o, none⟩) sc co cc)]) := (H5'.out.to hb6).drop 1 rfl
      clear hb6 l5 s5 z5 hld
      rw [show str (115 :: hex p1) = str (sgn p1) from rfl]
      go_wp2_with (at_builtin; refine wpList_append_str rfl _ _ rfl (by simp [Act.eval]) (sgn p1) (by simp [Act.eval]) HL6.out H6.out (by intro e he; rw [List.mem_singleton] at he; subst he; exact HFar.out) HLN.out ?_; intro v7 w7 hl7 hb7 hf7; have HL7 := Lib.hid hl7; have HL7L := Lib.hid hb7; have HF7 : Hid (v7.ownBlock ≠ some w.heap.size) := hf7 _ (List.mem_singleton.2 rfl); clear hl7 hb7 hf7)
      go_wp2
      go_roundw
      case rel =>
        exact ⟨k + 1, _, HLT.out, by go_num, rfl, by rw [HTK.out]; exact HL7, HL7L, HF7⟩
      case measure => have := HLT.out; simp [intOf]; omega
    · obtain rfl : k = m.sg.length := by omega
      have l2 := HL.out.ldO ty_nums 0 rfl 3 (v := .slice co m.ck.length cc) rfl
      have HLs2 : Hid (Lst wr w.heap.size v (nM :: m.sg.map fun s => sgn s.1)) := by have := HLs; rw [List.take_length] at this; exact this
      have HB2 := Lib.hid HL.out.be
      clear HLs HL
      go_wp2
      clear l2
      go_loopw [3, 26] (fun lv iv wr => ∃ (k : Nat) (v : Value), k ≤ m.ck.length ∧ iv = .int .i64 (k : Int) ∧ v = lv ∧ Hid (Lst wr w.heap.size v ((nM :: m.sg.map fun s => sgn s.1) ++ (m.ck.take k).map ckn)) ∧ Hid (Below w.heap.size w wr)) (fun _ iv _ => m.ck.length - (intOf iv).toNat)
      case atStart => exact ⟨0, _, Nat.zero_le _, rfl, rfl, by rw [List.take_zero, List.map_nil, List.append_nil]; exact HLs2, HB2⟩
      case round =>
        obtain ⟨k, v2, hk2, rfl, rfl, HLs3, HB3⟩ := hrel
        by_cases hlt : k < m.ck.length
        · obtain ⟨b, o, hb, hone⟩ := HM.out.ns.one hlt
          subst hb
          have hf := HM.out.fit.ck _ (List.getElem_mem hlt)
          have hld := hone wr HB3.out
          have HTK : Hid ((nM :: m.sg.map fun s => sgn s.1) ++ (m.ck.take (k + 1)).map ckn = ((nM :: m.sg.map fun s => sgn s.1) ++ (m.ck.take k).map ckn) ++ [ckn (m.ck[k]'hlt)]) := by
            show _ = _
            rw [List.take_succ_eq_append_getElem hlt, List.map_append, List.append_assoc]; rfl
          have HLN : Hid (((nM :: m.sg.map fun s => sgn s.1) ++ (m.ck.take k).map ckn).length ≤ 1000000) := by show _ ≤ _; simp; omega
          obtain ⟨f, hp⟩ : ∃ p, p = m.ck[k]'hlt := ⟨_, rfl⟩
          rw [← hp] at hf hld HTK
          have HLT := Lib.hid hlt
          have HF := Lib.hid hf
          clear hone hp hf
          go_wp2_with fail
          refine (chk_c f wr HF.out).mono ?_
          rintro E w6 ⟨rfl, hb6⟩
          have HL6 := Lib.hid (HLs3.out.new hb6)
          have H6 : Hid (Loc w.heap.size w w6 []) := ⟨Nat.le_refl _, HB3.out.trans (hb6.mono HB3.out.size), fun _ h => (by cases h), List.nodup_nil, fun _ h => (by cases h)⟩
          clear hb6 hld HB3 HLs3
          rw [show str (99 :: hex f) = str (ckn f) from rfl]
          go_wp2_with (at_builtin; refine wpList_append_str rfl _ _ rfl (by simp [Act.eval]) (ckn f) (by simp [Act.eval]) HL6.out H6.out (fun e he => by cases he) HLN.out ?_; intro v7 w7 hl7 hb7 _; have HL7 := Lib.hid hl7; have HB7 := Lib.hid hb7.be; clear hl7 hb7)
          go_wp2
          go_roundw
          case rel => exact ⟨k + 1, _, HLT.out, by go_num, rfl, by rw [HTK.out]; exact HL7, HB7⟩
          case measure => have := HLT.out; simp [intOf]; omega
        · obtain rfl : k = m.ck.length := by omega
          have HFin : Hid (Q (.returned v2) wr) := by
            show Q _ _
            have := HLs3.out
            rw [List.take_length] at this
            rw [HQ.out]
            exact ⟨v2, rfl, this, HB3.out⟩
          go_wp2
          exact HFin.out
section
variable {V : Nat → Prop} {w : World} {gp q kc : Nat} {dv : Value} {ko : Option Addr} {p : Pw}
theorem PJ.names (h : PJ V w gp q dv ko kc p) : p.names.length ≤ 64 ∧ p.names.Nodup ∧ (∀ n ∈ p.names, n.length ≤ 32) ∧ DGood q p.E := by
  obtain ⟨S, h1, _⟩ := h
  have hg := h1.dk.good
  unfold Pw.names
  split
  · exact ⟨by decide, List.nodup_nil, fun n h => (by cases h), hg⟩
  · refine ⟨by rw [List.length_map]; exact hg.len, by have := hg.srt; unfold Srt at this; rw [List.nodup_iff_pairwise_ne, List.pairwise_map]; exact this.imp fun hab => nm_lt_ne hab, fun n hn => ?_, hg⟩
    obtain ⟨e, he, rfl⟩ := List.mem_map.1 hn
    have := hg.nms e he
    simp only [isNm, Bool.and_eq_true, decide_eq_true_eq] at this
    exact this.1.2
/-- What clearing answers, and leaves. -/
def ClPost (V : Nat → Prop) (w : World) (gp q : Nat) (dv : Value) (ko : Option Addr) (kc : Nat) (r : Nat × Pw) : Ending → World → Prop := fun R w' =>
  R = .returned (.int .i64 (r.1 : Int)) ∧ ∃ V', PJ V' w' gp q dv ko kc r.2 ∧ JTo V w V' w'
theorem clr_go {q : Nat} {ks : List (List UInt8)} {n : List UInt8} {l : List (List UInt8)} {p : Pw} (h : n ∈ ks) : clr q ks (n :: l) p = clr q ks l p := if_pos h
theorem clr_did {q : Nat} {ks : List (List UInt8)} {n : List UInt8} {l : List (List UInt8)} {p : Pw} (h : n ∉ ks) (h0 : p.wrc 4 q n [] = 0) : clr q ks (n :: l) p = clr q ks l (p.wr 4 q n []) := by
  show (if _ then _ else _) = _
  rw [if_neg h, if_pos h0]
theorem clr_bad {q : Nat} {ks : List (List UInt8)} {n : List UInt8} {l : List (List UInt8)} {p : Pw} (h : n ∉ ks) (h0 : p.wrc 4 q n [] ≠ 0) : clr q ks (n :: l) p = (p.wrc 4 q n [], p.wr 4 q n []) := by
  show (if _ then _ else _) = _
  rw [if_neg h, if_neg h0]
attribute [local go_sem ↓] ld_man
set_option maxHeartbeats 4000000 in
theorem clear_c (m : Mf) (so : Option Addr) (sc : Nat) (co : Option Addr) (cc : Nat) (w : World) (h : PJ V w gp q dv ko kc p) (hm : MfAt w m so co) (h1 : m.sg.length ≤ 400) (h2 : m.ck.length ≤ 400) (hn : p.n + 100 < 1000000) :
    Calls Tryz.prog 77 #[.pointer (some ⟨gp, 0, none⟩), .agg (mcs m so sc co cc)] w (ClPost V w gp q dv ko kc (clr q (jfs m) p.names p)) := by
  have HM := Lib.hid hm
  have HP := Lib.hid h
  have HN := Lib.hid hn
  have HNL := Lib.hid h.names
  have HSZ := Lib.hid (And.intro h1 h2)
  have H0 := Loc.one w 60 (mcs m so sc co cc)
  have l0 := H0.ldA ty_man 0 rfl 0 (vs := mcs m so sc co cc) rfl (Nat.le_of_ble_eq_true rfl)
  have HB0 := Lib.hid H0.be
  obtain ⟨Q, hQ⟩ : ∃ Q : Ending → World → Prop, Q = ClPost V w gp q dv ko kc (clr q (jfs m) p.names p) := ⟨_, rfl⟩
  rw [← hQ]
  have HQ := Lib.hid hQ
  clear hm h hn h1 h2 H0 hQ
  go_enter Tryz.func77, Tryz.ntmps77
  go_upto_region 1 with fail
  generalize w.alloc (.cells (mcs m so sc co cc) 60) = wa at *
  go_wp2_with fail
  refine (files_c m so sc co cc wa (HM.out.to HB0.out) HSZ.out.1 HSZ.out.2).mono ?_
  rintro R w1 ⟨v1, rfl, hl1, hb1⟩
  have HB1 := Lib.hid (HB0.out.trans (hb1.mono HB0.out.size))
  have HL1 := Lib.hid hl1
  clear hl1 hb1 l0
  obtain ⟨S, hpw, _⟩ := HP.out.new HB1.out
  have HPW := Lib.hid hpw
  clear hpw
  go_wp2_with fail
  refine (plist_c w1 HPW.out).mono ?_
  rintro R w2 ⟨v2, rfl, hl2, hb2⟩
  have HB2 := Lib.hid (HB1.out.trans (hb2.mono HB1.out.size))
  have HL12 := Lib.hid (HL1.out.new hb2)
  have HL2 := Lib.hid hl2
  have HSz : Hid (w.heap.size ≤ w1.heap.size) := HB1.out.size
  have HO1 : Hid (∀ x, v1.ownBlock = some x → w.heap.size ≤ x ∧ x < w2.heap.size) := fun x e => by
    have := HL1.out.lt x e
    have := HB0.out.size
    have := hb2.size
    omega
  have HO2 : Hid (∀ x, v2.ownBlock = some x → w.heap.size ≤ x ∧ x < w2.heap.size) := fun x e => by
    have := HL2.out.lt x e
    have := HB1.out.size
    omega
  obtain ⟨N, hN⟩ : ∃ N, N = p.names := ⟨_, rfl⟩
  rw [← hN] at HL2 HNL HQ
  obtain ⟨g2, c2, rfl⟩ : ∃ ao c2, v2 = .slice ao N.length c2 := by
    rcases HL2.out.2 with ⟨e, h0⟩ | ⟨g, cap, cur, e, _⟩
    · have : N.length = 0 := h0
      exact ⟨none, 0, by rw [e, this]⟩
    · exact ⟨_, cap, e⟩
  have hNl : N.length ≤ 64 := HNL.out.1
  clear hl2 hb2 HL1 HPW hN HB1
  go_wp2
  go_loopw [14] (fun iv wr => ∃ (k : Nat) (V1 : Nat → Prop) (p1 : Pw), k ≤ N.length ∧ iv = .int .i64 (k : Int) ∧ Hid (PJ V1 wr gp q dv ko kc p1) ∧ Hid (JTo V w V1 wr) ∧ Hid (w2.heap.size ≤ wr.heap.size ∧ ∀ x, V1 x → V x ∨ w2.heap.size ≤ x) ∧ Hid (clr q (jfs m) N p = clr q (jfs m) (N.drop k) p1) ∧ Hid (p1.n ≤ p.n + k) ∧ Hid (Lst wr w.heap.size v1 (jfs m)) ∧ Hid (Lst wr w.heap.size (.slice g2 N.length c2) N)) (fun iv _ => N.length - (intOf iv).toNat)
  case atStart => exact ⟨0, V, p, Nat.zero_le _, rfl, HP.out.new HB2.out, JTo.new HB2.out, ⟨Nat.le_refl _, fun x h => .inl h⟩, rfl, Nat.le_refl _, own_low HL12.out HB0.out.size, own_low HL2.out HSz.out⟩
  case round =>
    obtain ⟨k, V1, p1, hk, rfl, HP1, HT1, HV1, HC1, HN1, HL1, HL2'⟩ := hrel
    by_cases hlt : k < N.length
    · have hlt1 : (k : Int) < (N.length : Int) := by omega
      obtain ⟨gg, cp, e, hc⟩ := HL2'.out.at hlt
      have e1 : g2 = some ⟨gg, 0, none⟩ := by injection e
      subst e1
      rw [Nat.zero_add] at hc
      have HDK := Lib.hid (List.drop_eq_getElem_cons hlt)
      have hns := HNL.out.2.2.1 _ (List.getElem_mem hlt)
      obtain ⟨n, hn⟩ : ∃ n, n = N[k]'hlt := ⟨_, rfl⟩
      rw [← hn] at hc HDK hns
      have HLT := Lib.hid hlt
      have HNS := Lib.hid hns
      clear hn e hns
      have HCo := Lib.hid (contains_c (jfs m) n wr HL1.out (by have := HSZ.out; unfold jfs; simp; omega))
      by_cases hx : n ∈ jfs m
      · rw [decide_eq_true hx] at HCo
        have HX := Lib.hid hx
        clear hx
        go_wp2_with fail
        refine HCo.out.mono ?_
        rintro R w' ⟨rfl, rfl⟩
        clear HCo hc
        go_wp2
        go_roundw
        case rel =>
          refine ⟨k + 1, V1, p1, HLT.out, by go_num, HP1, HT1, HV1, ?_, ?_, HL1, HL2'⟩
          · show _ = _
            rw [HC1.out, HDK.out, clr_go HX.out]
          · show _ ≤ _; have := HN1.out; omega
        case measure => have := HLT.out; simp [intOf]; omega
      · rw [decide_eq_false hx] at HCo
        have HX := Lib.hid hx
        clear hx
        obtain ⟨S1, hpw1, hS1, hback⟩ := HP1.out.open
        have HPW1 := Lib.hid hpw1
        have HS1 := Lib.hid hS1
        have HBK := Lib.hid hback
        clear hpw1 hS1 hback
        go_wp2_with fail
        refine HCo.out.mono ?_
        rintro R w' ⟨rfl, rfl⟩
        clear HCo hc
        go_wp2_with fail
        refine (premove_c n [] wr HPW1.out HS1.out (Nat.le_trans HNS.out (by simp [maxLen])) (by simp) (by have := HN.out; have := HN1.out; have := HLT.out; omega)).mono ?_
        rintro R w5 ⟨rfl, hp5, ht5⟩
        obtain ⟨V5, hpj5, hto5⟩ := HBK.out w5 _ hp5 (swa_ks p1 _) ht5
        have HPJ5 := Lib.hid hpj5
        have HTO5 := Lib.hid hto5
        have HL15 : Hid (Lst w5 w.heap.size v1 (jfs m)) := row_tu HL1.out hto5.tu fun x hx hv => by
          have h1 := HO1.out x hx
          rcases HV1.out.2 x hv with h2 | h2
          · have := HP.out.lt x h2; omega
          · omega
        have HL25 : Hid (Lst w5 w.heap.size (.slice (some ⟨gg, 0, none⟩) N.length c2) N) := row_tu HL2'.out hto5.tu fun x hx hv => by
          have h1 := HO2.out x hx
          rcases HV1.out.2 x hv with h2 | h2
          · have := HP.out.lt x h2; omega
          · omega
        have HV5 : Hid (w2.heap.size ≤ w5.heap.size ∧ ∀ x, V5 x → V x ∨ w2.heap.size ≤ x) := ⟨Nat.le_trans HV1.out.1 hto5.tu.size, fun x hx => by
          rcases hto5.more x hx with h1 | h1
          · exact HV1.out.2 x h1
          · exact .inr (Nat.le_trans HV1.out.1 h1)⟩
        obtain ⟨cc5, hcc⟩ : ∃ c : Nat, c = p1.wrc 4 q n [] := ⟨_, rfl⟩
        have hcd : p1.code (wrR 4 q p1.E n []) = cc5 := hcc.symm
        rw [hcd]
        have HCC := Lib.hid hcc
        clear hp5 ht5 hpj5 hto5 hcc hcd HBK HPW1
        by_cases hz : cc5 = 0
        · have hq0 : ((cc5 : Int) != 0) = false := by rw [hz]; rfl
          have HZ := Lib.hid hz
          clear hz
          go_wp2
          go_roundw
          case rel =>
            refine ⟨k + 1, V5, p1.wr 4 q n [], HLT.out, by go_num, HPJ5, HT1.out.trans HTO5.out, HV5, ?_, ?_, HL15, HL25⟩
            · show _ = _
              rw [HC1.out, HDK.out, clr_did HX.out (by rw [← HCC.out]; exact HZ.out)]
            · show _ ≤ _; have := HN1.out; have : (p1.wr 4 q n []).n ≤ p1.n + 1 := swa_n _ _; omega
          case measure => have := HLT.out; simp [intOf]; omega
        · have hq0 : ((cc5 : Int) != 0) = true := by rw [bne_iff_ne]; omega
          have HF : Hid (Q (.returned (.int .i64 (cc5 : Int))) w5) := by
            show Q _ _
            rw [HQ.out, HC1.out, HDK.out, clr_bad HX.out (by rw [← HCC.out]; exact hz), HCC.out]
            exact ⟨rfl, V5, HPJ5.out, HT1.out.trans HTO5.out⟩
          go_wp2
          exact HF.out
    · have hlt1 : ¬ (k : Int) < (N.length : Int) := by omega
      have HF : Hid (Q (.returned (.int .i64 0)) wr) := by
        show Q _ _
        rw [HQ.out, HC1.out, List.drop_of_length_le (by omega)]
        exact ⟨rfl, V1, HP1.out, HT1.out⟩
      go_wp2
      exact HF.out
end
end Go.Proofs.YtgeaacabpnepmaaGreatDoor
/- Records written, segments begun, manifests swapped: the journal's inner calls. -/
namespace Go.Proofs.YtgeaacabpnepmaaGreatDoor
open Go.RowKit
set_option linter.unusedVariables false
set_option linter.unusedSimpArgs false
set_option maxRecDepth 20000

section
variable {V : Nat → Prop} {w : World} {gj gp q kc : Nat} {dv : Value} {ko : Option Addr} {p : Pw} {j : Jn}
theorem JC.names (h : JC V w gj gp q dv ko kc p j) : p.names.length ≤ 64 ∧ p.names.Nodup ∧ (∀ n ∈ p.names, n.length ≤ 32) ∧ DGood q p.E := h.pj.names
theorem JC.jnf (h : JC V w gj gp q dv ko kc p j) : JnF j ∧ j.m.fit := by
  obtain ⟨S, ao, ac, so, sc, co, cc, hx⟩ := h
  exact ⟨hx.jn.fit, hx.jn.man.fit⟩
/-- The power's part of it worked on alone. -/
theorem JC.split (h : JC V w gj gp q dv ko kc p j) : ∃ Vp, PJ Vp w gp q dv ko kc p ∧ ∀ w1 Vp' p', PJ Vp' w1 gp q dv ko kc p' → p'.ks = p.ks → JTo Vp w Vp' w1 → ∃ V', JC V' w1 gj gp q dv ko kc p' j ∧ JTo V w V' w1 := by
  obtain ⟨S, ao, ac, so, sc, co, cc, hx⟩ := h
  have hgp := hx.jn.far
  refine ⟨fun x => x = gp ∨ S x ∨ (p.ks ≠ [] ∧ ∃ a, ko = some a ∧ a.block = x), ⟨S, hx.pw, .inl rfl, fun x h => .inr (.inl h), fun a e hn => .inr (.inr ⟨hn, a, e, rfl⟩), ?_⟩, fun w1 Vp' p' hp hk ht => ?_⟩
  · rintro x (rfl | h | ⟨hn, a, e, rfl⟩)
    · exact hx.pw.lt
    · exact hx.lt x (hx.vs x h)
    · exact (hx.pw.kf a e hn).2
  · obtain ⟨S', h1, h2, h3, h4, h5⟩ := hp
    have hfar : ∀ x, (x = gj ∨ jsl j ao so co x) → ¬ (x = gp ∨ S x ∨ (p.ks ≠ [] ∧ ∃ a, ko = some a ∧ a.block = x)) := fun x hj h => by
      rcases h with h | h | ⟨hn, a, e, h⟩
      · exact (hgp x hj).1 h
      · exact (hgp x hj).2 h
      · exact (hx.vk a e hn).2 x hj h
    have hV' : ∀ x, Vp' x → V x ∨ w.heap.size ≤ x := fun x h => by
      rcases ht.more x h with (h | h | ⟨hn, a, e, h⟩) | h
      · exact .inl (h ▸ hx.vp)
      · exact .inl (hx.vs x h)
      · exact .inl (h ▸ (hx.vk a e hn).1)
      · exact .inr h
    have hno : ∀ x, (x = gj ∨ jsl j ao so co x) → ¬ Vp' x := fun x hj h => by
      rcases ht.more x h with h | h
      · exact hfar x hj h
      · have := hx.jn.lt hj; omega
    refine ⟨fun x => V x ∨ (w.heap.size ≤ x ∧ x < w1.heap.size), ⟨S', ao, ac, so, sc, co, cc, ⟨h1, (hx.jn.tu ht.tu hfar).less fun x hj h => absurd (h3 x h) (hno x hj), .inl hx.vp, fun x h => ?_, fun a e hn => ⟨.inl (hx.vk a e (by rw [← hk]; exact hn)).1, (hx.vk a e (by rw [← hk]; exact hn)).2⟩, fun x h => .inl (hx.vj x h), ?_⟩⟩, ⟨fun x h => h.imp id And.left, ht.tu.mono fun x _ h => ?_⟩⟩
    · rcases hV' x (h3 x h) with h | h1
      · exact .inl h
      · exact .inr ⟨h1, h5 x (h3 x h)⟩
    · rintro x (h | h)
      · exact Nat.lt_of_lt_of_le (hx.lt x h) ht.tu.size
      · exact h.2
    · rcases h with h | h | ⟨hn, a, e, h⟩
      · exact h ▸ hx.vp
      · exact hx.vs x h
      · exact h ▸ (hx.vk a e hn).1
/-- The same with where all lies. -/
theorem JX.tu {S T : Nat → Prop} {ao so co : Option Addr} {ac sc cc : Nat} {w1 : World} (h : JX V w gj gp q dv ko kc p j S ao ac so sc co cc) (k : Tu T w w1) (hT : ∀ x, V x → ¬ T x) : JX V w1 gj gp q dv ko kc p j S ao ac so sc co cc := by
  obtain ⟨h1, h0, h2, h3, h4, h6, h5⟩ := h
  exact ⟨h1.tu k (hT _ h2) (fun a e hn => hT _ (h4 a e hn).1) (fun x _ hx => hT _ (h3 x hx)), h0.tu k (fun x hx => hT _ (h6 x hx)), h2, h3, h4, h6, fun x hx => Nat.lt_of_lt_of_le (h5 x hx) k.size⟩
theorem JX.new {S : Nat → Prop} {ao so co : Option Addr} {ac sc cc : Nat} {w1 : World} (h : JX V w gj gp q dv ko kc p j S ao ac so sc co cc) (hb : Below w.heap.size w w1) : JX V w1 gj gp q dv ko kc p j S ao ac so sc co cc := h.tu (T := fun _ => False) (.new hb) (fun _ _ h => h)
theorem JX.open {S : Nat → Prop} {ao so co : Option Addr} {ac sc cc : Nat} (h : JX V w gj gp q dv ko kc p j S ao ac so sc co cc) : ∃ S', PwC S' w gp dv q ko kc p ∧ (∀ x, w.heap.size ≤ x → S' x) ∧ ∀ w1 p', PwC S' w1 gp dv q ko kc p' → p'.ks = p.ks → Tu (fun x => x = gp ∨ S' x) w w1 → ∃ V' S'', JX V' w1 gj gp q dv ko kc p' j S'' ao ac so sc co cc ∧ JTo V w V' w1 := by
  obtain ⟨h1, h0, h2, h3, h4, h6, h5⟩ := h
  refine ⟨_, h1.wide, fun x hx => .inr hx, fun w1 p' hp hk ht => ⟨fun x => V x ∨ (w.heap.size ≤ x ∧ x < w1.heap.size), _, ⟨hp.trim, ?_, .inl h2, ?_, fun a e hn => ⟨.inl (h4 a e (by rw [← hk]; exact hn)).1, (h4 a e (by rw [← hk]; exact hn)).2⟩, fun x hx => .inl (h6 x hx), ?_⟩, ⟨fun x hx => hx.imp id And.left, ?_⟩⟩⟩
  · refine (h0.tu ht fun x hx => ?_).less fun x hx hs => ?_
    · have := h0.far x hx
      have := h0.lt hx
      rintro (e | e | e)
      · exact (h0.far x hx).1 e
      · exact (h0.far x hx).2 e
      · omega
    · have := h0.lt hx
      exact hs.1.resolve_right (by omega)
  · rintro x ⟨hx | hx, hl⟩
    · exact .inl (h3 x hx)
    · exact .inr ⟨hx, hl⟩
  · rintro x (hx | hx)
    · exact Nat.lt_of_lt_of_le (h5 x hx) ht.size
    · exact hx.2
  · refine ht.mono fun x hx hs => ?_
    rcases hs with rfl | hs | hs
    · exact h2
    · exact h3 x hs
    · omega
theorem cells_new {g : Nat} {t : TypeId} {cs : Array Value} {w1 : World} (h : Cells w g t cs) (hb : Below w.heap.size w w1) : Cells w1 g t cs := Cells.tu h (Tu.new (S := fun _ => False) hb) (fun h => h)
/-- What of the journal is read on the way: its power, its manifest. -/
def JS (gj gp : Nat) (j : Jn) (so : Option Addr) (sc : Nat) (co : Option Addr) (cc : Nat) (W : World) : Prop :=
  (ldT 50 (.pointer (some ⟨gj, 0, none⟩))).run Tryz.prog W = .ok (.pointer (some ⟨gp, 0, none⟩)) W ∧ (ldT 60 (.pointer (some ⟨gj, 6, none⟩))).run Tryz.prog W = .ok (.agg (mcs j.m so sc co cc)) W
theorem js_of {ao so co : Option Addr} {ac sc cc : Nat} (h : Cells w gj 69 (jcs gp j ao ac so sc co cc)) : JS gj gp j so sc co cc w :=
  ⟨run_ldO ty_pw h 0 rfl, run_ldA ty_man h 6 (Nat.le_of_ble_eq_true rfl)⟩
attribute [local go_sem ↓] ld_bool st_bool
theorem hold_x {ao so co : Option Addr} {ac sc cc : Nat} (e : Int) (w : World) (hc : Cells w gj 69 (jcs gp j ao ac so sc co cc)) : Calls Tryz.prog 63 #[.pointer (some ⟨gj, 0, none⟩), .int .i64 e] w fun R w' => R = .returned (.int .i64 e) ∧ Cells w' gj 69 (jcs gp (j.hold e) ao ac so sc co cc) ∧ w.grownBy w' (some gj) := by
  obtain ⟨w1, s1, c1, q1, z1⟩ := cells_st ty_bool hc 11 (Nat.le_of_ble_eq_true rfl) (.bool (decide (e ≠ 0))) rfl rfl (cs' := jcs gp (j.hold e) ao ac so sc co cc) rfl
  have HF := Lib.hid (And.intro c1 q1)
  have hd : (e != 0) = decide (e ≠ 0) := by by_cases h : e = 0 <;> simp [h]
  obtain ⟨b, hb⟩ : ∃ b, b = decide (e ≠ 0) := ⟨_, rfl⟩
  rw [← hb] at s1 hd
  clear hc c1 q1 z1 hb
  go_enter Tryz.func63, Tryz.ntmps63
  go_wp2
  go_ret
  exact ⟨rfl, HF.out⟩
theorem JX.held {S : Nat → Prop} {ao so co : Option Addr} {ac sc cc : Nat} {w1 : World} {e : Int} (h : JX V w gj gp q dv ko kc p j S ao ac so sc co cc) (hc : Cells w1 gj 69 (jcs gp (j.hold e) ao ac so sc co cc)) (k : w.grownBy w1 (some gj)) : ∃ V', JC V' w1 gj gp q dv ko kc p (j.hold e) ∧ JTo V w V' w1 :=
  have hf := h.jn.fit
  h.cell (j' := j.hold e) k hc ⟨hf.o, hf.ah, hf.ahl, hf.sy, hf.os, hf.ap, hf.rows, hf.pl, hf.sgl, hf.ckl⟩ rfl rfl
theorem tab_tu {w1 : World} (h : Tab w) (k : Tu V w w1) (hV : ¬ V 1) : Tab w1 :=
  ⟨Nat.lt_of_lt_of_le h.1 k.size, fun i hi => k.cell (h.2 i hi) hV⟩
theorem JTo.notab {V1 : Nat → Prop} {w1 : World} (h : JTo V w V1 w1) (ht : Tab w) (hV : ¬ V 1) : ¬ V1 1 := fun hx => by
  have := ht.1
  rcases h.more _ hx with h | h
  · exact hV h
  · omega
theorem st_int (p v : Value) : Instr.storeAt 3 p v = stT 3 p v := rfl
attribute [local go_sem ↓] ld_pw ld_man ld_rec st_rec ld_int st_int ld_u64 ld_u8
theorem fld_part (a b : Int) (W : World) : (Instr.field 122 (.agg #[.int .u64 a, .int .u64 b]) 0).run Tryz.prog W = .ok (.int .u64 a) W := by kernel_rfl
theorem SAP_ks (p : Pw) (q n : Nat) (r : Rc) : (SAP p q n r).ks = p.ks := by
  unfold SAP
  split
  · exact swa_ks _ _
  · rfl
theorem SBP_ks (p : Pw) (q : Nat) (h : Rc) (l : List Rc) : (SBP p q h l).ks = p.ks := by
  unfold SBP
  split
  · exact bPow_ks _ _ _ _
  · rfl
/- A record more of the open segment. -/
set_option maxHeartbeats 4000000 in
theorem jwrite_c (r : Rc) (w : World) (h : JC V w gj gp q dv ko kc p j) (hf : r.fit) (hn : p.n < 1000000) (hap : j.ap < 1000000) (ht : Tab w) :
    Calls Tryz.prog 58 #[.pointer (some ⟨gj, 0, none⟩), .agg (rcs r)] w (JPost V w gj gp q dv ko kc (wrE' q p j r) (wrP q p j r) (j.wrote (wrE' q p j r))) := by
  obtain ⟨S, ao, ac, so, sc, co, cc, hx⟩ := h
  have HL := Lib.hid hx.lt
  have HF := Lib.hid hf
  have HT := Lib.hid ht
  have HN := Lib.hid hn
  have HAP := Lib.hid hap
  have H0 := Loc.one w 114 (rcs r)
  have HC0 : Hid (Cells _ w.heap.size 114 (rcs r)) := H0.get 0 rfl
  have HB0 := Lib.hid H0.be
  have HX0 := Lib.hid (hx.new H0.be)
  have HT0 := Lib.hid (tab_below ht H0.be)
  obtain ⟨Q, hQ⟩ : ∃ Q : Ending → World → Prop, Q = JPost V w gj gp q dv ko kc (wrE' q p j r) (wrP q p j r) (j.wrote (wrE' q p j r)) := ⟨_, rfl⟩
  rw [← hQ]
  have HQ := Lib.hid hQ
  clear hx hf ht hn hap H0 hQ
  go_enter Tryz.func58, Tryz.ntmps58
  go_upto_region 1 with fail
  generalize w.alloc (.cells (rcs r) 114) = wa at *
  have HXd := Lib.hid (HX0.out.new (Below.refl _ wa).drew)
  have HTd := Lib.hid (tab_below HT0.out (Below.refl _ wa).drew)
  have HCd := Lib.hid (cells_new HC0.out (Below.refl _ wa).drew)
  have HBd := Lib.hid (HB0.out.drew)
  generalize hwd : wa.drew = wd at *
  have hs0 : JS gj gp j so sc co cc wd ∧ (ldT 114 (.pointer (some ⟨w.heap.size, 0, none⟩))).run Tryz.prog wd = .ok (.agg (rcs r)) wd := ⟨js_of HXd.out.jn.blk, run_ldA ty_rec HCd.out 0 (Nat.le_of_ble_eq_true rfl)⟩
  have hfd := fld_part ((lastS j.m.sg).1 : Int) ((lastS j.m.sg).2 : Int)
  refine wp_region_till (S := fun W => JS gj gp j so sc co cc W ∧ (ldT 114 (.pointer (some ⟨w.heap.size, 0, none⟩))).run Tryz.prog W = .ok (.agg (rcs r)) W) (by kernel_rfl) ?_
  rw [hwd]
  clear hwd HX0 HT0 HC0 HB0
  refine wpTill_take (i := 0) (v := ?va0) rfl (by kernel_rfl) (fun _ _ _ h => h) (Or.inl ⟨by rfl, ?hya0⟩) hs0 ?resta0
  case hya0 => (rintro W ⟨⟨hW1, hW2⟩, hW3⟩; go_simp; try with_reducible rfl)
  simp only [Act.put, List.setIfInBounds_toArray, List.set_cons_zero, List.set_cons_succ, List.getElem_toArray, List.getElem_cons_succ, List.getElem_cons_zero]
  refine wpTill_take (i := 1) (v := ?va1) rfl (by kernel_rfl) (fun _ _ _ h => h) (Or.inl ⟨by rfl, ?hya1⟩) hs0 ?resta1
  case hya1 => (rintro W ⟨⟨hW1, hW2⟩, hW3⟩; go_simp; try with_reducible rfl)
  simp only [Act.put, List.setIfInBounds_toArray, List.set_cons_zero, List.set_cons_succ, List.getElem_toArray, List.getElem_cons_succ, List.getElem_cons_zero]
  refine wpTill_take (i := 2) (v := ?va2) rfl (by kernel_rfl) (fun _ _ _ h => h) (Or.inl ⟨by rfl, ?hya2⟩) hs0 ?resta2
  case hya2 => (rintro W ⟨⟨hW1, hW2⟩, hW3⟩; go_simp; try with_reducible rfl)
  simp only [Act.put, List.setIfInBounds_toArray, List.set_cons_zero, List.set_cons_succ, List.getElem_toArray, List.getElem_cons_succ, List.getElem_cons_zero]
  refine wpTill_take (i := 3) (v := ?va3) rfl (by kernel_rfl) (fun _ _ _ h => h) (Or.inl ⟨by rfl, ?hya3⟩) hs0 ?resta3
  case hya3 => (rintro W ⟨⟨hW1, hW2⟩, hW3⟩; go_simp; try with_reducible rfl)
  simp only [Act.put, List.setIfInBounds_toArray, List.set_cons_zero, List.set_cons_succ, List.getElem_toArray, List.getElem_cons_succ, List.getElem_cons_zero]
  refine wpTill_take (i := 4) (v := ?va4) rfl (by kernel_rfl) (fun _ _ _ h => h) (Or.inl ⟨by rfl, ?hya4⟩) hs0 ?resta4
  case hya4 => (rintro W ⟨⟨hW1, hW2⟩, hW3⟩; go_simp; try with_reducible rfl)
  simp only [Act.put, List.setIfInBounds_toArray, List.set_cons_zero, List.set_cons_succ, List.getElem_toArray, List.getElem_cons_succ, List.getElem_cons_zero]
  refine wpTill_take (i := 5) (v := ?va5) rfl (by kernel_rfl) (fun _ _ _ h => h) (Or.inl ⟨by rfl, ?hya5⟩) hs0 ?resta5
  case hya5 => (rintro W ⟨⟨hW1, hW2⟩, hW3⟩; go_simp; try with_reducible rfl)
  simp only [Act.put, List.setIfInBounds_toArray, List.set_cons_zero, List.set_cons_succ, List.getElem_toArray, List.getElem_cons_succ, List.getElem_cons_zero]
  refine wpTill_take (i := 6) (v := ?va6) rfl (by kernel_rfl) (fun _ _ _ h => h) (Or.inl ⟨by rfl, ?hya6⟩) hs0 ?resta6
  case hya6 => (rintro W ⟨⟨hW1, hW2⟩, hW3⟩; go_simp; try with_reducible rfl)
  simp only [Act.put, List.setIfInBounds_toArray, List.set_cons_zero, List.set_cons_succ, List.getElem_toArray, List.getElem_cons_succ, List.getElem_cons_zero]
  refine wpTill_take (i := 7) (v := ?va7) rfl (by kernel_rfl) (fun _ _ _ h => h) (Or.inl ⟨by rfl, ?hya7⟩) hs0 ?resta7
  case hya7 => (rintro W ⟨⟨hW1, hW2⟩, hW3⟩; go_simp; try with_reducible rfl)
  simp only [Act.put, List.setIfInBounds_toArray, List.set_cons_zero, List.set_cons_succ, List.getElem_toArray, List.getElem_cons_succ, List.getElem_cons_zero]
  refine wpTill_take (i := 8) (v := ?va8) rfl (by kernel_rfl) (fun _ _ _ h => h) (Or.inl ⟨by rfl, ?hya8⟩) hs0 ?resta8
  case hya8 => (rintro W ⟨⟨hW1, hW2⟩, hW3⟩; go_simp; try with_reducible rfl)
  simp only [Act.put, List.setIfInBounds_toArray, List.set_cons_zero, List.set_cons_succ, List.getElem_toArray, List.getElem_cons_succ, List.getElem_cons_zero]
  refine wpTill_take (i := 11) (v := ?va11) rfl (by kernel_rfl) (fun _ _ _ h => h) (Or.inl ⟨by rfl, ?hya11⟩) hs0 ?resta11
  case hya11 => (rintro W ⟨⟨hW1, hW2⟩, hW3⟩; go_simp; try with_reducible rfl)
  simp only [Act.put, List.setIfInBounds_toArray, List.set_cons_zero, List.set_cons_succ, List.getElem_toArray, List.getElem_cons_succ, List.getElem_cons_zero]
  refine wpTill_run (i := 9) (by kernel_rfl) rfl hs0 (fun K hK => ?_)
  go_simp
  go_at_call 66
  refine (newest_c j.m so sc co cc wd HXd.out.jn.man HXd.out.jn.scap).mono ?_
  rintro R w1 ⟨rfl, hb1⟩
  have HX1 := Lib.hid (HXd.out.new hb1)
  have HT1 := Lib.hid (tab_below HTd.out hb1)
  have HC1 := Lib.hid (cells_new HCd.out hb1)
  have HB1 := Lib.hid (HBd.out.trans (hb1.mono HBd.out.size))
  have hs1 : JS gj gp j so sc co cc w1 ∧ (ldT 114 (.pointer (some ⟨w.heap.size, 0, none⟩))).run Tryz.prog w1 = .ok (.agg (rcs r)) w1 := ⟨js_of HX1.out.jn.blk, run_ldA ty_rec HC1.out 0 (Nat.le_of_ble_eq_true rfl)⟩
  refine hK _ _ ?_
  clear hK K
  refine wpTill_take (i := 10) (v := ?va10) rfl (by kernel_rfl) (fun _ _ _ h => h) (Or.inl ⟨by rfl, ?hya10⟩) hs1 ?resta10
  case hya10 => (rintro W ⟨⟨hW1, hW2⟩, hW3⟩; go_simp; try with_reducible rfl)
  simp only [Act.put, List.setIfInBounds_toArray, List.set_cons_zero, List.set_cons_succ, List.getElem_toArray, List.getElem_cons_succ, List.getElem_cons_zero]
  refine wpTill_run (i := 12) (by kernel_rfl) rfl hs1 (fun K hK => ?_)
  obtain ⟨S1, hp1, hS1, hb1⟩ := HX1.out.open
  go_simp
  go_at_call 106
  refine (sappend_c (lastS j.m.sg).1 r w1 hp1 hS1 (lastS_fit HX1.out.jn.man.fit.sg).1 HF.out HN.out HT1.out).mono ?_
  rintro R w2 ⟨rfl, hp2, ht2⟩
  obtain ⟨V2, S2, hx2, hj2⟩ := hb1 w2 _ hp2 (SAP_ks p q (lastS j.m.sg).1 r) ht2
  have HX2 := Lib.hid hx2
  have HJ2 := Lib.hid hj2
  have HC2 := Lib.hid (Cells.tu HC1.out hj2.tu (fun hv => by have := HL.out _ hv; omega))
  have hs2 : JS gj gp j so sc co cc w2 ∧ (ldT 114 (.pointer (some ⟨w.heap.size, 0, none⟩))).run Tryz.prog w2 = .ok (.agg (rcs r)) w2 := ⟨js_of hx2.jn.blk, run_ldA ty_rec HC2.out 0 (Nat.le_of_ble_eq_true rfl)⟩
  clear hx2 hj2 hp2 ht2 hp1 hS1 hb1
  refine hK _ _ ?_
  clear hK K
  refine wpTill_run (i := 13) (by kernel_rfl) rfl hs2 (fun K hK => ?_)
  go_simp
  go_at_call 63
  refine (hold_x (SAE p q (lastS j.m.sg).1 r) w2 HX2.out.jn.blk).mono ?_
  rintro R w3 ⟨rfl, hc3, hg3⟩
  have HJ3 := Lib.hid (HX2.out.held hc3 hg3)
  have hs3 : JS gj gp j so sc co cc w3 ∧ (ldT 114 (.pointer (some ⟨w.heap.size, 0, none⟩))).run Tryz.prog w3 = .ok (.agg (rcs r)) w3 := ⟨js_of (j := j.hold (SAE p q (lastS j.m.sg).1 r)) hc3, run_ldA ty_rec (Cells.grown HC2.out hg3 (by have := HX2.out.jn; have := HL.out _ (HXd.out.vj gj (.inl rfl)); intro e; cases e; omega)) 0 (Nat.le_of_ble_eq_true rfl)⟩
  clear hc3 hg3
  refine hK _ _ ?_
  clear hK K
  refine wpTill_run (i := 14) (by kernel_rfl) rfl hs3 (fun K hK => ?_)
  go_simp
  refine hK _ _ ?_
  clear hK K
  refine wpTill_done (by kernel_rfl) ?_
  clear hs0 hs1 hs2 hs3 HX2 HC2 HC1 HCd HXd HBd HX1 HT1 HTd
  have hwe : wrE' q p j r = SAE p q (lastS j.m.sg).1 r := rfl
  obtain ⟨V3, hjc3, hto3⟩ := HJ3.out
  have HTO := Lib.hid (((JTo.new HB1.out).trans HJ2.out).trans hto3)
  rw [hwe] at HQ
  obtain ⟨P, hP⟩ : ∃ P, P = wrP q p j r := ⟨_, rfl⟩
  have hP' : SAP p q (lastS j.m.sg).1 r = P := hP.symm
  rw [← hP] at HQ
  rw [hP'] at hjc3
  clear HJ3 HJ2 hwe hP hP' hto3
  generalize SAE p q (lastS j.m.sg).1 r = e at *
  obtain ⟨S3, ao3, ac3, so3, sc3, co3, cc3, hx3⟩ := hjc3
  have HX3 := Lib.hid hx3
  by_cases he : e = 0
  · have hq : (e == 0) = true := beq_iff_eq.2 he
    have l1 := run_ldO ty_int hx3.jn.blk 10 (v := .int .i64 (j.ap : Int)) rfl
    have ew : IntKind.i64.wrap ((j.ap : Int) + 1) = ((j.ap + 1 : Nat) : Int) := by rw [IntWalk.i64_in _ (by have := HAP.out; omega)]; omega
    have hwr : j.wrote e = { j.hold e with ap := j.ap + 1 } := by unfold Jn.wrote Jn.hold; rw [if_pos he]
    obtain ⟨a1, ha1⟩ : ∃ a1, a1 = j.ap + 1 := ⟨_, rfl⟩
    rw [← ha1] at ew hwr
    obtain ⟨w4, s4, c4, q4, z4⟩ := cells_st ty_int hx3.jn.blk 10 (Nat.le_of_ble_eq_true rfl) (.int .i64 (a1 : Int)) rfl rfl (cs' := jcs gp { j.hold e with ap := a1 } ao3 ac3 so3 sc3 co3 cc3) rfl
    have hf := hx3.jn.fit
    obtain ⟨V4, hj4, ht4⟩ := hx3.cell (j' := { j.hold e with ap := a1 }) q4 c4 ⟨hf.o, hf.ah, hf.ahl, hf.sy, hf.os, by have := HAP.out; show a1 ≤ 1000000; omega, hf.rows, hf.pl, hf.sgl, hf.ckl⟩ rfl rfl
    have HFin : Hid (Q (.returned (.int .i64 e)) w4) := by
      show Q _ _
      rw [HQ.out, hwr]
      exact ⟨rfl, V4, hj4, HTO.out.trans ht4⟩
    clear hx3 hwr ha1 c4 q4 z4 hf hj4 ht4
    go_wp2
    exact HFin.out
  · have hq : (e == 0) = false := beq_eq_false_iff_ne.2 he
    have HFin : Hid (Q (.returned (.int .i64 e)) w3) := by
      show Q _ _
      rw [HQ.out, show j.wrote e = j.hold e from by unfold Jn.wrote Jn.hold; rw [if_neg he]]
      exact ⟨rfl, V3, ⟨S3, ao3, ac3, so3, sc3, co3, cc3, hx3⟩, HTO.out⟩
    clear hx3
    go_wp2
    exact HFin.out
end
end Go.Proofs.YtgeaacabpnepmaaGreatDoor
