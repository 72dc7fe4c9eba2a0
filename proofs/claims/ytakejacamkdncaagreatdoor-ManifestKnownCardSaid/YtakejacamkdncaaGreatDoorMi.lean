/- May a manifest be, by the document: its contract. -/
import Derived.Test.YtakejacamkdncaaGreatDoorMg
namespace Go.Proofs.YtakejacamkdncaaGreatDoor
open Go.RowKit
set_option linter.unusedVariables false
set_option linter.unusedSimpArgs false
set_option maxRecDepth 20000
attribute [local go_sem ↓] ld_rman ld_rparts ld_nums ld_u64 ld_u8

theorem ck_two {l : List Nat} (h : l.length = 2) : ckOk l = decide (l[1]'(by omega) < l[0]'(by omega)) := by
  match l, h with
  | [a, b], _ => simp [ckOk]
theorem sg_first {l : List (Nat × Nat)} (h : 0 < l.length) (hn : (l[0]'h).1 ≠ 0) : sgOk 0 0 l = sgOk (l[0]'h).1 (l[0]'h).2 (l.drop 1) := by
  match l, h with
  | p :: r, _ =>
    show (decide _ && (decide _ && _)) = _
    have h1 : 0 < p.1 := by simp at hn; omega
    rw [decide_eq_true h1, decide_eq_true (Nat.zero_le _)]; rfl
theorem sg_zero {l : List (Nat × Nat)} (h : 0 < l.length) (hn : (l[0]'h).1 = 0) : sgOk 0 0 l = false := by
  match l, h with
  | p :: r, _ =>
    show (decide _ && (decide _ && _)) = _
    have h1 : ¬ 0 < p.1 := by simp at hn; omega
    rw [decide_eq_false h1]; rfl
set_option maxHeartbeats 4000000 in
theorem may_c (m : Mf) (so : Option Addr) (sc : Nat) (co : Option Addr) (cc : Nat) (w : World) (h : MfAt w m so co) :
    Calls Tryz.prog 63 #[.agg (mcs m so sc co cc)] w fun R w' => R = .returned (.bool m.ok) ∧ Below w.heap.size w w' := by
  have H0 := Loc.one w 48 (mcs m so sc co cc)
  have HA := Lib.hid h
  have he := h.fit.ep
  have hp := h.fit.pl
  have hl1 := h.l1
  have hl2 := h.l2
  simp only [maxLen] at hl1 hl2
  obtain ⟨z, hz⟩ : ∃ z, z = m.ok := ⟨_, rfl⟩
  rw [← hz]
  have HZ := Lib.hid hz
  clear hz h
  go_enter Tryz.func63, Tryz.ntmps63
  go_upto_region 1 with fail
  generalize w.alloc (.cells (mcs m so sc co cc) 48) = wa at *
  have l0 := H0.ldO ty_u64 0 rfl 0 (v := .int .u64 (m.ep : Int)) rfl
  have l1 := H0.ldO ty_u8 0 rfl 1 (v := .int .u8 (m.pl : Int)) rfl
  have l2 := H0.ldO ty_rparts 0 rfl 2 (v := .slice so m.sg.length sc) rfl
  have l3 := H0.ldO ty_nums 0 rfl 3 (v := .slice co m.ck.length cc) rfl
  have no : ∀ b, m.ok = b → b = false → z = false := fun b h1 h2 => by rw [HZ.out, h1, h2]
  by_cases c0 : m.ep = 0
  · have E := Lib.hid (show z = false by rw [HZ.out]; unfold Mf.ok; rw [decide_eq_false (by omega)]; rfl)
    have hq : ((m.ep : Int) == 0) = true := by rw [c0]; rfl
    clear c0 no
    go_wp2_with fail
    go_ret
    exact ⟨by rw [E.out]; rfl, H0.be⟩
  have hq0 : ((m.ep : Int) == 0) = false := beq_eq_false_iff_ne.2 (by omega)
  by_cases c1 : 1 < m.pl
  · have E := Lib.hid (show z = false by rw [HZ.out]; unfold Mf.ok; rw [decide_eq_false (show ¬ m.pl ≤ 1 by omega)]; simp)
    have hq : (1 : Int) < (m.pl : Int) := by omega
    clear c0 c1 no
    go_wp2_with fail
    go_ret
    exact ⟨by rw [E.out]; rfl, H0.be⟩
  have hq1 : ¬ (1 : Int) < (m.pl : Int) := by omega
  by_cases c2 : m.sg.length = 0
  · have E := Lib.hid (show z = false by rw [HZ.out]; unfold Mf.ok segsB; rw [decide_eq_false (show ¬ 0 < m.sg.length by omega)]; simp)
    have hq : ((m.sg.length : Int) == 0) = true := by rw [c2]; rfl
    clear c0 c1 c2 no
    go_wp2_with fail
    go_ret
    exact ⟨by rw [E.out]; rfl, H0.be⟩
  have hq2 : ((m.sg.length : Int) == 0) = false := beq_eq_false_iff_ne.2 (by omega)
  by_cases c3 : 12 < m.sg.length
  · have E := Lib.hid (show z = false by rw [HZ.out]; unfold Mf.ok segsB; rw [decide_eq_false (show ¬ m.sg.length ≤ 12 by omega)]; simp)
    have hq : (12 : Int) < (m.sg.length : Int) := by omega
    clear c0 c1 c2 c3 no
    go_wp2_with fail
    go_ret
    exact ⟨by rw [E.out]; rfl, H0.be⟩
  have hq3 : ¬ (12 : Int) < (m.sg.length : Int) := by omega
  by_cases c4 : 2 < m.ck.length
  · have E := Lib.hid (show z = false by rw [HZ.out]; unfold Mf.ok cksB; rw [decide_eq_false (show ¬ m.ck.length ≤ 2 by omega)]; simp)
    have hq : (2 : Int) < (m.ck.length : Int) := by omega
    clear c0 c1 c2 c3 c4 no
    go_wp2_with fail
    go_ret
    exact ⟨by rw [E.out]; rfl, H0.be⟩
  have hq4 : ¬ (2 : Int) < (m.ck.length : Int) := by omega
  have hpos : 0 < m.sg.length := by omega
  have hP := HA.out.ps.to H0.be
  obtain ⟨bb, oo, hso, hone⟩ := hP.one hpos
  have hld := (hone wa (Below.refl _ _)).2.1
  simp only [Nat.zero_mul, Nat.add_zero] at hld
  have hpf := (HA.out.fit.sg _ (List.getElem_mem hpos)).1
  have HZ2 : Hid (z = (sgOk 0 0 m.sg && ckOk m.ck)) := by
    show _ = _
    rw [HZ.out]; unfold Mf.ok segsB cksB
    rw [decide_eq_true (show 0 < m.ep by omega), decide_eq_true (show m.pl ≤ 1 by omega), decide_eq_true (show 0 < m.sg.length by omega), decide_eq_true (show m.sg.length ≤ 12 by omega), decide_eq_true (show m.ck.length ≤ 2 by omega)]
    rfl
  have HS := Lib.hid (show 0 < m.sg.length ∧ m.sg.length ≤ 12 ∧ m.ck.length ≤ 2 by omega)
  by_cases c5 : (m.sg[0]'hpos).1 = 0
  · have E := Lib.hid (show z = false by rw [HZ2.out, sg_zero hpos c5]; rfl)
    have hq : (((m.sg[0]'hpos).1 : Int) == 0) = true := by rw [c5]; rfl
    subst hso
    generalize (m.sg[0]'hpos).1 = p0 at *
    clear c0 c1 c2 c3 c4 c5 no hone
    go_wp2_with fail
    go_ret
    exact ⟨by rw [E.out]; rfl, H0.be⟩
  have hq5 : (((m.sg[0]'hpos).1 : Int) == 0) = false := beq_eq_false_iff_ne.2 (by omega)
  have HZ3 : Hid (z = (sgOk (m.sg[0]'hpos).1 (m.sg[0]'hpos).2 (m.sg.drop 1) && ckOk m.ck)) := by
    show _ = _
    rw [HZ2.out, sg_first hpos c5]
  have HG0 : Hid (m.sg[0]? = some ((m.sg[0]'hpos).1, (m.sg[0]'hpos).2)) := by show _ = _; rw [List.getElem?_eq_getElem hpos]
  subst hso
  generalize (m.sg[0]'hpos).1 = p0 at *
  generalize (m.sg[0]'hpos).2 = p1 at *
  clear c0 c1 c2 c3 c4 c5 no hone HZ2 HZ
  go_wp2
  clear hld hq0 hq1 hq2 hq3 hq4 hq5 l0 l1 l2 l3 hpf hP
  have H00 := Lib.hid H0
  clear H0
  go_loopw [3] (fun i wr => ∃ k a b : Nat, k < m.sg.length ∧ i = .int .i64 ((k : Int) + 1) ∧ Hid (m.sg[k]? = some (a, b)) ∧ Hid (z = (sgOk a b (m.sg.drop (k + 1)) && ckOk m.ck)) ∧ Hid (Loc w.heap.size w wr [(w.heap.size, 48, mcs m (some ⟨bb, oo, none⟩) sc co cc)])) (fun i _ => m.sg.length + 1 - (intOf i).toNat)
  case atStart => exact ⟨0, p0, p1, hpos, rfl, HG0.out, HZ3.out, H00.out⟩
  case round =>
    obtain ⟨k, a, b, hk, rfl, HG, HZK, HL⟩ := hrel
    have hs := HS.out
    have l2 := HL.out.ldO ty_rparts 0 rfl 2 (v := .slice (some ⟨bb, oo, none⟩) m.sg.length sc) rfl
    by_cases hlt : k + 1 < m.sg.length
    · have hlt1 : (k : Int) + 1 < (m.sg.length : Int) := by omega
      obtain ⟨b1, o1, e1, hone⟩ := HA.out.ps.one hlt
      cases e1
      obtain ⟨b2, o2, e2, hone2⟩ := HA.out.ps.one hk
      cases e2
      have hx := HA.out.fit.sg _ (List.getElem_mem hlt)
      have hab := HG.out
      rw [List.getElem?_eq_getElem hk] at hab
      have hab := Option.some.inj hab
      have HGK : Hid (m.sg[k + 1]? = some ((m.sg[k + 1]'hlt).1, (m.sg[k + 1]'hlt).2)) := by show _ = _; rw [List.getElem?_eq_getElem hlt]
      have HDK := Lib.hid (List.drop_eq_getElem_cons hlt)
      have hbn := fun n => below_drewN HL.out.be n
      have d1 := fun n => (hone _ (hbn n)).2.1
      have d2 := fun n => (hone _ (hbn n)).2.2
      have d3 := fun n => (hone2 _ (hbn n)).2.1
      have d4 := fun n => (hone2 _ (hbn n)).2.2
      have HB := fun n => HL.out.to (below_drewN (Below.refl _ _) n)
      have d5 := fun n => (HB n).ldO ty_rparts 0 rfl 2 (v := .slice (some ⟨bb, oo, none⟩) m.sg.length sc) rfl
      rw [hab] at d3 d4
      dsimp only at d3 d4
      generalize m.sg[k + 1]'hlt = x at *
      obtain ⟨x1, x2⟩ := x
      dsimp only at d1 d2 hx HGK
      have hw1 : IntKind.i64.wrap ((k : Int) + 1 - 1) = (k : Int) := by rw [show (k : Int) + 1 - 1 = (k : Int) by omega]; exact IntWalk.i64_in _ (by omega)
      clear hone hone2 hab hbn
      by_cases hc : x1 ≤ a
      · have E := Lib.hid (show z = false by
          rw [HZK.out, HDK.out]
          show ((decide _ && (decide _ && _)) && _) = _
          rw [decide_eq_false (show ¬ a < x1 by omega)]; rfl)
        have hc1 : decide ((x1 : Int) ≤ (a : Int)) = true := by simp; omega
        have hc2 : decide (x1 ≤ a) = true := by simp; omega
        clear hc
        go_upto_region 6 with fail
        go_quiet (fail)
        go_wp2_with fail
        go_ret
        exact ⟨by rw [E.out]; rfl, (HB _).be⟩
      · have hc1 : decide ((x1 : Int) ≤ (a : Int)) = false := by simp; omega
        have hc2 : decide (x1 ≤ a) = false := by simp; omega
        by_cases hd : x2 < b
        · have E := Lib.hid (show z = false by
            rw [HZK.out, HDK.out]
            show ((decide _ && (decide _ && _)) && _) = _
            rw [decide_eq_false (show ¬ b ≤ x2 by omega)]; simp)
          have hc3 : decide ((x2 : Int) < (b : Int)) = true := by simp; omega
          have hc4 : decide (x2 < b) = true := by simp; omega
          clear hc hd
          go_upto_region 6 with fail
          go_quiet (fail)
          go_wp2_with fail
          go_ret
          exact ⟨by rw [E.out]; rfl, (HB _).be⟩
        · have E := Lib.hid (show z = (sgOk x1 x2 (m.sg.drop (k + 1 + 1)) && ckOk m.ck) by
            rw [HZK.out, HDK.out]
            show ((decide _ && (decide _ && _)) && _) = _
            rw [decide_eq_true (show a < x1 by omega), decide_eq_true (show b ≤ x2 by omega)]; rfl)
          have hc3 : decide ((x2 : Int) < (b : Int)) = false := by simp; omega
          have hc4 : decide (x2 < b) = false := by simp; omega
          clear hc hd
          go_upto_region 6 with fail
          go_quiet (fail)
          go_wp2
          go_roundw
          case rel => exact ⟨k + 1, x1, x2, by omega, by go_num, HGK.out, E.out, HB _⟩
          case measure => simp [intOf]; omega
    · have hlt1 : ¬ (k : Int) + 1 < (m.sg.length : Int) := by omega
      have E : Hid (z = ckOk m.ck) := by
        show _ = _
        rw [HZK.out, List.drop_of_length_le (by omega)]; rfl
      have HB := fun n => HL.out.to (below_drewN (Below.refl _ _) n)
      have d1 := fun n => (HB n).ldO ty_nums 0 rfl 3 (v := .slice co m.ck.length cc) rfl
      by_cases hc : m.ck.length < 2
      · have E2 : Hid (z = true) := by show _ = _; rw [E.out]; exact cks_short (by omega)
        have hc1 : decide ((m.ck.length : Int) < 2) = true := by simp; omega
        have hc2 : decide (m.ck.length < 2) = true := by simp; omega
        clear hc
        go_upto_region 8 with fail
        go_quiet (fail)
        go_wp2_with fail
        go_ret
        exact ⟨by rw [E2.out]; rfl, (HB _).be⟩
      · have h2 : m.ck.length = 2 := by omega
        have hb0 : 0 < m.ck.length := by omega
        have hb1 : 1 < m.ck.length := by omega
        obtain ⟨b1, o1, e1, hone⟩ := HA.out.ns.one hb0
        obtain ⟨b2, o2, e2, hone2⟩ := HA.out.ns.one hb1
        subst e1
        cases e2
        have hbn := fun n => below_drewN HL.out.be n
        have d2 := fun n => hone _ (hbn n)
        have d3 := fun n => hone2 _ (hbn n)
        simp only [Nat.add_zero] at d2
        have hx0 := HA.out.fit.ck _ (List.getElem_mem hb0)
        have hx1 := HA.out.fit.ck _ (List.getElem_mem hb1)
        have E2 : Hid (z = decide (m.ck[1]'hb1 < m.ck[0]'hb0)) := by show _ = _; rw [E.out, ck_two h2]
        generalize m.ck[0]'hb0 = x0 at *
        generalize m.ck[1]'hb1 = x1 at *
        have hc1 : decide ((m.ck.length : Int) < 2) = false := by simp; omega
        have hc2 : decide (m.ck.length < 2) = false := by simp; omega
        clear hone hone2 hbn hc
        go_upto_region 8 with fail
        go_quiet (fail)
        go_wp2_with fail
        go_ret
        refine ⟨?_, (HB _).be⟩
        rw [E2.out]
        simp
end Go.Proofs.YtakejacamkdncaaGreatDoor
