/- The law's own words: few, the document's manifest of the program's, the same of either side. -/
import Derived.Test.YtakejacamkdncaaGreatDoorMk
import Derived.Laws.StructEq
import Derived.ChangeKeysEq
namespace Go.Proofs.YtakejacamkdncaaGreatDoor
open Go.RowKit
set_option linter.unusedVariables false
set_option linter.unusedSimpArgs false
set_option maxRecDepth 20000

def fewB (m : Mf) : Bool := decide (m.sg.length ≤ 50) && decide (m.ck.length ≤ 50)
/-- As the program's '!=' tells. -/
def pairB (a b : Nat × Nat) : Bool := ((a.1 : Int) == (b.1 : Int)) && ((a.2 : Int) == (b.2 : Int))
theorem pairB_iff {a b : Nat × Nat} : pairB a b = true ↔ a = b := by
  obtain ⟨a1, a2⟩ := a
  obtain ⟨b1, b2⟩ := b
  simp [pairB]; omega
theorem pairB_not {a b : Nat × Nat} (h : a ≠ b) : pairB a b = false := by
  cases e : pairB a b with
  | false => rfl
  | true => exact absurd (pairB_iff.1 e) h
theorem part_eql (a b : Nat × Nat) (T : TypeId) (hT : T = 61 ∨ T = 102) (w : World) : (binOp .eql T (.agg #[.int .u64 (a.1 : Int), .int .u64 (a.2 : Int)]) (.agg #[.int .u64 (b.1 : Int), .int .u64 (b.2 : Int)])).run Tryz.prog w = .ok (.bool (pairB a b)) w := by
  rcases hT with rfl | rfl <;>
  · rw [run_eql_struct]
    unfold pairB
    cases h0 : (a.1 : Int) == (b.1 : Int)
    · simp [go_sem, h0]
    cases h1 : (a.2 : Int) == (b.2 : Int)
    · simp [go_sem, h0, h1]
    · simp [go_sem, h0, h1]
theorem part_neq (a b : Nat × Nat) (T : TypeId) (hT : T = 61 ∨ T = 102) (w : World) : (binOp .neq T (.agg #[.int .u64 (a.1 : Int), .int .u64 (a.2 : Int)]) (.agg #[.int .u64 (b.1 : Int), .int .u64 (b.2 : Int)])).run Tryz.prog w = .ok (.bool (!pairB a b)) w := by
  rw [run_neq_struct]
  have h := part_eql a b T hT w
  rw [run_eql_struct] at h
  revert h
  cases (Op.equalIn 10000 T (.agg #[.int .u64 (a.1 : Int), .int .u64 (a.2 : Int)]) (.agg #[.int .u64 (b.1 : Int), .int .u64 (b.2 : Int)])).run Tryz.prog w with
  | ok x w1 => intro h; simp at h ⊢; exact ⟨by rw [h.1], h.2⟩
  | _ => intro h; simp at h
/-- Are two the same? -/
def smB (a b : Mf) : Bool := decide (a.ep = b.ep) && (decide (a.pl = b.pl) && (decide (a.sg = b.sg) && decide (a.ck = b.ck)))
theorem smB_iff {a b : Mf} : smB a b = true ↔ a = b := by
  obtain ⟨a1, a2, a3, a4⟩ := a
  obtain ⟨b1, b2, b3, b4⟩ := b
  simp [smB]
theorem smB_self (a : Mf) : smB a a = true := smB_iff.2 rfl
theorem sm_no {a b : Mf} (h : a ≠ b) : smB a b = false := by
  cases e : smB a b with
  | false => rfl
  | true => exact absurd (smB_iff.1 e) h
section
attribute [local go_sem ↓] ld_man ld_parts ld_part ld_nums ld_u64 ld_u8
set_option maxHeartbeats 8000000 in
theorem same_c (a b : Mf) (so : Option Addr) (sc : Nat) (co : Option Addr) (cc : Nat) (so2 : Option Addr) (sc2 : Nat) (co2 : Option Addr) (cc2 : Nat) (w : World) (ha : MfAt w a so co) (hb : MfAt w b so2 co2) :
    Calls Tryz.prog 27 #[.agg (mcs a so sc co cc), .agg (mcs b so2 sc2 co2 cc2)] w fun R w' => R = .returned (.bool (smB a b)) ∧ Below w.heap.size w w' := by
  have H0 := Lib.hid (Loc.two w 34 34 (mcs a so sc co cc) (mcs b so2 sc2 co2 cc2))
  have HA := Lib.hid ha
  have HB := Lib.hid hb
  have he := ha.fit.ep
  have he2 := hb.fit.ep
  have hp := ha.fit.pl
  have hp2 := hb.fit.pl
  have hl1 := ha.l1
  have hl2 := ha.l2
  have hl3 := hb.l1
  have hl4 := hb.l2
  simp only [maxLen] at hl1 hl2 hl3 hl4
  obtain ⟨z, hz⟩ : ∃ z, z = smB a b := ⟨_, rfl⟩
  rw [← hz]
  have HZ := Lib.hid hz
  clear hz ha hb
  go_enter Tryz.func27, Tryz.ntmps27
  go_upto_region 1 with fail
  generalize (w.alloc (.cells (mcs a so sc co cc) 34)).alloc (.cells (mcs b so2 sc2 co2 cc2) 34) = wa at *
  have l0 := H0.out.ldO ty_u64 0 rfl 0 (v := .int .u64 (a.ep : Int)) rfl
  have l1 := H0.out.ldO ty_u64 1 rfl 0 (v := .int .u64 (b.ep : Int)) rfl
  have l2 := H0.out.ldO ty_u8 0 rfl 1 (v := .int .u8 (a.pl : Int)) rfl
  have l3 := H0.out.ldO ty_u8 1 rfl 1 (v := .int .u8 (b.pl : Int)) rfl
  have l4 := H0.out.ldO ty_parts 0 rfl 2 (v := .slice so a.sg.length sc) rfl
  have l5 := H0.out.ldO ty_parts 1 rfl 2 (v := .slice so2 b.sg.length sc2) rfl
  have l6 := H0.out.ldO ty_nums 0 rfl 3 (v := .slice co a.ck.length cc) rfl
  have l7 := H0.out.ldO ty_nums 1 rfl 3 (v := .slice co2 b.ck.length cc2) rfl
  by_cases c0 : a.ep = b.ep
  rotate_left
  · have E := Lib.hid (show z = false by rw [HZ.out]; exact sm_no (fun q => c0 (by rw [q])))
    have hq0 : ((a.ep : Int) != (b.ep : Int)) = true := by rw [bne_iff_ne]; omega
    clear c0
    go_wp2_with fail
    go_ret
    exact ⟨by rw [E.out]; rfl, H0.out.be⟩
  have hq0 : ((a.ep : Int) != (b.ep : Int)) = false := by rw [bne_eq_false_iff_eq]; omega
  by_cases c1 : a.pl = b.pl
  rotate_left
  · have E := Lib.hid (show z = false by rw [HZ.out]; exact sm_no (fun q => c1 (by rw [q])))
    have hq1 : ((a.pl : Int) != (b.pl : Int)) = true := by rw [bne_iff_ne]; omega
    clear c0 c1
    go_wp2_with fail
    go_ret
    exact ⟨by rw [E.out]; rfl, H0.out.be⟩
  have hq1 : ((a.pl : Int) != (b.pl : Int)) = false := by rw [bne_eq_false_iff_eq]; omega
  by_cases c2 : a.sg.length = b.sg.length
  rotate_left
  · have E := Lib.hid (show z = false by rw [HZ.out]; exact sm_no (fun q => c2 (by rw [q])))
    have hq2 : ((a.sg.length : Int) != (b.sg.length : Int)) = true := by rw [bne_iff_ne]; omega
    clear c0 c1 c2
    go_wp2_with fail
    go_ret
    exact ⟨by rw [E.out]; rfl, H0.out.be⟩
  have hq2 : ((a.sg.length : Int) != (b.sg.length : Int)) = false := by rw [bne_eq_false_iff_eq]; omega
  by_cases c3 : a.ck.length = b.ck.length
  rotate_left
  · have E := Lib.hid (show z = false by rw [HZ.out]; exact sm_no (fun q => c3 (by rw [q])))
    have hq3 : ((a.ck.length : Int) != (b.ck.length : Int)) = true := by rw [bne_iff_ne]; omega
    clear c0 c1 c2 c3
    go_wp2_with fail
    go_ret
    exact ⟨by rw [E.out]; rfl, H0.out.be⟩
  have hq3 : ((a.ck.length : Int) != (b.ck.length : Int)) = false := by rw [bne_eq_false_iff_eq]; omega
  have HZ2 : Hid (z = (decide (a.sg.drop 0 = b.sg.drop 0) && decide (a.ck = b.ck))) := by
    show _ = _
    rw [HZ.out]; unfold smB
    rw [decide_eq_true c0, decide_eq_true c1]; rfl
  have HC := Lib.hid (And.intro c2 c3)
  clear c0 c1 c2 c3
  go_wp2
  clear l0 l1 l2 l3 l4 l5 l6 l7 hq0 hq1 hq2 hq3
  go_loopw [5] (fun i wr => ∃ k : Nat, k ≤ a.sg.length ∧ i = .int .i64 (k : Int) ∧ Hid (z = (decide (a.sg.drop k = b.sg.drop k) && decide (a.ck = b.ck))) ∧ Hid (Loc w.heap.size w wr [(w.heap.size, 34, mcs a so sc co cc), (w.heap.size + 1, 34, mcs b so2 sc2 co2 cc2)])) (fun i _ => a.sg.length - (intOf i).toNat)
  case atStart => exact ⟨0, Nat.zero_le _, rfl, HZ2.out, H0.out⟩
  case round =>
    obtain ⟨k, hk, rfl, HZK, HL⟩ := hrel
    clear H0 HZ2
    have l4 := HL.out.ldO ty_parts 0 rfl 2 (v := .slice so a.sg.length sc) rfl
    by_cases hlt : k < a.sg.length
    · have hlt2 : k < b.sg.length := by rw [← HC.out.1]; exact hlt
      have hlt1 : (k : Int) < (a.sg.length : Int) := by omega
      have hlt3 : (k : Int) < (b.sg.length : Int) := by omega
      obtain ⟨b1, o1, e1, hone⟩ := HA.out.ps.one hlt
      obtain ⟨b2, o2, e2, hone2⟩ := HB.out.ps.one hlt2
      subst e1 e2
      have hbn := fun n => below_drewN HL.out.be n
      have d1 := fun n => (hone _ (hbn n)).1 _ ty_part
      have d2 := fun n => (hone2 _ (hbn n)).1 _ ty_part
      have HBN := fun n => HL.out.to (below_drewN (Below.refl _ _) n)
      have d3 := fun n => (HBN n).ldO ty_parts 0 rfl 2 (v := .slice (some ⟨b1, o1, none⟩) a.sg.length sc) rfl
      have d4 := fun n => (HBN n).ldO ty_parts 1 rfl 2 (v := .slice (some ⟨b2, o2, none⟩) b.sg.length sc2) rfl
      have HDK := Lib.hid (List.drop_eq_getElem_cons hlt)
      have HDK2 := Lib.hid (List.drop_eq_getElem_cons hlt2)
      have hne := fun W => part_neq (a.sg[k]'hlt) (b.sg[k]'hlt2) 61 (by simp) W
      obtain ⟨x, hx⟩ : ∃ x, x = a.sg[k]'hlt := ⟨_, rfl⟩
      obtain ⟨y, hy⟩ : ∃ y, y = b.sg[k]'hlt2 := ⟨_, rfl⟩
      rw [← hx] at d1 hne HDK
      rw [← hy] at d2 hne HDK2
      clear hone hone2 hbn hx hy
      by_cases hc : x = y
      · have E : Hid (z = (decide (a.sg.drop (k + 1) = b.sg.drop (k + 1)) && decide (a.ck = b.ck))) := by
          show _ = _
          rw [HZK.out, HDK.out, HDK2.out, hc]
          simp
        rw [pairB_iff.2 hc] at hne
        clear hc
        go_upto_region 6 with fail
        clear l4
        go_quiet (fail)
        go_wp2
        go_roundw
        case rel => exact ⟨k + 1, by omega, by go_num, E.out, HBN _⟩
        case measure => simp [intOf]; omega
      · have E := Lib.hid (show z = false by
          rw [HZK.out, HDK.out, HDK2.out]
          simp [hc])
        rw [pairB_not hc] at hne
        clear hc
        go_upto_region 6 with fail
        clear l4
        go_quiet (fail)
        go_wp2_with fail
        go_ret
        exact ⟨by rw [E.out]; rfl, (HBN _).be⟩
    · have hlt1 : ¬ (k : Int) < (a.sg.length : Int) := by omega
      have E : Hid (z = decide (a.ck.drop 0 = b.ck.drop 0)) := by
        show _ = _
        rw [HZK.out, List.drop_of_length_le (by omega), List.drop_of_length_le (by rw [← HC.out.1]; omega)]
        simp
      have HL0 := HL
      clear HL
      go_wp2
      clear l4
      go_loopw [6] (fun i wx => ∃ j : Nat, j ≤ a.ck.length ∧ i = .int .i64 (j : Int) ∧ Hid (z = decide (a.ck.drop j = b.ck.drop j)) ∧ Hid (Loc w.heap.size w wx [(w.heap.size, 34, mcs a so sc co cc), (w.heap.size + 1, 34, mcs b so2 sc2 co2 cc2)])) (fun i _ => a.ck.length - (intOf i).toNat)
      case atStart => exact ⟨0, Nat.zero_le _, rfl, E.out, HL0.out⟩
      case round =>
        obtain ⟨j, hj, rfl, HZJ, HL⟩ := hrel
        clear HL0 E
        have l6 := HL.out.ldO ty_nums 0 rfl 3 (v := .slice co a.ck.length cc) rfl
        by_cases hjl : j < a.ck.length
        · have hjl2 : j < b.ck.length := by rw [← HC.out.2]; exact hjl
          have hjl1 : (j : Int) < (a.ck.length : Int) := by omega
          have hjl3 : (j : Int) < (b.ck.length : Int) := by omega
          obtain ⟨b1, o1, e1, hone⟩ := HA.out.ns.one hjl
          obtain ⟨b2, o2, e2, hone2⟩ := HB.out.ns.one hjl2
          subst e1 e2
          have hbn := fun n => below_drewN HL.out.be n
          have d1 := fun n => hone _ (hbn n)
          have d2 := fun n => hone2 _ (hbn n)
          have HBN := fun n => HL.out.to (below_drewN (Below.refl _ _) n)
          have d3 := fun n => (HBN n).ldO ty_nums 0 rfl 3 (v := .slice (some ⟨b1, o1, none⟩) a.ck.length cc) rfl
          have d4 := fun n => (HBN n).ldO ty_nums 1 rfl 3 (v := .slice (some ⟨b2, o2, none⟩) b.ck.length cc2) rfl
          have HDK := Lib.hid (List.drop_eq_getElem_cons hjl)
          have HDK2 := Lib.hid (List.drop_eq_getElem_cons hjl2)
          obtain ⟨x, hx⟩ : ∃ x, x = a.ck[j]'hjl := ⟨_, rfl⟩
          obtain ⟨y, hy⟩ : ∃ y, y = b.ck[j]'hjl2 := ⟨_, rfl⟩
          rw [← hx] at d1 HDK
          rw [← hy] at d2 HDK2
          clear hone hone2 hbn hx hy
          by_cases hc : x = y
          · have E : Hid (z = decide (a.ck.drop (j + 1) = b.ck.drop (j + 1))) := by
              show _ = _
              rw [HZJ.out, HDK.out, HDK2.out, hc]
              simp
            have hne : ((x : Int) != (y : Int)) = false := by rw [bne_eq_false_iff_eq, hc]
            clear hc
            go_upto_region 11 with fail
            clear l6
            go_quiet (fail)
            go_wp2
            go_roundw
            case rel => exact ⟨j + 1, by omega, by go_num, E.out, HBN _⟩
            case measure => simp [intOf]; omega
          · have E := Lib.hid (show z = false by
              rw [HZJ.out, HDK.out, HDK2.out]
              simp [hc])
            have hne : ((x : Int) != (y : Int)) = true := by rw [bne_iff_ne]; omega
            clear hc
            go_upto_region 11 with fail
            clear l6
            go_quiet (fail)
            go_wp2_with fail
            go_ret
            exact ⟨by rw [E.out]; rfl, (HBN _).be⟩
        · have hjl1 : ¬ (j : Int) < (a.ck.length : Int) := by omega
          have E := Lib.hid (show z = true by
            rw [HZJ.out, List.drop_of_length_le (by omega), List.drop_of_length_le (by rw [← HC.out.2]; omega)]
            simp)
          go_wp2_with fail
          go_ret
          exact ⟨by rw [E.out]; rfl, HL.out.be⟩
end
section
attribute [local go_sem ↓] ld_rman ld_rparts ld_rpart ld_nums ld_u64 ld_u8
set_option maxHeartbeats 8000000 in
theorem rsame_c (a b : Mf) (so : Option Addr) (sc : Nat) (co : Option Addr) (cc : Nat) (so2 : Option Addr) (sc2 : Nat) (co2 : Option Addr) (cc2 : Nat) (w : World) (ha : MfAt w a so co) (hb : MfAt w b so2 co2) :
    Calls Tryz.prog 17 #[.agg (mcs a so sc co cc), .agg (mcs b so2 sc2 co2 cc2)] w fun R w' => R = .returned (.bool (smB a b)) ∧ Below w.heap.size w w' := by
  have H0 := Lib.hid (Loc.two w 48 48 (mcs a so sc co cc) (mcs b so2 sc2 co2 cc2))
  have HA := Lib.hid ha
  have HB := Lib.hid hb
  have he := ha.fit.ep
  have he2 := hb.fit.ep
  have hp := ha.fit.pl
  have hp2 := hb.fit.pl
  have hl1 := ha.l1
  have hl2 := ha.l2
  have hl3 := hb.l1
  have hl4 := hb.l2
  simp only [maxLen] at hl1 hl2 hl3 hl4
  obtain ⟨z, hz⟩ : ∃ z, z = smB a b := ⟨_, rfl⟩
  rw [← hz]
  have HZ := Lib.hid hz
  clear hz ha hb
  go_enter Tryz.func17, Tryz.ntmps17
  go_upto_region 1 with fail
  generalize (w.alloc (.cells (mcs a so sc co cc) 48)).alloc (.cells (mcs b so2 sc2 co2 cc2) 48) = wa at *
  have l0 := H0.out.ldO ty_u64 0 rfl 0 (v := .int .u64 (a.ep : Int)) rfl
  have l1 := H0.out.ldO ty_u64 1 rfl 0 (v := .int .u64 (b.ep : Int)) rfl
  have l2 := H0.out.ldO ty_u8 0 rfl 1 (v := .int .u8 (a.pl : Int)) rfl
  have l3 := H0.out.ldO ty_u8 1 rfl 1 (v := .int .u8 (b.pl : Int)) rfl
  have l4 := H0.out.ldO ty_rparts 0 rfl 2 (v := .slice so a.sg.length sc) rfl
  have l5 := H0.out.ldO ty_rparts 1 rfl 2 (v := .slice so2 b.sg.length sc2) rfl
  have l6 := H0.out.ldO ty_nums 0 rfl 3 (v := .slice co a.ck.length cc) rfl
  have l7 := H0.out.ldO ty_nums 1 rfl 3 (v := .slice co2 b.ck.length cc2) rfl
  by_cases c0 : a.ep = b.ep
  rotate_left
  · have E := Lib.hid (show z = false by rw [HZ.out]; exact sm_no (fun q => c0 (by rw [q])))
    have hq0 : ((a.ep : Int) != (b.ep : Int)) = true := by rw [bne_iff_ne]; omega
    clear c0
    go_wp2_with fail
    go_ret
    exact ⟨by rw [E.out]; rfl, H0.out.be⟩
  have hq0 : ((a.ep : Int) != (b.ep : Int)) = false := by rw [bne_eq_false_iff_eq]; omega
  by_cases c1 : a.pl = b.pl
  rotate_left
  · have E := Lib.hid (show z = false by rw [HZ.out]; exact sm_no (fun q => c1 (by rw [q])))
    have hq1 : ((a.pl : Int) != (b.pl : Int)) = true := by rw [bne_iff_ne]; omega
    clear c0 c1
    go_wp2_with fail
    go_ret
    exact ⟨by rw [E.out]; rfl, H0.out.be⟩
  have hq1 : ((a.pl : Int) != (b.pl : Int)) = false := by rw [bne_eq_false_iff_eq]; omega
  by_cases c2 : a.sg.length = b.sg.length
  rotate_left
  · have E := Lib.hid (show z = false by rw [HZ.out]; exact sm_no (fun q => c2 (by rw [q])))
    have hq2 : ((a.sg.length : Int) != (b.sg.length : Int)) = true := by rw [bne_iff_ne]; omega
    clear c0 c1 c2
    go_wp2_with fail
    go_ret
    exact ⟨by rw [E.out]; rfl, H0.out.be⟩
  have hq2 : ((a.sg.length : Int) != (b.sg.length : Int)) = false := by rw [bne_eq_false_iff_eq]; omega
  by_cases c3 : a.ck.length = b.ck.length
  rotate_left
  · have E := Lib.hid (show z = false by rw [HZ.out]; exact sm_no (fun q => c3 (by rw [q])))
    have hq3 : ((a.ck.length : Int) != (b.ck.length : Int)) = true := by rw [bne_iff_ne]; omega
    clear c0 c1 c2 c3
    go_wp2_with fail
    go_ret
    exact ⟨by rw [E.out]; rfl, H0.out.be⟩
  have hq3 : ((a.ck.length : Int) != (b.ck.length : Int)) = false := by rw [bne_eq_false_iff_eq]; omega
  have HZ2 : Hid (z = (decide (a.sg.drop 0 = b.sg.drop 0) && decide (a.ck = b.ck))) := by
    show _ = _
    rw [HZ.out]; unfold smB
    rw [decide_eq_true c0, decide_eq_true c1]; rfl
  have HC := Lib.hid (And.intro c2 c3)
  clear c0 c1 c2 c3
  go_wp2
  clear l0 l1 l2 l3 l4 l5 l6 l7 hq0 hq1 hq2 hq3
  go_loopw [5] (fun i wr => ∃ k : Nat, k ≤ a.sg.length ∧ i = .int .i64 (k : Int) ∧ Hid (z = (decide (a.sg.drop k = b.sg.drop k) && decide (a.ck = b.ck))) ∧ Hid (Loc w.heap.size w wr [(w.heap.size, 48, mcs a so sc co cc), (w.heap.size + 1, 48, mcs b so2 sc2 co2 cc2)])) (fun i _ => a.sg.length - (intOf i).toNat)
  case atStart => exact ⟨0, Nat.zero_le _, rfl, HZ2.out, H0.out⟩
  case round =>
    obtain ⟨k, hk, rfl, HZK, HL⟩ := hrel
    clear H0 HZ2
    have l4 := HL.out.ldO ty_rparts 0 rfl 2 (v := .slice so a.sg.length sc) rfl
    by_cases hlt : k < a.sg.length
    · have hlt2 : k < b.sg.length := by rw [← HC.out.1]; exact hlt
      have hlt1 : (k : Int) < (a.sg.length : Int) := by omega
      have hlt3 : (k : Int) < (b.sg.length : Int) := by omega
      obtain ⟨b1, o1, e1, hone⟩ := HA.out.ps.one hlt
      obtain ⟨b2, o2, e2, hone2⟩ := HB.out.ps.one hlt2
      subst e1 e2
      have hbn := fun n => below_drewN HL.out.be n
      have d1 := fun n => (hone _ (hbn n)).1 _ ty_rpart
      have d2 := fun n => (hone2 _ (hbn n)).1 _ ty_rpart
      have HBN := fun n => HL.out.to (below_drewN (Below.refl _ _) n)
      have d3 := fun n => (HBN n).ldO ty_rparts 0 rfl 2 (v := .slice (some ⟨b1, o1, none⟩) a.sg.length sc) rfl
      have d4 := fun n => (HBN n).ldO ty_rparts 1 rfl 2 (v := .slice (some ⟨b2, o2, none⟩) b.sg.length sc2) rfl
      have HDK := Lib.hid (List.drop_eq_getElem_cons hlt)
      have HDK2 := Lib.hid (List.drop_eq_getElem_cons hlt2)
      have hne := fun W => part_neq (a.sg[k]'hlt) (b.sg[k]'hlt2) 102 (by simp) W
      obtain ⟨x, hx⟩ : ∃ x, x = a.sg[k]'hlt := ⟨_, rfl⟩
      obtain ⟨y, hy⟩ : ∃ y, y = b.sg[k]'hlt2 := ⟨_, rfl⟩
      rw [← hx] at d1 hne HDK
      rw [← hy] at d2 hne HDK2
      clear hone hone2 hbn hx hy
      by_cases hc : x = y
      · have E : Hid (z = (decide (a.sg.drop (k + 1) = b.sg.drop (k + 1)) && decide (a.ck = b.ck))) := by
          show _ = _
          rw [HZK.out, HDK.out, HDK2.out, hc]
          simp
        rw [pairB_iff.2 hc] at hne
        clear hc
        go_upto_region 6 with fail
        clear l4
        go_quiet (fail)
        go_wp2
        go_roundw
        case rel => exact ⟨k + 1, by omega, by go_num, E.out, HBN _⟩
        case measure => simp [intOf]; omega
      · have E := Lib.hid (show z = false by
          rw [HZK.out, HDK.out, HDK2.out]
          simp [hc])
        rw [pairB_not hc] at hne
        clear hc
        go_upto_region 6 with fail
        clear l4
        go_quiet (fail)
        go_wp2_with fail
        go_ret
        exact ⟨by rw [E.out]; rfl, (HBN _).be⟩
    · have hlt1 : ¬ (k : Int) < (a.sg.length : Int) := by omega
      have E : Hid (z = decide (a.ck.drop 0 = b.ck.drop 0)) := by
        show _ = _
        rw [HZK.out, List.drop_of_length_le (by omega), List.drop_of_length_le (by rw [← HC.out.1]; omega)]
        simp
      have HL0 := HL
      clear HL
      go_wp2
      clear l4
      go_loopw [6] (fun i wx => ∃ j : Nat, j ≤ a.ck.length ∧ i = .int .i64 (j : Int) ∧ Hid (z = decide (a.ck.drop j = b.ck.drop j)) ∧ Hid (Loc w.heap.size w wx [(w.heap.size, 48, mcs a so sc co cc), (w.heap.size + 1, 48, mcs b so2 sc2 co2 cc2)])) (fun i _ => a.ck.length - (intOf i).toNat)
      case atStart => exact ⟨0, Nat.zero_le _, rfl, E.out, HL0.out⟩
      case round =>
        obtain ⟨j, hj, rfl, HZJ, HL⟩ := hrel
        clear HL0 E
        have l6 := HL.out.ldO ty_nums 0 rfl 3 (v := .slice co a.ck.length cc) rfl
        by_cases hjl : j < a.ck.length
        · have hjl2 : j < b.ck.length := by rw [← HC.out.2]; exact hjl
          have hjl1 : (j : Int) < (a.ck.length : Int) := by omega
          have hjl3 : (j : Int) < (b.ck.length : Int) := by omega
          obtain ⟨b1, o1, e1, hone⟩ := HA.out.ns.one hjl
          obtain ⟨b2, o2, e2, hone2⟩ := HB.out.ns.one hjl2
          subst e1 e2
          have hbn := fun n => below_drewN HL.out.be n
          have d1 := fun n => hone _ (hbn n)
          have d2 := fun n => hone2 _ (hbn n)
          have HBN := fun n => HL.out.to (below_drewN (Below.refl _ _) n)
          have d3 := fun n => (HBN n).ldO ty_nums 0 rfl 3 (v := .slice (some ⟨b1, o1, none⟩) a.ck.length cc) rfl
          have d4 := fun n => (HBN n).ldO ty_nums 1 rfl 3 (v := .slice (some ⟨b2, o2, none⟩) b.ck.length cc2) rfl
          have HDK := Lib.hid (List.drop_eq_getElem_cons hjl)
          have HDK2 := Lib.hid (List.drop_eq_getElem_cons hjl2)
          obtain ⟨x, hx⟩ : ∃ x, x = a.ck[j]'hjl := ⟨_, rfl⟩
          obtain ⟨y, hy⟩ : ∃ y, y = b.ck[j]'hjl2 := ⟨_, rfl⟩
          rw [← hx] at d1 HDK
          rw [← hy] at d2 HDK2
          clear hone hone2 hbn hx hy
          by_cases hc : x = y
          · have E : Hid (z = decide (a.ck.drop (j + 1) = b.ck.drop (j + 1))) := by
              show _ = _
              rw [HZJ.out, HDK.out, HDK2.out, hc]
              simp
            have hne : ((x : Int) != (y : Int)) = false := by rw [bne_eq_false_iff_eq, hc]
            clear hc
            go_upto_region 11 with fail
            clear l6
            go_quiet (fail)
            go_wp2
            go_roundw
            case rel => exact ⟨j + 1, by omega, by go_num, E.out, HBN _⟩
            case measure => simp [intOf]; omega
          · have E := Lib.hid (show z = false by
              rw [HZJ.out, HDK.out, HDK2.out]
              simp [hc])
            have hne : ((x : Int) != (y : Int)) = true := by rw [bne_iff_ne]; omega
            clear hc
            go_upto_region 11 with fail
            clear l6
            go_quiet (fail)
            go_wp2_with fail
            go_ret
            exact ⟨by rw [E.out]; rfl, (HBN _).be⟩
        · have hjl1 : ¬ (j : Int) < (a.ck.length : Int) := by omega
          have E := Lib.hid (show z = true by
            rw [HZJ.out, List.drop_of_length_le (by omega), List.drop_of_length_le (by rw [← HC.out.2]; omega)]
            simp)
          go_wp2_with fail
          go_ret
          exact ⟨by rw [E.out]; rfl, HL.out.be⟩
end
end Go.Proofs.YtakejacamkdncaaGreatDoor
