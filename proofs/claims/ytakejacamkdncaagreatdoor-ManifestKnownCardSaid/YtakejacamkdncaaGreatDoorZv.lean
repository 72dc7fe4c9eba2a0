/- ManifestKnown: the chapter's examples; nothing is assumed. -/
import Derived.Test.YtakejacamkdncaaGreatDoorZr
import Derived.Test.YtakejacamkdncaaGreatDoorZu
namespace Go.Proofs.YtakejacamkdncaaGreatDoor
open Go.RowKit
set_option linter.unusedVariables false
set_option linter.unusedSimpArgs false
set_option maxRecDepth 20000

def mA : Mf := ⟨0, 0, [(1, 0)], []⟩
def mB : Mf := ⟨1, 0, [(2, 0), (2, 0)], []⟩
def mC : Mf := ⟨1, 0, [(1, 0)], [5, 5]⟩
def mD : Mf := ⟨1, 2, [(1, 0)], []⟩
def mG : Mf := ⟨1, 0, [(1, 5), (2, 4)], []⟩
def mH : Mf := ⟨1, 0, [(1, 0)], [6, 5]⟩
theorem mH_ok : mH.ok = true := by decide
theorem mA_no : mA.ok = false := by decide
theorem mH_fit : mH.fit := ⟨by decide, by decide, (fun p h => by simp [mH] at h; subst h; decide), (fun c h => by simp [mH] at h; rcases h with rfl | rfl <;> decide)⟩
theorem ps_cells {w : World} {g : Nat} {cs : Array Value} (l : List (Nat × Nat)) (h : Cells w g 61 cs) (he : cs = (Gpl l).toArray) : PsAt w (some ⟨g, 0, none⟩) l := fun k hk => ⟨g, 0, rfl, fun i v hv => by
  subst he
  rw [h.cell, Nat.zero_add]
  simpa using Gpl_at l k i hk v hv⟩
theorem ns_cells {w : World} {g : Nat} {cs : Array Value} (l : List Nat) (h : Cells w g 30 cs) (he : cs = (Gnl l).toArray) : NsAt w (some ⟨g, 0, none⟩) l := fun k hk => ⟨g, 0, rfl, fun i v hv => by
  subst he
  rw [h.cell, Nat.zero_add]
  simpa using Gnl_at l k i hk v hv⟩
theorem ld_all {w : World} {g : Nat} {m : Mf} {so co : Option Addr} {sc cc : Nat} (h : Cells w g 34 (mcs m so sc co cc)) : (ldT 34 (.pointer (some ⟨g, 0, none⟩))).run Tryz.prog w = .ok (.agg (mcs m so sc co cc)) w := run_ldA ty_man h 0 (Nat.le_of_ble_eq_true rfl)
/-- Five blocks more. -/
theorem Loc.five (w : World) (t : TypeId) (cs : Array Value) : Loc w.heap.size w (((((w.alloc (.cells cs t)).alloc (.cells cs t)).alloc (.cells cs t)).alloc (.cells cs t)).alloc (.cells cs t))
    [(w.heap.size, t, cs), (w.heap.size + 1, t, cs), (w.heap.size + 2, t, cs), (w.heap.size + 3, t, cs), (w.heap.size + 4, t, cs)] := by
  have h := ((Loc.three w t t t cs cs cs).more t cs).more t cs
  have e1 : (((w.alloc (.cells cs t)).alloc (.cells cs t)).alloc (.cells cs t)).heap.size = w.heap.size + 3 := by simp only [World.size_alloc]
  have e2 : ((((w.alloc (.cells cs t)).alloc (.cells cs t)).alloc (.cells cs t)).alloc (.cells cs t)).heap.size = w.heap.size + 4 := by simp only [World.size_alloc]
  rw [e1, e2] at h
  exact h
def pon (n : Nat) (E : List Ent) : Pw := ⟨-1, [], n, false, E⟩
theorem on_wr (k q n : Nat) (E : List Ent) (N t : List UInt8) : (pon n E).wr k q N t = pon (n + 1) (wrE k q E N t) ∧ (pon n E).wrc k q N t = wrR k q E N t := by
  have h : ¬ ((n : Int) = -1) := by omega
  constructor
  · show Pw.after _ _ = _
    unfold Pw.after pon
    simp [h]
  · show Pw.code _ _ = _
    unfold Pw.code pon
    simp [h]
theorem on_swap (t : List UInt8) (ht : t.length ≤ 225) : swR 1000 t 5 0 (pon 0 []) = (0, pon 4 (dE (some t) none)) := by
  have hn : nN ∉ (pon 0 []).names := by decide
  have c0 : stC 1000 t (pon 0 []) 0 = 0 := by simp only [stC]; exact if_neg hn
  have s0 : stP 1000 t (pon 0 []) 0 = pon 0 (dE none none) := by simp only [stP]; exact if_neg hn
  have c1 : stC 1000 t (pon 0 (dE none none)) 1 = 0 := (on_wr 0 1000 0 _ nN []).2.trans (dE_create none).1
  have s1 : stP 1000 t (pon 0 (dE none none)) 1 = pon 1 (dE none (some ([], 0))) := (on_wr 0 1000 0 _ nN []).1.trans (congrArg _ (dE_create none).2)
  have ha : aFit none := fun c h => by cases h
  have c2 : stC 1000 t (pon 1 (dE none (some ([], 0)))) 2 = 0 := (on_wr 1 1000 1 _ nN t).2.trans (dE_append none t ha ht (by omega)).1
  have s2 : stP 1000 t (pon 1 (dE none (some ([], 0)))) 2 = pon 2 (dE none (some (t, 0))) := (on_wr 1 1000 1 _ nN t).1.trans (congrArg _ (dE_append none t ha ht (by omega)).2)
  have c3 : stC 1000 t (pon 2 (dE none (some (t, 0)))) 3 = 0 := (on_wr 2 1000 2 _ nN []).2.trans (dE_sync none t).1
  have s3 : stP 1000 t (pon 2 (dE none (some (t, 0)))) 3 = pon 3 (dE none (some (t, t.length))) := (on_wr 2 1000 2 _ nN []).1.trans (congrArg _ (dE_sync none t).2)
  have c4 : stC 1000 t (pon 3 (dE none (some (t, t.length)))) 4 = 0 := (on_wr 3 1000 3 _ nN nM).2.trans (dE_rename none t).1
  have s4 : stP 1000 t (pon 3 (dE none (some (t, t.length)))) 4 = pon 4 (dE (some t) none) := (on_wr 3 1000 3 _ nN nM).1.trans (congrArg _ (dE_rename none t).2)
  rw [swR_go c0, s0, swR_go c1, s1, swR_go c2, s2, swR_go c3, s3, swR_go c4, s4]
  rfl
theorem tk_more {m : Mf} (h : m.ok = true) : tkE (enc m ++ [0]) = 4 ∧ tkM (enc m ++ [0]) = mz := by
  obtain ⟨a1, a2⟩ := frm_ok (pay m) [0] (by have := pay_short h; omega)
  replace a1 : fe (enc m ++ [0]) = 0 := a1
  replace a2 : fp (enc m ++ [0]) = pay m := a2
  have hn : ¬ tkYes (enc m ++ [0]) = true := fun hy => by
    have h1 := ((tkYes_iff a1).1 hy).1
    rw [a2, List.length_append, show (enc m).length = 6 + (pay m).length from frm_len _] at h1
    simp at h1
  unfold tkE tkM
  rw [if_pos a1, if_pos a1, if_neg hn, if_neg hn]
  exact ⟨rfl, rfl⟩
attribute [local go_sem ↓] ld_man st_man st_parts st_nums st_u64 st_u8
set_option maxHeartbeats 16000000 in
theorem law_known (w : World) (ht : Tab w) : Calls Tryz.prog 4 #[] w fun E w' => E = .returned (.bool true) ∧ Below w.heap.size w w' := by
  have HT := Lib.hid ht
  clear ht
  go_enter Tryz.func4, Tryz.ntmps4
  go_wp2_with fail
  refine (one_c w).mono ?_
  rintro R w1 ⟨so1, sc1, co1, cc1, rfl, hm1, hb1⟩
  go_wp2_with fail
  refine (one_c w1).mono ?_
  rintro R w2 ⟨so2, sc2, co2, cc2, rfl, hm2, hb2⟩
  go_wp2_with fail
  refine (one_c w2).mono ?_
  rintro R w3 ⟨so3, sc3, co3, cc3, rfl, hm3, hb3⟩
  go_wp2_with fail
  refine (one_c w3).mono ?_
  rintro R w4 ⟨so4, sc4, co4, cc4, rfl, hm4, hb4⟩
  go_wp2_with fail
  refine (one_c w4).mono ?_
  rintro R w5 ⟨so5, sc5, co5, cc5, rfl, hm5, hb5⟩
  have B5 := hb1.trans (hb2.mono hb1.size)
  have B5b := B5.trans (hb3.mono B5.size)
  have B5c := B5b.trans (hb4.mono B5b.size)
  have HB5 := Lib.hid (B5c.trans (hb5.mono B5c.size))
  have M1 := Lib.hid ((((hm1.to hb2).to hb3).to hb4).to hb5)
  have M2 := Lib.hid (((hm2.to hb3).to hb4).to hb5)
  have M3 := Lib.hid ((hm3.to hb4).to hb5)
  have M4 := Lib.hid (hm4.to hb5)
  have M5 := Lib.hid hm5
  clear B5 B5b B5c hb1 hb2 hb3 hb4 hb5 hm1 hm2 hm3 hm4 hm5
  have L0 := Loc.five w5 34 #[.int .u64 0, .int .u8 0, .slice none 0 0, .slice none 0 0]
  obtain ⟨x1, t1, J1, _⟩ := L0.stA ty_man 0 rfl 0 (mcs m1 so1 sc1 co1 cc1) (cs' := mcs m1 so1 sc1 co1 cc1) rfl (L' := [(w5.heap.size, 34, mcs m1 so1 sc1 co1 cc1), (w5.heap.size + 1, 34, #[.int .u64 0, .int .u8 0, .slice none 0 0, .slice none 0 0]), (w5.heap.size + 2, 34, #[.int .u64 0, .int .u8 0, .slice none 0 0, .slice none 0 0]), (w5.heap.size + 3, 34, #[.int .u64 0, .int .u8 0, .slice none 0 0, .slice none 0 0]), (w5.heap.size + 4, 34, #[.int .u64 0, .int .u8 0, .slice none 0 0, .slice none 0 0])]) rfl (Nat.le_of_ble_eq_true rfl) rfl rfl
  obtain ⟨x2, t2, J2, _⟩ := J1.stA ty_man 1 rfl 0 (mcs m1 so2 sc2 co2 cc2) (cs' := mcs m1 so2 sc2 co2 cc2) rfl (L' := [(w5.heap.size, 34, mcs m1 so1 sc1 co1 cc1), (w5.heap.size + 1, 34, mcs m1 so2 sc2 co2 cc2), (w5.heap.size + 2, 34, #[.int .u64 0, .int .u8 0, .slice none 0 0, .slice none 0 0]), (w5.heap.size + 3, 34, #[.int .u64 0, .int .u8 0, .slice none 0 0, .slice none 0 0]), (w5.heap.size + 4, 34, #[.int .u64 0, .int .u8 0, .slice none 0 0, .slice none 0 0])]) rfl (Nat.le_of_ble_eq_true rfl) rfl rfl
  obtain ⟨x3, t3, J3, _⟩ := J2.stA ty_man 2 rfl 0 (mcs m1 so3 sc3 co3 cc3) (cs' := mcs m1 so3 sc3 co3 cc3) rfl (L' := [(w5.heap.size, 34, mcs m1 so1 sc1 co1 cc1), (w5.heap.size + 1, 34, mcs m1 so2 sc2 co2 cc2), (w5.heap.size + 2, 34, mcs m1 so3 sc3 co3 cc3), (w5.heap.size + 3, 34, #[.int .u64 0, .int .u8 0, .slice none 0 0, .slice none 0 0]), (w5.heap.size + 4, 34, #[.int .u64 0, .int .u8 0, .slice none 0 0, .slice none 0 0])]) rfl (Nat.le_of_ble_eq_true rfl) rfl rfl
  obtain ⟨x4, t4, J4, _⟩ := J3.stA ty_man 3 rfl 0 (mcs m1 so4 sc4 co4 cc4) (cs' := mcs m1 so4 sc4 co4 cc4) rfl (L' := [(w5.heap.size, 34, mcs m1 so1 sc1 co1 cc1), (w5.heap.size + 1, 34, mcs m1 so2 sc2 co2 cc2), (w5.heap.size + 2, 34, mcs m1 so3 sc3 co3 cc3), (w5.heap.size + 3, 34, mcs m1 so4 sc4 co4 cc4), (w5.heap.size + 4, 34, #[.int .u64 0, .int .u8 0, .slice none 0 0, .slice none 0 0])]) rfl (Nat.le_of_ble_eq_true rfl) rfl rfl
  obtain ⟨x5, t5, J5, _⟩ := J4.stA ty_man 4 rfl 0 (mcs m1 so5 sc5 co5 cc5) (cs' := mcs m1 so5 sc5 co5 cc5) rfl (L' := [(w5.heap.size, 34, mcs m1 so1 sc1 co1 cc1), (w5.heap.size + 1, 34, mcs m1 so2 sc2 co2 cc2), (w5.heap.size + 2, 34, mcs m1 so3 sc3 co3 cc3), (w5.heap.size + 3, 34, mcs m1 so4 sc4 co4 cc4), (w5.heap.size + 4, 34, mcs m1 so5 sc5 co5 cc5)]) rfl (Nat.le_of_ble_eq_true rfl) rfl rfl
  go_upto_region 2 with fail
  clear t1 t2 t3 t4 t5
  obtain ⟨x6, t6, J6, _⟩ := J5.stO ty_u64 0 rfl 0 (.int .u64 0) (cs' := mcs mA so1 sc1 co1 cc1) rfl (L' := [(w5.heap.size, 34, mcs mA so1 sc1 co1 cc1), (w5.heap.size + 1, 34, mcs m1 so2 sc2 co2 cc2), (w5.heap.size + 2, 34, mcs m1 so3 sc3 co3 cc3), (w5.heap.size + 3, 34, mcs m1 so4 sc4 co4 cc4), (w5.heap.size + 4, 34, mcs m1 so5 sc5 co5 cc5)]) rfl (Nat.le_of_ble_eq_true rfl) rfl rfl
  go_upto_region 3 with fail
  clear t6
  have J7 := J6.more 61 #[.int .u64 2, .int .u64 0, .int .u64 2, .int .u64 0]
  replace J7 : Loc _ _ _ [(w5.heap.size, 34, mcs mA so1 sc1 co1 cc1), (w5.heap.size + 1, 34, mcs m1 so2 sc2 co2 cc2), (w5.heap.size + 2, 34, mcs m1 so3 sc3 co3 cc3), (w5.heap.size + 3, 34, mcs m1 so4 sc4 co4 cc4), (w5.heap.size + 4, 34, mcs m1 so5 sc5 co5 cc5), (x6.heap.size, 61, #[.int .u64 2, .int .u64 0, .int .u64 2, .int .u64 0])] := J7
  obtain ⟨x8, t8, J8, _⟩ := J7.stO ty_parts 1 rfl 2 (.slice (some ⟨x6.heap.size, 0, none⟩) 2 2) (cs' := mcs mB (some ⟨x6.heap.size, 0, none⟩) 2 co2 cc2) rfl (L' := [(w5.heap.size, 34, mcs mA so1 sc1 co1 cc1), (w5.heap.size + 1, 34, mcs mB (some ⟨x6.heap.size, 0, none⟩) 2 co2 cc2), (w5.heap.size + 2, 34, mcs m1 so3 sc3 co3 cc3), (w5.heap.size + 3, 34, mcs m1 so4 sc4 co4 cc4), (w5.heap.size + 4, 34, mcs m1 so5 sc5 co5 cc5), (x6.heap.size, 61, #[.int .u64 2, .int .u64 0, .int .u64 2, .int .u64 0])]) rfl (Nat.le_of_ble_eq_true rfl) rfl rfl
  go_upto_region 4 with fail
  clear t8
  have J9 := J8.more 30 #[.int .u64 5, .int .u64 5]
  replace J9 : Loc _ _ _ [(w5.heap.size, 34, mcs mA so1 sc1 co1 cc1), (w5.heap.size + 1, 34, mcs mB (some ⟨x6.heap.size, 0, none⟩) 2 co2 cc2), (w5.heap.size + 2, 34, mcs m1 so3 sc3 co3 cc3), (w5.heap.size + 3, 34, mcs m1 so4 sc4 co4 cc4), (w5.heap.size + 4, 34, mcs m1 so5 sc5 co5 cc5), (x6.heap.size, 61, #[.int .u64 2, .int .u64 0, .int .u64 2, .int .u64 0]), (x8.heap.size, 30, #[.int .u64 5, .int .u64 5])] := J9
  obtain ⟨x10, t10, J10, _⟩ := J9.stO ty_nums 2 rfl 3 (.slice (some ⟨x8.heap.size, 0, none⟩) 2 2) (cs' := mcs mC so3 sc3 (some ⟨x8.heap.size, 0, none⟩) 2) rfl (L' := [(w5.heap.size, 34, mcs mA so1 sc1 co1 cc1), (w5.heap.size + 1, 34, mcs mB (some ⟨x6.heap.size, 0, none⟩) 2 co2 cc2), (w5.heap.size + 2, 34, mcs mC so3 sc3 (some ⟨x8.heap.size, 0, none⟩) 2), (w5.heap.size + 3, 34, mcs m1 so4 sc4 co4 cc4), (w5.heap.size + 4, 34, mcs m1 so5 sc5 co5 cc5), (x6.heap.size, 61, #[.int .u64 2, .int .u64 0, .int .u64 2, .int .u64 0]), (x8.heap.size, 30, #[.int .u64 5, .int .u64 5])]) rfl (Nat.le_of_ble_eq_true rfl) rfl rfl
  go_upto_region 5 with fail
  clear t10
  obtain ⟨x11, t11, J11, _⟩ := J10.stO ty_u8 3 rfl 1 (.int .u8 2) (cs' := mcs mD so4 sc4 co4 cc4) rfl (L' := [(w5.heap.size, 34, mcs mA so1 sc1 co1 cc1), (w5.heap.size + 1, 34, mcs mB (some ⟨x6.heap.size, 0, none⟩) 2 co2 cc2), (w5.heap.size + 2, 34, mcs mC so3 sc3 (some ⟨x8.heap.size, 0, none⟩) 2), (w5.heap.size + 3, 34, mcs mD so4 sc4 co4 cc4), (w5.heap.size + 4, 34, mcs m1 so5 sc5 co5 cc5), (x6.heap.size, 61, #[.int .u64 2, .int .u64 0, .int .u64 2, .int .u64 0]), (x8.heap.size, 30, #[.int .u64 5, .int .u64 5])]) rfl (Nat.le_of_ble_eq_true rfl) rfl rfl
  go_upto_region 6 with fail
  clear t11
  have J12 := J11.more 61 #[.int .u64 1, .int .u64 5, .int .u64 2, .int .u64 4]
  replace J12 : Loc _ _ _ [(w5.heap.size, 34, mcs mA so1 sc1 co1 cc1), (w5.heap.size + 1, 34, mcs mB (some ⟨x6.heap.size, 0, none⟩) 2 co2 cc2), (w5.heap.size + 2, 34, mcs mC so3 sc3 (some ⟨x8.heap.size, 0, none⟩) 2), (w5.heap.size + 3, 34, mcs mD so4 sc4 co4 cc4), (w5.heap.size + 4, 34, mcs m1 so5 sc5 co5 cc5), (x6.heap.size, 61, #[.int .u64 2, .int .u64 0, .int .u64 2, .int .u64 0]), (x8.heap.size, 30, #[.int .u64 5, .int .u64 5]), (x11.heap.size, 61, #[.int .u64 1, .int .u64 5, .int .u64 2, .int .u64 4])] := J12
  obtain ⟨x13, t13, J13, _⟩ := J12.stO ty_parts 4 rfl 2 (.slice (some ⟨x11.heap.size, 0, none⟩) 2 2) (cs' := mcs mG (some ⟨x11.heap.size, 0, none⟩) 2 co5 cc5) rfl (L' := [(w5.heap.size, 34, mcs mA so1 sc1 co1 cc1), (w5.heap.size + 1, 34, mcs mB (some ⟨x6.heap.size, 0, none⟩) 2 co2 cc2), (w5.heap.size + 2, 34, mcs mC so3 sc3 (some ⟨x8.heap.size, 0, none⟩) 2), (w5.heap.size + 3, 34, mcs mD so4 sc4 co4 cc4), (w5.heap.size + 4, 34, mcs mG (some ⟨x11.heap.size, 0, none⟩) 2 co5 cc5), (x6.heap.size, 61, #[.int .u64 2, .int .u64 0, .int .u64 2, .int .u64 0]), (x8.heap.size, 30, #[.int .u64 5, .int .u64 5]), (x11.heap.size, 61, #[.int .u64 1, .int .u64 5, .int .u64 2, .int .u64 4])]) rfl (Nat.le_of_ble_eq_true rfl) rfl rfl
  go_upto_region 7 with fail
  clear t13
  go_wp2_with fail
  refine (one_c _).mono ?_
  rintro R wh ⟨so6, sc6, co6, cc6, rfl, hm6, hb6⟩
  have JH := J13.to hb6
  obtain ⟨g6, y1, z1, u1, JK, q1⟩ := JH.newA ty_man #[.int .u64 0, .int .u8 0, .slice none 0 0, .slice none 0 0] (mcs m1 so6 sc6 co6 cc6) rfl rfl rfl
  replace JK : Loc _ _ _ [(w5.heap.size, 34, mcs mA so1 sc1 co1 cc1), (w5.heap.size + 1, 34, mcs mB (some ⟨x6.heap.size, 0, none⟩) 2 co2 cc2), (w5.heap.size + 2, 34, mcs mC so3 sc3 (some ⟨x8.heap.size, 0, none⟩) 2), (w5.heap.size + 3, 34, mcs mD so4 sc4 co4 cc4), (w5.heap.size + 4, 34, mcs mG (some ⟨x11.heap.size, 0, none⟩) 2 co5 cc5), (x6.heap.size, 61, #[.int .u64 2, .int .u64 0, .int .u64 2, .int .u64 0]), (x8.heap.size, 30, #[.int .u64 5, .int .u64 5]), (x11.heap.size, 61, #[.int .u64 1, .int .u64 5, .int .u64 2, .int .u64 4]), (g6, 34, mcs m1 so6 sc6 co6 cc6)] := JK
  have M6 := Lib.hid (hm6.to (below_of_grown q1))
  have hlt6 : wh.heap.size = g6 := z1
  have N6 := Lib.hid (show m1.sg ≠ [] → ∀ a, so6 = some a → a.block ≠ g6 from fun h0 a e q => by have := hm6.ps.lt h0 a e; omega)
  clear hm6 hb6 q1 JH
  go_upto_region 8 with fail
  clear u1 z1 hlt6
  have JL := JK.more 30 #[.int .u64 6, .int .u64 5]
  replace JL : Loc _ _ _ [(w5.heap.size, 34, mcs mA so1 sc1 co1 cc1), (w5.heap.size + 1, 34, mcs mB (some ⟨x6.heap.size, 0, none⟩) 2 co2 cc2), (w5.heap.size + 2, 34, mcs mC so3 sc3 (some ⟨x8.heap.size, 0, none⟩) 2), (w5.heap.size + 3, 34, mcs mD so4 sc4 co4 cc4), (w5.heap.size + 4, 34, mcs mG (some ⟨x11.heap.size, 0, none⟩) 2 co5 cc5), (x6.heap.size, 61, #[.int .u64 2, .int .u64 0, .int .u64 2, .int .u64 0]), (x8.heap.size, 30, #[.int .u64 5, .int .u64 5]), (x11.heap.size, 61, #[.int .u64 1, .int .u64 5, .int .u64 2, .int .u64 4]), (g6, 34, mcs m1 so6 sc6 co6 cc6), (y1.heap.size, 30, #[.int .u64 6, .int .u64 5])] := JL
  obtain ⟨wK, uK, JM, qM⟩ := JL.stO ty_nums 8 rfl 3 (.slice (some ⟨y1.heap.size, 0, none⟩) 2 2) (cs' := mcs mH so6 sc6 (some ⟨y1.heap.size, 0, none⟩) 2) rfl (L' := [(w5.heap.size, 34, mcs mA so1 sc1 co1 cc1), (w5.heap.size + 1, 34, mcs mB (some ⟨x6.heap.size, 0, none⟩) 2 co2 cc2), (w5.heap.size + 2, 34, mcs mC so3 sc3 (some ⟨x8.heap.size, 0, none⟩) 2), (w5.heap.size + 3, 34, mcs mD so4 sc4 co4 cc4), (w5.heap.size + 4, 34, mcs mG (some ⟨x11.heap.size, 0, none⟩) 2 co5 cc5), (x6.heap.size, 61, #[.int .u64 2, .int .u64 0, .int .u64 2, .int .u64 0]), (x8.heap.size, 30, #[.int .u64 5, .int .u64 5]), (x11.heap.size, 61, #[.int .u64 1, .int .u64 5, .int .u64 2, .int .u64 4]), (g6, 34, mcs mH so6 sc6 (some ⟨y1.heap.size, 0, none⟩) 2), (y1.heap.size, 30, #[.int .u64 6, .int .u64 5])]) rfl (Nat.le_of_ble_eq_true rfl) rfl rfl
  have HBK := Lib.hid (HB5.out.trans (JM.be.mono HB5.out.size))
  have FA := Lib.hid (show Cells wK w5.heap.size 34 (mcs mA so1 sc1 co1 cc1) ∧ MfAt wK mA so1 co1 from ⟨JM.get 0 rfl, ⟨by decide, by decide, (fun p h => by simp [mA] at h; subst h; decide), (fun c h => by cases h)⟩, (M1.out.to JM.be).ps, NsAt.nil _ _, by decide, by decide⟩)
  have FB := Lib.hid (show Cells wK (w5.heap.size + 1) 34 (mcs mB (some ⟨x6.heap.size, 0, none⟩) 2 co2 cc2) ∧ MfAt wK mB (some ⟨x6.heap.size, 0, none⟩) co2 from ⟨JM.get 1 rfl, ⟨by decide, by decide, (fun p h => by simp [mB] at h; subst h; decide), (fun c h => by cases h)⟩, ps_cells _ (JM.get 5 rfl) rfl, NsAt.nil _ _, by decide, by decide⟩)
  have FC := Lib.hid (show Cells wK (w5.heap.size + 2) 34 (mcs mC so3 sc3 (some ⟨x8.heap.size, 0, none⟩) 2) ∧ MfAt wK mC so3 (some ⟨x8.heap.size, 0, none⟩) from ⟨JM.get 2 rfl, ⟨by decide, by decide, (fun p h => by simp [mC] at h; subst h; decide), (fun c h => by simp [mC] at h; subst h; decide)⟩, (M3.out.to JM.be).ps, ns_cells _ (JM.get 6 rfl) rfl, by decide, by decide⟩)
  have FD := Lib.hid (show Cells wK (w5.heap.size + 3) 34 (mcs mD so4 sc4 co4 cc4) ∧ MfAt wK mD so4 co4 from ⟨JM.get 3 rfl, ⟨by decide, by decide, (fun p h => by simp [mD] at h; subst h; decide), (fun c h => by cases h)⟩, (M4.out.to JM.be).ps, NsAt.nil _ _, by decide, by decide⟩)
  have FG := Lib.hid (show Cells wK (w5.heap.size + 4) 34 (mcs mG (some ⟨x11.heap.size, 0, none⟩) 2 co5 cc5) ∧ MfAt wK mG (some ⟨x11.heap.size, 0, none⟩) co5 from ⟨JM.get 4 rfl, ⟨by decide, by decide, (fun p h => by simp [mG] at h; rcases h with rfl | rfl <;> decide), (fun c h => by cases h)⟩, ps_cells _ (JM.get 7 rfl) rfl, NsAt.nil _ _, by decide, by decide⟩)
  have FH := Lib.hid (show Cells wK g6 34 (mcs mH so6 sc6 (some ⟨y1.heap.size, 0, none⟩) 2) ∧ MfAt wK mH so6 (some ⟨y1.heap.size, 0, none⟩) from ⟨JM.get 8 rfl, mH_fit, ps_off (M6.out.to (mb_alloc y1 _)).ps qM N6.out, ns_cells _ (JM.get 9 rfl) rfl, by decide, by decide⟩)
  clear JL JK JM qM M1 M2 M3 M4 M5 M6 N6 J1 J2 J3 J4 J5 J6 J7 J8 J9 J10 J11 J12 J13 L0
  go_upto_region 9 with fail
  clear uK
  have b0 : Below wK.heap.size wK wK := Below.refl _ _
  have ld0 := ld_all (FA.out.1.below b0 FA.out.1.lt)
  have kc0 : Calls Tryz.prog 23 #[.agg (mcs mA so1 sc1 co1 cc1)] wK fun R w' => R = .returned (.int .i64 4) ∧ Below wK.heap.size wK w' := by
    have := mcheck_c mA so1 sc1 co1 cc1 wK (FA.out.2.to b0)
    rw [(pt_no (show mA.ok = false by decide)).2] at this
    exact this
  have KC0 := Lib.hid kc0
  clear kc0
  go_wp2_with fail
  clear ld0
  refine KC0.out.mono ?_
  rintro R c0 ⟨rfl, hc0⟩
  have b1 := b0.trans (hc0.mono b0.size)
  clear hc0 KC0 b0
  have ld1 := ld_all (FB.out.1.below b1 FB.out.1.lt)
  have kc1 : Calls Tryz.prog 23 #[.agg (mcs mB (some ⟨x6.heap.size, 0, none⟩) 2 co2 cc2)] c0 fun R w' => R = .returned (.int .i64 4) ∧ Below c0.heap.size c0 w' := by
    have := mcheck_c mB (some ⟨x6.heap.size, 0, none⟩) 2 co2 cc2 c0 (FB.out.2.to b1)
    rw [(pt_no (show mB.ok = false by decide)).2] at this
    exact this
  have KC1 := Lib.hid kc1
  clear kc1
  go_wp2_with fail
  clear ld1
  refine KC1.out.mono ?_
  rintro R c1 ⟨rfl, hc1⟩
  have b2 := b1.trans (hc1.mono b1.size)
  clear hc1 KC1 b1
  have ld2 := ld_all (FC.out.1.below b2 FC.out.1.lt)
  have kc2 : Calls Tryz.prog 23 #[.agg (mcs mC so3 sc3 (some ⟨x8.heap.size, 0, none⟩) 2)] c1 fun R w' => R = .returned (.int .i64 4) ∧ Below c1.heap.size c1 w' := by
    have := mcheck_c mC so3 sc3 (some ⟨x8.heap.size, 0, none⟩) 2 c1 (FC.out.2.to b2)
    rw [(pt_no (show mC.ok = false by decide)).2] at this
    exact this
  have KC2 := Lib.hid kc2
  clear kc2
  go_wp2_with fail
  clear ld2
  refine KC2.out.mono ?_
  rintro R c2 ⟨rfl, hc2⟩
  have b3 := b2.trans (hc2.mono b2.size)
  clear hc2 KC2 b2
  have ld3 := ld_all (FD.out.1.below b3 FD.out.1.lt)
  have kc3 : Calls Tryz.prog 23 #[.agg (mcs mD so4 sc4 co4 cc4)] c2 fun R w' => R = .returned (.int .i64 4) ∧ Below c2.heap.size c2 w' := by
    have := mcheck_c mD so4 sc4 co4 cc4 c2 (FD.out.2.to b3)
    rw [(pt_no (show mD.ok = false by decide)).2] at this
    exact this
  have KC3 := Lib.hid kc3
  clear kc3
  go_wp2_with fail
  clear ld3
  refine KC3.out.mono ?_
  rintro R c3 ⟨rfl, hc3⟩
  have b4 := b3.trans (hc3.mono b3.size)
  clear hc3 KC3 b3
  have ld4 := ld_all (FG.out.1.below b4 FG.out.1.lt)
  have kc4 : Calls Tryz.prog 23 #[.agg (mcs mG (some ⟨x11.heap.size, 0, none⟩) 2 co5 cc5)] c3 fun R w' => R = .returned (.int .i64 4) ∧ Below c3.heap.size c3 w' := by
    have := mcheck_c mG (some ⟨x11.heap.size, 0, none⟩) 2 co5 cc5 c3 (FG.out.2.to b4)
    rw [(pt_no (show mG.ok = false by decide)).2] at this
    exact this
  have KC4 := Lib.hid kc4
  clear kc4
  go_wp2_with fail
  clear ld4
  refine KC4.out.mono ?_
  rintro R c4 ⟨rfl, hc4⟩
  have b5 := b4.trans (hc4.mono b4.size)
  clear hc4 KC4 b4
  have ld5 := ld_all (FH.out.1.below b5 FH.out.1.lt)
  have kc5 : Calls Tryz.prog 23 #[.agg (mcs mH so6 sc6 (some ⟨y1.heap.size, 0, none⟩) 2)] c4 fun R w' => R = .returned (.int .i64 0) ∧ Below c4.heap.size c4 w' := by
    have := mcheck_c mH so6 sc6 (some ⟨y1.heap.size, 0, none⟩) 2 c4 (FH.out.2.to b5)
    rw [(pt_yes mH_ok).2] at this
    exact this
  have KC5 := Lib.hid kc5
  clear kc5
  go_wp2_with fail
  clear ld5
  refine KC5.out.mono ?_
  rintro R c5 ⟨rfl, hc5⟩
  have b6 := b5.trans (hc5.mono b5.size)
  clear hc5 KC5 b5
  clear FB FC FD FG
  have KN : Hid (∀ W, Calls Tryz.prog 7 #[.int .i64 1000] W (NewPost 1000 W)) := fun W => new_c 1000 W
  go_wp2_with fail
  refine (KN.out c5).mono ?_
  rintro R d1 ⟨hd1, (⟨_, _, v, rfl, hdk⟩ | ⟨h1, _⟩)⟩
  rotate_left
  · omega
  obtain ⟨gd, rfl⟩ := hdk.ptr1
  have BD := Lib.hid (b6.trans (hd1.mono b6.size))
  have HK5 := Lib.hid b6.size
  have HDK := Lib.hid (show DkS (fun x => wK.heap.size ≤ x) d1 (.pointer (some ⟨gd, 0, none⟩)) 1000 (dE none none) from hdk.mono fun x _ h => Nat.le_trans b6.size h)
  have HTT : Hid (∀ W, Below wK.heap.size wK W → Tab W) := fun W hW => tab_below HT.out (HBK.out.trans (hW.mono HBK.out.size))
  clear hd1 hdk KN b6
  go_wp2_with fail
  refine (loads_c d1 HDK.out (HTT.out d1 BD.out)).mono ?_
  rw [(ld_of none none).1, (ld_of none none).2]
  rintro R d2 ⟨so7, sc7, co7, cc7, rfl, hm7, hb7, -⟩
  have hl5 : lcA none = 5 := rfl
  rw [hl5]
  have L2 := (Loc.nil (B := d1.heap.size) (w := d1) (Nat.le_refl _)).to hb7
  obtain ⟨g8, d3, z3, s3, H3, q3⟩ := L2.newA ty_man #[.int .u64 0, .int .u8 0, .slice none 0 0, .slice none 0 0] (mcs (lmA none) so7 sc7 co7 cc7) rfl rfl rfl
  have BD3 := Lib.hid (BD.out.trans (H3.be.mono BD.out.size))
  have HDK3 := Lib.hid (HDK.out.new H3.be)
  clear hm7 hb7 hl5 L2 H3 q3 BD HDK
  have ld6 := ld_all (FH.out.1.below BD3.out FH.out.1.lt)
  have KP : Hid (∀ W, Below wK.heap.size wK W → Calls Tryz.prog 25 #[.agg (mcs mH so6 sc6 (some ⟨y1.heap.size, 0, none⟩) 2)] W fun R w' => R = .returned (.tuple #[.string (str (enc mH)), .int .i64 0]) ∧ Below W.heap.size W w') := fun W hW => by
    have := mput_c mH so6 sc6 (some ⟨y1.heap.size, 0, none⟩) 2 W (FH.out.2.to hW) (HTT.out W hW)
    unfold PtPost at this
    rw [(pt_yes mH_ok).1, (pt_yes mH_ok).2] at this
    exact this
  have KT : Hid (∀ W, Below wK.heap.size wK W → Calls Tryz.prog 26 #[.string (str (enc mH ++ [0]))] W (ManPost W mz 4)) := fun W hW => by
    have := mtake_c (enc mH ++ [0]) W (by have := enc_len mH_ok; rw [List.length_append]; simp; omega) (HTT.out W hW)
    rw [(tk_more mH_ok).1, (tk_more mH_ok).2] at this
    exact this
  have hsz : ¬ (9223372036854775807 < (str (enc mH)).size + 1) := by rw [str_size]; have := enc_len mH_ok; omega
  have hap : str (enc mH) ++ ⟨#[0]⟩ = str (enc mH ++ [0]) := str_append (enc mH) [0]
  obtain ⟨xs, hxs⟩ : ∃ xs, xs = str (enc mH) := ⟨_, rfl⟩
  obtain ⟨xt, hxt⟩ : ∃ xt, xt = str (enc mH ++ [0]) := ⟨_, rfl⟩
  rw [← hxs] at KP hsz hap
  rw [← hxt] at KT hap
  clear hxs hxt
  go_wp2_with fail
  clear s3 z3 ld6
  refine (KP.out d3 BD3.out).mono ?_
  rintro R d4 ⟨rfl, hb8⟩
  have BD4 := Lib.hid (BD3.out.trans (hb8.mono BD3.out.size))
  have HDK4 := Lib.hid (HDK3.out.new hb8)
  clear hb8 BD3 HDK3
  go_wp2_with fail
  refine (KT.out d4 BD4.out).mono ?_
  rintro R d5 ⟨so9, sc9, co9, cc9, rfl, hm9, hb9, -⟩
  have L5 := (Loc.nil (B := d4.heap.size) (w := d4) (Nat.le_refl _)).to hb9
  obtain ⟨g12, d6, z6, s6, H6, q6⟩ := L5.newA ty_man #[.int .u64 0, .int .u8 0, .slice none 0 0, .slice none 0 0] (mcs mz so9 sc9 co9 cc9) rfl rfl rfl
  have BD6 := Lib.hid (BD4.out.trans (H6.be.mono BD4.out.size))
  have HDK6 := Lib.hid (HDK4.out.new H6.be)
  clear hm9 hb9 L5 H6 q6 BD4 HDK4 KP KT hsz hap
  go_upto_region 15 with fail
  clear s6 z6
  go_cut [100] (fun v wx => v = .bool false ∧ Hid (∃ S : Nat → Prop, (∀ x, S x → wK.heap.size ≤ x) ∧ DkS S wx (.pointer (some ⟨gd, 0, none⟩)) 1000 (dE (some (enc mH)) none) ∧ Below wK.heap.size wK wx))
  case first =>
    have a1 := fun W (hW : Below wK.heap.size wK W) => ld_all (FH.out.1.below hW FH.out.1.lt)
    have a2 := fun W (hW : Below wK.heap.size wK W) => ld_all (FA.out.1.below hW FA.out.1.lt)
    have o0 : Below wK.heap.size wK d6.drew := BD6.out.drew
    have HD0 := Lib.hid (HDK6.out.new (Below.refl _ d6).drew)
    have KN : Hid (∀ (S : Nat → Prop) E W, DkS S W (.pointer (some ⟨gd, 0, none⟩)) 1000 E → Calls Tryz.prog 10 #[.pointer (some ⟨gd, 0, none⟩), .int .i64 (-1), .slice none 0 0] W (NewPw S W (.pointer (some ⟨gd, 0, none⟩)) 1000 (-1) [] E)) := fun S E W hW => pnew_c (-1) none [] 0 W hW (fun j hj => by cases hj) (by simp)
    have KS1 : Hid (∀ (S : Nat → Prop) g ko kc W, PwC S W g (.pointer (some ⟨gd, 0, none⟩)) 1000 ko kc (pon 0 (dE none none)) → (∀ x, W.heap.size ≤ x → S x) → Below wK.heap.size wK W → Calls Tryz.prog 11 #[.pointer (some ⟨g, 0, none⟩), .agg (mcs mH so6 sc6 (some ⟨y1.heap.size, 0, none⟩) 2)] W fun R w' => R = .returned (.int .i64 0) ∧ PwC S w' g (.pointer (some ⟨gd, 0, none⟩)) 1000 ko kc (pon 4 (dE (some (enc mH)) none)) ∧ Tu (fun x => x = g ∨ S x) W w') := fun S g ko kc W h1 h2 h3 => by
      have := swap_c mH so6 sc6 (some ⟨y1.heap.size, 0, none⟩) 2 W h1 h2 (FH.out.2.to h3) (by decide) (by decide) (HTT.out W h3)
      unfold SwPost at this
      have e := on_swap (enc mH) (enc_len mH_ok)
      have e1 := sw_yes (q := 1000) (p := pon 0 (dE none none)) mH_ok
      rw [show swR 1000 (enc mH) 5 0 (pon 0 (dE none none)) = _ from e] at e1
      rw [e1.1, e1.2] at this
      exact this
    have KS2 : Hid (∀ (S : Nat → Prop) g ko kc E W, PwC S W g (.pointer (some ⟨gd, 0, none⟩)) 1000 ko kc (pon 0 E) → (∀ x, W.heap.size ≤ x → S x) → Below wK.heap.size wK W → Calls Tryz.prog 11 #[.pointer (some ⟨g, 0, none⟩), .agg (mcs mA so1 sc1 co1 cc1)] W fun R w' => R = .returned (.int .i64 4) ∧ PwC S w' g (.pointer (some ⟨gd, 0, none⟩)) 1000 ko kc (pon 0 E) ∧ Tu (fun x => x = g ∨ S x) W w') := fun S g ko kc E W h1 h2 h3 => by
      have := swap_c mA so1 sc1 co1 cc1 W h1 h2 (FA.out.2.to h3) (by show 0 + 5 < _; decide) (pn_names h1) (HTT.out W h3)
      unfold SwPost at this
      rw [(sw_no mA_no).1, (sw_no mA_no).2] at this
      exact this
    refine wp_region_till (S := fun W => Below wK.heap.size wK W) (by kernel_rfl) ?_
    generalize d6.drew = wd at *
    refine wpTill_take (i := 0) (v := ?vq1) rfl (by kernel_rfl) (fun _ _ _ h => h) (Or.inl ⟨by rfl, ?hq1⟩) o0 ?rq1
    case hq1 => (intro W hW; (try dsimp only at hW); go_simp; try with_reducible rfl)
    simp only [Act.put, List.setIfInBounds_toArray, List.set_cons_zero, List.set_cons_succ, List.getElem_toArray, List.getElem_cons_succ, List.getElem_cons_zero]
    refine wpTill_take (i := 1) (v := ?vq2) rfl (by kernel_rfl) (fun _ _ _ h => h) (Or.inl ⟨by rfl, ?hq2⟩) o0 ?rq2
    case hq2 => (intro W hW; (try dsimp only at hW); go_simp; try with_reducible rfl)
    simp only [Act.put, List.setIfInBounds_toArray, List.set_cons_zero, List.set_cons_succ, List.getElem_toArray, List.getElem_cons_succ, List.getElem_cons_zero]
    refine wpTill_take (i := 2) (v := ?vq3) rfl (by kernel_rfl) (fun _ _ _ h => h) (Or.inl ⟨by rfl, ?hq3⟩) o0 ?rq3
    case hq3 => (intro W hW; (try dsimp only at hW); go_simp; try with_reducible rfl)
    simp only [Act.put, List.setIfInBounds_toArray, List.set_cons_zero, List.set_cons_succ, List.getElem_toArray, List.getElem_cons_succ, List.getElem_cons_zero]
    refine wpTill_take (i := 3) (v := ?vq4) rfl (by kernel_rfl) (fun _ _ _ h => h) (Or.inl ⟨by rfl, ?hq4⟩) o0 ?rq4
    case hq4 => (intro W hW; (try dsimp only at hW); go_simp; try with_reducible rfl)
    simp only [Act.put, List.setIfInBounds_toArray, List.set_cons_zero, List.set_cons_succ, List.getElem_toArray, List.getElem_cons_succ, List.getElem_cons_zero]
    refine wpTill_take (i := 4) (v := ?vq5) rfl (by kernel_rfl) (fun _ _ _ h => h) (Or.inl ⟨by rfl, ?hq5⟩) o0 ?rq5
    case hq5 => (intro W hW; (try dsimp only at hW); go_simp; try with_reducible rfl)
    simp only [Act.put, List.setIfInBounds_toArray, List.set_cons_zero, List.set_cons_succ, List.getElem_toArray, List.getElem_cons_succ, List.getElem_cons_zero]
    refine wpTill_take (i := 5) (v := ?vq6) rfl (by kernel_rfl) (fun _ _ _ h => h) (Or.inl ⟨by rfl, ?hq6⟩) o0 ?rq6
    case hq6 => (intro W hW; (try dsimp only at hW); go_simp; try with_reducible rfl)
    simp only [Act.put, List.setIfInBounds_toArray, List.set_cons_zero, List.set_cons_succ, List.getElem_toArray, List.getElem_cons_succ, List.getElem_cons_zero]
    refine wpTill_take (i := 6) (v := ?vq7) rfl (by kernel_rfl) (fun _ _ _ h => h) (Or.inl ⟨by rfl, ?hq7⟩) o0 ?rq7
    case hq7 => (intro W hW; (try dsimp only at hW); go_simp; try with_reducible rfl)
    simp only [Act.put, List.setIfInBounds_toArray, List.set_cons_zero, List.set_cons_succ, List.getElem_toArray, List.getElem_cons_succ, List.getElem_cons_zero]
    refine wpTill_take (i := 7) (v := ?vq8) rfl (by kernel_rfl) (fun _ _ _ h => h) (Or.inl ⟨by rfl, ?hq8⟩) o0 ?rq8
    case hq8 => (intro W hW; (try dsimp only at hW); go_simp; try with_reducible rfl)
    simp only [Act.put, List.setIfInBounds_toArray, List.set_cons_zero, List.set_cons_succ, List.getElem_toArray, List.getElem_cons_succ, List.getElem_cons_zero]
    refine wpTill_take (i := 9) (v := ?vq9) rfl (by kernel_rfl) (fun _ _ _ h => h) (Or.inl ⟨by rfl, ?hq9⟩) o0 ?rq9
    case hq9 => (intro W hW; (try dsimp only at hW); go_simp; try with_reducible rfl)
    simp only [Act.put, List.setIfInBounds_toArray, List.set_cons_zero, List.set_cons_succ, List.getElem_toArray, List.getElem_cons_succ, List.getElem_cons_zero]
    refine wpTill_run (i := 8) (by kernel_rfl) rfl o0 (fun K hK => ?_)
    go_simp
    go_at_call 10
    refine (KN.out _ _ wd HD0.out).mono ?_
    rintro R e1 ⟨gp, ko1, kc1, rfl, hgp, hko, hp1, hb1⟩
    have HP1 := Lib.hid (show PwC (fun x => (wK.heap.size ≤ x ∧ x < wd.heap.size) ∨ e1.heap.size ≤ x) e1 gp (.pointer (some ⟨gd, 0, none⟩)) 1000 ko1 kc1 (pon 0 (dE none none)) from hp1.mono (fun x hx => ⟨.inl, fun h => h.elim id (fun h => by omega)⟩))
    have o1 := o0.trans (hb1.mono o0.size)
    have HG1 := Lib.hid (And.intro hgp hb1.size)
    clear hp1 hko hgp hb1 HD0
    refine hK _ _ ?_
    clear hK K
    refine wpTill_run (i := 10) (by kernel_rfl) rfl o1 (fun K hK => ?_)
    go_simp
    go_at_call 11
    refine (KS1.out _ gp ko1 kc1 e1 HP1.out (fun x hx => .inr hx) o1).mono ?_
    rintro R e2 ⟨rfl, hp2, ht2⟩
    have o2 : Below wK.heap.size wK e2 := o1.trans (ht2.below (fun x hx hn => by
        have h1 := HG1.out.1
        have h2 := HG1.out.2
        have h3 := o0.size
        rcases hn with rfl | ⟨h4, _⟩ | h4 <;> omega) o1.size)
    have HD2 := Lib.hid (show DkS (fun x => (wK.heap.size ≤ x ∧ x < wd.heap.size) ∨ e1.heap.size ≤ x) e2 (.pointer (some ⟨gd, 0, none⟩)) 1000 (dE (some (enc mH)) none) from hp2.dk)
    have HS2 := Lib.hid (show ∀ x, ((wK.heap.size ≤ x ∧ x < wd.heap.size) ∨ e1.heap.size ≤ x) → wK.heap.size ≤ x from fun x hx => by have h2 := HG1.out.2; have h3 := o0.size; rcases hx with ⟨h4, _⟩ | h4 <;> omega)
    clear hp2 ht2 HP1
    refine hK _ _ ?_
    clear hK K
    refine wpTill_take (i := 11) (v := ?vq10) rfl (by kernel_rfl) (fun _ _ _ h => h) (Or.inl ⟨by rfl, ?hq10⟩) o2 ?rq10
    case hq10 => (intro W hW; (try dsimp only at hW); go_simp; try with_reducible rfl)
    simp only [Act.put, List.setIfInBounds_toArray, List.set_cons_zero, List.set_cons_succ, List.getElem_toArray, List.getElem_cons_succ, List.getElem_cons_zero]
    refine wpTill_take (i := 12) (v := ?vq11) rfl (by kernel_rfl) (fun _ _ _ h => h) (Or.inl ⟨by rfl, ?hq11⟩) o2 ?rq11
    case hq11 => (intro W hW; (try dsimp only at hW); go_simp; try with_reducible rfl)
    simp only [Act.put, List.setIfInBounds_toArray, List.set_cons_zero, List.set_cons_succ, List.getElem_toArray, List.getElem_cons_succ, List.getElem_cons_zero]
    refine wpTill_take (i := 13) (v := ?vq12) rfl (by kernel_rfl) (fun _ _ _ h => h) (Or.inl ⟨by rfl, ?hq12⟩) o2 ?rq12
    case hq12 => (intro W hW; (try dsimp only at hW); go_simp; try with_reducible rfl)
    simp only [Act.put, List.setIfInBounds_toArray, List.set_cons_zero, List.set_cons_succ, List.getElem_toArray, List.getElem_cons_succ, List.getElem_cons_zero]
    refine wpTill_take (i := 14) (v := ?vq13) rfl (by kernel_rfl) (fun _ _ _ h => h) (Or.inl ⟨by rfl, ?hq13⟩) o2 ?rq13
    case hq13 => (intro W hW; (try dsimp only at hW); go_simp; try with_reducible rfl)
    simp only [Act.put, List.setIfInBounds_toArray, List.set_cons_zero, List.set_cons_succ, List.getElem_toArray, List.getElem_cons_succ, List.getElem_cons_zero]
    refine wpTill_take (i := 16) (v := ?vq14) rfl (by kernel_rfl) (fun _ _ _ h => h) (Or.inl ⟨by rfl, ?hq14⟩) o2 ?rq14
    case hq14 => (intro W hW; (try dsimp only at hW); go_simp; try with_reducible rfl)
    simp only [Act.put, List.setIfInBounds_toArray, List.set_cons_zero, List.set_cons_succ, List.getElem_toArray, List.getElem_cons_succ, List.getElem_cons_zero]
    refine wpTill_run (i := 15) (by kernel_rfl) rfl o2 (fun K hK => ?_)
    go_simp
    go_at_call 10
    refine (KN.out _ _ e2 HD2.out).mono ?_
    rintro R e3 ⟨gq, ko3, kc3, rfl, hgq, hko, hp3, hb3⟩
    have HP3 := Lib.hid (show PwC (fun x => (((wK.heap.size ≤ x ∧ x < wd.heap.size) ∨ e1.heap.size ≤ x) ∧ x < e2.heap.size) ∨ e3.heap.size ≤ x) e3 gq (.pointer (some ⟨gd, 0, none⟩)) 1000 ko3 kc3 (pon 0 (dE (some (enc mH)) none)) from hp3.mono (fun x hx => ⟨.inl, fun h => h.elim id (fun h => by omega)⟩))
    have o3 := o2.trans (hb3.mono o2.size)
    have HG3 := Lib.hid (And.intro hgq hb3.size)
    clear hp3 hko hgq hb3 HD2
    refine hK _ _ ?_
    clear hK K
    refine wpTill_run (i := 17) (by kernel_rfl) rfl o3 (fun K hK => ?_)
    go_simp
    go_at_call 11
    refine (KS2.out _ gq ko3 kc3 _ e3 HP3.out (fun x hx => .inr hx) o3).mono ?_
    rintro R e4 ⟨rfl, hp4, ht4⟩
    have o4 : Below wK.heap.size wK e4 := o3.trans (ht4.below (fun x hx hn => by
        have h1 := HG3.out.1
        have h2 := HG3.out.2
        have h3 := o2.size
        rcases hn with rfl | ⟨h4, _⟩ | h4
        · omega
        · have := HS2.out x h4; omega
        · omega) o3.size)
    have HE4 : Hid (∃ S : Nat → Prop, (∀ x, S x → wK.heap.size ≤ x) ∧ DkS S e4 (.pointer (some ⟨gd, 0, none⟩)) 1000 (dE (some (enc mH)) none) ∧ Below wK.heap.size wK e4) := ⟨_, fun x hx => by
        have h2 := HG3.out.2
        have h3 := o2.size
        rcases hx with ⟨h4, _⟩ | h4
        · exact HS2.out x h4
        · omega, hp4.dk, o4⟩
    clear hp4 ht4 HP3
    refine hK _ _ ?_
    clear hK K
    refine wpTill_take (i := 18) (v := ?vq15) rfl (by kernel_rfl) (fun _ _ _ h => h) (Or.inl ⟨by rfl, ?hq15⟩) o4 ?rq15
    case hq15 => (intro W hW; (try dsimp only at hW); go_simp; try with_reducible rfl)
    simp only [Act.put, List.setIfInBounds_toArray, List.set_cons_zero, List.set_cons_succ, List.getElem_toArray, List.getElem_cons_succ, List.getElem_cons_zero]
    refine wpTill_run (i := 19) (by kernel_rfl) rfl o4 (fun K hK => ?_)
    go_simp
    refine hK _ _ ?_
    clear hK K
    refine wpTill_done (by kernel_rfl) ?_
    go_wp2_with fail
    go_meet
    exact ⟨rfl, HE4.out⟩
  case rest =>
  obtain ⟨rfl, HEE⟩ := hcut
  obtain ⟨S, hS, hdk, hbe⟩ := HEE.out
  have HDK7 := Lib.hid hdk
  have BD7 := Lib.hid hbe
  clear hdk hbe hS HEE BD6 HDK6 FA
  go_wp2_with fail
  refine (loads_c _ HDK7.out (HTT.out _ BD7.out)).mono ?_
  rw [(ld_of (some (enc mH)) none).1, (ld_of (some (enc mH)) none).2, show lcA (some (enc mH)) = 0 from (tk_enc mH_fit mH_ok).1, show lmA (some (enc mH)) = mH from (tk_enc mH_fit mH_ok).2]
  rintro R f1 ⟨so8, sc8, co8, cc8, rfl, hm8, hb8, -⟩
  have BF1 := BD7.out.trans (hb8.mono BD7.out.size)
  have HDF := HDK7.out.new hb8
  have L8 := Loc.nil (B := wK.heap.size) (w := f1) BF1.size
  obtain ⟨g14, f2, z2, s2, H2, q2⟩ := L8.newA ty_man #[.int .u64 0, .int .u8 0, .slice none 0 0, .slice none 0 0] (mcs mH so8 sc8 co8 cc8) rfl rfl rfl
  have BF2 := Lib.hid (BF1.trans ((below_of_grown q2).mono BF1.size))
  have HDF2 := Lib.hid (HDF.new (below_of_grown q2))
  have M8 := Lib.hid (hm8.to (below_of_grown q2))
  have l1 := H2.ldA ty_man 0 rfl 0 (vs := mcs mH so8 sc8 co8 cc8) rfl (Nat.le_of_ble_eq_true rfl)
  have l2 := ld_all (FH.out.1.below BF2.out FH.out.1.lt)
  have KSM : Hid (∀ W, MfAt W mH so8 co8 → MfAt W mH so6 (some ⟨y1.heap.size, 0, none⟩) → Calls Tryz.prog 27 #[.agg (mcs mH so8 sc8 co8 cc8), .agg (mcs mH so6 sc6 (some ⟨y1.heap.size, 0, none⟩) 2)] W fun R w' => R = .returned (.bool true) ∧ Below W.heap.size W w') := fun W h1 h2 => by
    have := same_c mH mH so8 sc8 co8 cc8 so6 sc6 (some ⟨y1.heap.size, 0, none⟩) 2 W h1 h2
    rw [smB_self] at this
    exact this
  clear hm8 hb8 q2 L8 H2 BF1 HDF HDK7 BD7
  go_wp2_with fail
  clear s2 z2 l1 l2
  refine (KSM.out f2 M8.out (FH.out.2.to BF2.out)).mono ?_
  rintro R f3 ⟨rfl, hb9⟩
  have BF3 := Lib.hid (BF2.out.trans (hb9.mono BF2.out.size))
  have HDF3 := Lib.hid (HDF2.out.new hb9)
  clear hb9 KSM M8 BF2 HDF2
  have LD : Hid (Calls Tryz.prog 18 #[.pointer (some ⟨gd, 0, none⟩)] f3 fun R w' => ∃ u, R = .returned u ∧ Lst w' f3.heap.size u [nM] ∧ Below f3.heap.size f3 w') := list_s f3 HDF3.out
  go_wp2_with fail
  refine LD.out.mono ?_
  rintro R f4 ⟨u, rfl, hu, hb10⟩
  obtain ⟨ua, uc, rfl⟩ := hu.sl
  have BF4 := Lib.hid (BF3.out.trans (hb10.mono BF3.out.size))
  clear hu hb10 LD BF3 HDF3
  have hl1 : ([nM] : List (List UInt8)).length = 1 := rfl
  rw [hl1]
  have l3 := ld_all (FH.out.1.below BF4.out FH.out.1.lt)
  go_wp2_with fail
  clear l3 hl1
  refine (swap_nil mH so6 sc6 (some ⟨y1.heap.size, 0, none⟩) 2 f4 (FH.out.2.to BF4.out) mH_ok (HTT.out f4 BF4.out)).mono ?_
  rintro R f5 ⟨rfl, hb11⟩
  have BF5 := Lib.hid (BF4.out.trans (hb11.mono BF4.out.size))
  clear hb11 BF4
  go_wp2_with fail
  refine (awake_c f5 (HTT.out f5 BF5.out)).mono ?_
  rintro R f6 ⟨rfl, hb12⟩
  have BF6 := Lib.hid (HBK.out.trans ((BF5.out.trans (hb12.mono BF5.out.size)).mono HBK.out.size))
  clear hb12 BF5
  go_wp2
  go_ret
  exact ⟨rfl, BF6.out⟩
end Go.Proofs.YtakejacamkdncaaGreatDoor
