/- Texts of the walk. -/
import Derived.Test.YtgeaacabpnepmaaGreatDoorKz9
/- Roll. -/
namespace Go.Proofs.YtgeaacabpnepmaaGreatDoor
open Go.RowKit
set_option linter.unusedVariables false
set_option linter.unusedSimpArgs false
set_option maxRecDepth 20000

theorem inc_wrap (n : Nat) : IntKind.u64.wrap ((n : Int) + 1) = ((inc n : Nat) : Int) := by
  unfold inc
  simp [IntKind.wrap, IntKind.bits, IntKind.signed]
section
variable {V : Nat → Prop} {w w1 : World} {gj gp q kc : Nat} {dv : Value} {ko : Option Addr} {p : Pw} {j : Jn} {so co ao : Option Addr} {sc cc ac : Nat} {m : Mf}
theorem sync_says (q : Nat) (p : Pw) (j : Jn) (hb : j.br = false) : (jSync q p j).j.m = j.m ∧ (jSync q p j).j.c = j.c ∧ (jSync q p j).j.ah = j.ah ∧ ((jSync q p j).e = 0 → (jSync q p j).j.br = false) ∧ (jSync q p j).p.n ≤ p.n + 1 := by
  unfold jSync
  rw [if_neg (by rw [hb]; exact Bool.false_ne_true)]
  split
  · exact ⟨rfl, rfl, rfl, fun _ => rfl, wr_n _ _ _ _ _⟩
  · rename_i h
    exact ⟨rfl, rfl, rfl, fun h2 => absurd (show p.wrc 2 q (sgn (lastS j.m.sg).1) [] = 0 by simpa using h2) h, wr_n _ _ _ _ _⟩
theorem oRecs_fits (h : JnF j) : ∀ r ∈ oRecs j.c j.ah, r.fit := fun r hr => (oRecs_fit h.o h.ah r hr).1
theorem JTo.with {A V1 : Nat → Prop} (h : JTo V w V1 w1) (hA : ∀ x, A x → w.heap.size ≤ x) : JTo V w (fun x => V1 x ∨ A x) w1 := ⟨fun x hx => by
  rcases hx with hx | hx
  · exact h.more x hx
  · exact .inr (hA x hx), h.tu⟩
theorem roll_ans (q : Nat) (P : Pw) (j1 : Jn) (m : Mf) (l : List Rc) (hb : j1.br = false) : bgA q P j1 m l 0 (swP q m (SBP P q (hdM m) l)) { j1 with m := m, ap := 0 } =
    (if jbE q P m l = 0 then ⟨0, jbP q P m l, { j1 with m := m, ap := 0 }⟩ else ⟨jbE q P m l, jbP q P m l, j1.hold (jbE q P m l)⟩ : Ans) := by
  unfold bgA swA jbE jbP
  by_cases h1 : SBE P q (hdM m) l = 0
  · rw [if_pos h1, if_pos h1, if_pos h1]
    by_cases h2 : swE q m (SBP P q (hdM m) l) = 0
    · rw [if_pos h2, h2]
      unfold Jn.hold
      rw [hb]; rfl
    · rw [if_neg h2, if_neg (show ¬ ((swE q m (SBP P q (hdM m) l) : Nat) : Int) = 0 by omega)]
  · rw [if_neg h1, if_neg h1, if_neg h1, if_neg h1]
attribute [local go_sem ↓] ld_pw ld_man st_man ld_parts' st_parts' ld_jp ld_u64 ld_inps ld_int st_int
theorem roll1_c (b : Nat) (w : World) (h : JC V w gj gp q dv ko kc p j) (hb : w.cell? ⟨b, 0, none⟩ = some (.pointer (some ⟨gj, 0, none⟩))) : Calls Tryz.prog 73 #[.pointer (some ⟨b, 0, none⟩)] w (JPost V w gj gp q dv ko kc 0 p { j with ap := 0 }) := by
  obtain ⟨S, ao, ac, so, sc, co, cc, hx⟩ := h
  have l1 := run_ldC ty_jp hb
  obtain ⟨w1, s1, c1, q1, z1⟩ := cells_st ty_int hx.jn.blk 10 (Nat.le_of_ble_eq_true rfl) (.int .i64 0) rfl rfl (cs' := jcs gp { j with ap := 0 } ao ac so sc co cc) rfl
  have hf := hx.jn.fit
  have HF := Lib.hid (hx.cell (j' := { j with ap := 0 }) q1 c1 ⟨hf.o, hf.ah, hf.ahl, hf.sy, hf.os, Nat.zero_le _, hf.rows, hf.pl, hf.sgl, hf.ckl⟩ rfl rfl)
  clear hx c1 q1 z1 hf hb
  go_enter Tryz.func73, Tryz.ntmps73
  go_wp2
  go_ret
  exact ⟨rfl, HF.out⟩
set_option maxHeartbeats 16000000 in
theorem jroll_c (w : World) (h : JC V w gj gp q dv ko kc p j) (hn : p.n + 9 < 1000000) (ht : Tab w) (hV : ¬ V 1) :
    Calls Tryz.prog 26 #[.pointer (some ⟨gj, 0, none⟩)] w (JPost V w gj gp q dv ko kc (jRoll q p j).e (jRoll q p j).p (jRoll q p j).j) := by
  have HN := Lib.hid hn
  have HV := Lib.hid hV
  have H0 := Loc.one w 32 #[.pointer (some ⟨gj, 0, none⟩)]
  have HJ := Lib.hid (h.new H0.be)
  have HT := Lib.hid (tab_below ht H0.be)
  have HB := Lib.hid H0.be
  have HVL := Lib.hid h.lt
  have l0 := H0.ldO ty_jp 0 rfl 0 (v := .pointer (some ⟨gj, 0, none⟩)) rfl
  have HBX : Hid (Cells _ w.heap.size 32 #[.pointer (some ⟨gj, 0, none⟩)]) := H0.get 0 rfl
  obtain ⟨Q, hQ⟩ : ∃ Q : Ending → World → Prop, Q = JPost V w gj gp q dv ko kc (jRoll q p j).e (jRoll q p j).p (jRoll q p j).j := ⟨_, rfl⟩
  rw [← hQ]
  have HQ := Lib.hid hQ
  clear h hn ht hV H0 hQ
  go_enter Tryz.func26, Tryz.ntmps26
  go_upto_region 1 with fail
  generalize hwa : w.alloc (.cells #[.pointer (some ⟨gj, 0, none⟩)] 32) = wa at *
  clear hwa
  have HW := Lib.hid (works_c wa HJ.out)
  cases hb : j.br
  case true =>
    have HFin : Hid (Q (.returned (.int .i64 13)) wa) := by
      show Q _ _
      rw [HQ.out, show jRoll q p j = ⟨13, p, j⟩ from if_pos hb]
      exact ⟨rfl, V, HJ.out, JTo.new HB.out⟩
    rw [hb] at HW
    go_wp2_with fail
    refine HW.out.mono ?_
    rintro R w' ⟨rfl, rfl⟩
    go_wp2
    exact HFin.out
  case false =>
  rw [hb] at HW
  have HSY := Lib.hid (sync_says q p j hb)
  have HR0 : Hid (jRoll q p j = if 12 ≤ j.m.sg.length then ⟨7, p, j⟩ else if (jSync q p j).e = 0 then (if jbE q (jSync q p j).p (rlM j) (oRecs j.c j.ah) = 0 then ⟨0, jbP q (jSync q p j).p (rlM j) (oRecs j.c j.ah), { (jSync q p j).j with m := rlM j, ap := 0 }⟩ else ⟨jbE q (jSync q p j).p (rlM j) (oRecs j.c j.ah), jbP q (jSync q p j).p (rlM j) (oRecs j.c j.ah), (jSync q p j).j.hold (jbE q (jSync q p j).p (rlM j) (oRecs j.c j.ah))⟩) else jSync q p j) := if_neg (by rw [hb]; exact Bool.false_ne_true)
  obtain ⟨S, ao, ac, so, sc, co, cc, hx⟩ := HJ.out
  have l1 := run_ldO ty_parts hx.jn.blk 8 (v := .slice so j.m.sg.length sc) rfl
  clear hx
  by_cases h12 : 12 ≤ j.m.sg.length
  case pos =>
    have hle : (12 : Int) ≤ (j.m.sg.length : Int) := by omega
    have HFin : Hid (Q (.returned (.int .i64 7)) wa) := by
      show Q _ _
      rw [HQ.out, HR0.out, if_pos h12]
      exact ⟨rfl, V, HJ.out, JTo.new HB.out⟩
    clear h12
    go_wp2_with fail
    refine HW.out.mono ?_
    rintro R w' ⟨rfl, rfl⟩
    go_wp2
    exact HFin.out
  case neg =>
  have hle : ¬ (12 : Int) ≤ (j.m.sg.length : Int) := by omega
  have HLE := Lib.hid h12
  rw [if_neg h12] at HR0
  clear h12
  go_wp2_with fail
  refine HW.out.mono ?_
  rintro R w' ⟨rfl, rfl⟩
  go_wp2_with fail
  refine (jsync_c wa HJ.out (by have := HN.out; omega)).mono ?_
  rintro R w2 ⟨rfl, V2, hj2, ht2⟩
  have HJ2 := Lib.hid hj2
  have HTO2 := Lib.hid ((JTo.new (V := V) HB.out).trans ht2)
  have HC2 := Lib.hid (Cells.tu HBX.out ht2.tu (fun hv => by have := HVL.out _ hv; omega))
  have HT2 := Lib.hid (tab_tu HT.out ht2.tu HV.out)
  have HV2 := Lib.hid (ht2.notab HT.out HV.out)
  have HNB : Hid (¬ V2 w.heap.size) := ht2.fars HBX.out.lt (fun hv => by have := HVL.out _ hv; omega)
  obtain ⟨⟨e1, p1, j1⟩, hA⟩ : ∃ A, A = jSync q p j := ⟨_, rfl⟩
  rw [← hA] at HJ2 HR0 HSY ⊢
  clear hj2 ht2 hA HJ HW l0 l1 HBX HT HB
  dsimp only at HJ2 HR0 HSY ⊢
  by_cases he : e1 = 0
  case neg =>
    have hq : (e1 != 0) = true := by rw [bne_iff_ne]; exact he
    have HFin : Hid (Q (.returned (.int .i64 e1)) w2) := by
      show Q _ _
      rw [HQ.out, HR0.out, if_neg he]
      exact ⟨rfl, V2, HJ2.out, HTO2.out⟩
    clear he
    go_wp2
    exact HFin.out
  case pos =>
  have hq : (e1 != 0) = false := by rw [he]; rfl
  rw [if_pos he] at HR0
  obtain ⟨k1, k2, k3, k4, k5⟩ := HSY.out
  have hbr := k4 he
  have hjm : jMan j1 = j1.m := if_neg (by rw [hbr]; exact Bool.false_ne_true)
  have hrl : rlM j = ⟨j1.m.ep, j1.m.pl, j1.m.sg ++ [(inc (lastS j1.m.sg).1, j1.c)], j1.m.ck⟩ := by unfold rlM; rw [k1, k2]
  have horc : oRecs j.c j.ah = oRecs j1.c j1.ah := by rw [k2, k3]
  have HLE1 : Hid (¬ 12 ≤ j1.m.sg.length) := by rw [k1]; exact HLE.out
  rw [hrl, horc] at HR0
  have HBR := Lib.hid hbr
  have HP1 : Hid (p1.n + 8 < 1000000) := by have := HN.out; show _ < _; omega
  have HM1 := Lib.hid (jman_c w2 HJ2.out)
  rw [hjm] at HM1
  clear k1 k2 k3 k4 k5 he hbr hjm hrl horc HSY hle HLE
  have l2 := run_ldO ty_jp HC2.out 0 (v := .pointer (some ⟨gj, 0, none⟩)) rfl
  go_wp2_with fail
  refine HM1.out.mono ?_
  rintro R w3 ⟨so2, sc2, co2, cc2, rfl, hm3, hs3, hc3, hn3, hb3, ho3, hco3⟩
  have HS3 := Lib.hid (And.intro hs3 (And.intro hc3 hco3))
  clear l2
  have HJ3 := Lib.hid (HJ2.out.new hb3)
  have hL3 := (Loc.hold HC2.out).to hb3
  obtain ⟨g4, w4, z4, s4, H4, q4⟩ := hL3.newA ty_man #[.int .u64 0, .int .u8 0, .slice none 0 0, .slice none 0 0] (mcs j1.m so2 sc2 co2 cc2) rfl rfl rfl
  have hb4 := below_of_grown q4
  have HJ4 := Lib.hid (HJ3.out.new hb4)
  have H4' : Hid (Loc w.heap.size w2 w4 [(w.heap.size, 32, #[.pointer (some ⟨gj, 0, none⟩)]), (g4, 60, mcs j1.m so2 sc2 co2 cc2)]) := H4
  have HM4 := Lib.hid (hm3.to hb4)
  have hlb := HC2.out.lt
  have HG4 : Hid (Grw 122 2 w2.heap.size w4 [w.heap.size, g4] so2 j1.m.sg.length sc2 (Gpl j1.m.sg)) :=
    ⟨ho3.kept q4 (by cases hv : (Value.slice so2 j1.m.sg.length sc2).ownBlock <;> simp), fun b hb e => by
      have h1 := ho3.lt b e
      rcases List.mem_cons.1 hb with rfl | hb
      · omega
      · rw [List.mem_singleton] at hb; omega, fun b hb => by
      have hg := (H4.get 1 rfl : Cells w4 g4 _ _).lt
      have h5 := hb4.size
      have h6 := hb3.size
      rcases List.mem_cons.1 hb with rfl | hb
      · omega
      · rw [List.mem_singleton] at hb; omega⟩
  have HN4 := Lib.hid (fun x (hx : mbl j1.m so2 co2 x) => And.intro (hn3 x hx) (show x < g4 by have := mbl_lt hm3 hx; omega))
  have HSZ : Hid (w2.heap.size ≤ w4.heap.size ∧ w2.heap.size ≤ g4 ∧ w.heap.size < w2.heap.size ∧ g4 < w4.heap.size) := by
    have hg := (H4.get 1 rfl : Cells w4 g4 _ _).lt
    have h5 := hb4.size
    have h6 := hb3.size
    exact ⟨by omega, by omega, hlb, hg⟩
  have HBE4 := Lib.hid (hb3.trans (hb4.mono hb3.size))
  clear H4 hL3 q4 hb4 hm3 hs3 hc3 hn3 hb3 ho3 hco3 hlb HJ3
  go_upto_region 9 with fail
  have HLd := Lib.hid H4'.out.drew
  have HJd := Lib.hid (HJ4.out.new (Below.refl _ w4).drew)
  have HMd := Lib.hid (HM4.out.to (Below.refl _ w4).drew)
  have HGd := Lib.hid (HG4.out.to (Below.refl _ w4).drew)
  have HBEd := Lib.hid (HBE4.out.drew)
  have HSd : Hid (w4.heap.size = w4.drew.heap.size) := rfl
  generalize hwd : w4.drew = wd at *
  obtain ⟨S, ao, ac, so, sc, co, cc, hx⟩ := HJd.out
  have HXd := Lib.hid hx
  have hs0 : ((ldT 60 (.pointer (some ⟨g4, 0, none⟩))).run Tryz.prog wd = .ok (.agg (mcs j1.m so2 sc2 co2 cc2)) wd ∧ (ldT 58 (.pointer (some ⟨g4, 2, none⟩))).run Tryz.prog wd = .ok (.slice so2 j1.m.sg.length sc2) wd) ∧ (ldT 32 (.pointer (some ⟨w.heap.size, 0, none⟩))).run Tryz.prog wd = .ok (.pointer (some ⟨gj, 0, none⟩)) wd ∧ (ldT 37 (.pointer (some ⟨gj, 2, none⟩))).run Tryz.prog wd = .ok (.int .u64 (j1.c : Int)) wd := ⟨⟨HLd.out.ldA ty_man 1 rfl 0 rfl (Nat.le_of_ble_eq_true rfl), HLd.out.ldO ty_parts 1 rfl 2 rfl⟩, HLd.out.ldO ty_jp 0 rfl 0 rfl, run_ldO ty_u64 hx.jn.blk 2 rfl⟩
  have hfd := fld_part ((lastS j1.m.sg).1 : Int) ((lastS j1.m.sg).2 : Int)
  have hinc := inc_wrap (lastS j1.m.sg).1
  refine wp_region_to (K := [1, 3, 4, 5, 7, 8, 9, 10, 11, 12, 13, 15]) (S := fun W => ((ldT 60 (.pointer (some ⟨g4, 0, none⟩))).run Tryz.prog W = .ok (.agg (mcs j1.m so2 sc2 co2 cc2)) W ∧ (ldT 58 (.pointer (some ⟨g4, 2, none⟩))).run Tryz.prog W = .ok (.slice so2 j1.m.sg.length sc2) W) ∧ (ldT 32 (.pointer (some ⟨w.heap.size, 0, none⟩))).run Tryz.prog W = .ok (.pointer (some ⟨gj, 0, none⟩)) W ∧ (ldT 37 (.pointer (some ⟨gj, 2, none⟩))).run Tryz.prog W = .ok (.int .u64 (j1.c : Int)) W) (by kernel_rfl) ?_
  rw [hwd]
  clear hwd hx H4' HJ4 HM4 HG4 HBE4 s4 z4
  refine wpTo_take (i := 0) (v := ?va0) rfl (by kernel_rfl) (fun _ _ _ h => h) (Or.inl ⟨by rfl, ?hya0⟩) hs0 ?resta0
  case hya0 => (rintro W ⟨⟨hW1, hW2⟩, hW3, hW4⟩; go_simp; try with_reducible rfl)
  simp only [Act.put, List.setIfInBounds_toArray, List.set_cons_zero, List.set_cons_succ, List.getElem_toArray, List.getElem_cons_succ, List.getElem_cons_zero]
  refine wpTo_take (i := 1) (v := ?va1) rfl (by kernel_rfl) (fun _ _ _ h => h) (Or.inl ⟨by rfl, ?hya1⟩) hs0 ?resta1
  case hya1 => (rintro W ⟨⟨hW1, hW2⟩, hW3, hW4⟩; go_simp; try with_reducible rfl)
  simp only [Act.put, List.setIfInBounds_toArray, List.set_cons_zero, List.set_cons_succ, List.getElem_toArray, List.getElem_cons_succ, List.getElem_cons_zero]
  refine wpTo_take (i := 2) (v := ?va2) rfl (by kernel_rfl) (fun _ _ _ h => h) (Or.inl ⟨by rfl, ?hya2⟩) hs0 ?resta2
  case hya2 => (rintro W ⟨⟨hW1, hW2⟩, hW3, hW4⟩; go_simp; try with_reducible rfl)
  simp only [Act.put, List.setIfInBounds_toArray, List.set_cons_zero, List.set_cons_succ, List.getElem_toArray, List.getElem_cons_succ, List.getElem_cons_zero]
  refine wpTo_take (i := 6) (v := ?va6) rfl (by kernel_rfl) (fun _ _ _ h => h) (Or.inl ⟨by rfl, ?hya6⟩) hs0 ?resta6
  case hya6 => (rintro W ⟨⟨hW1, hW2⟩, hW3, hW4⟩; go_simp; try with_reducible rfl)
  simp only [Act.put, List.setIfInBounds_toArray, List.set_cons_zero, List.set_cons_succ, List.getElem_toArray, List.getElem_cons_succ, List.getElem_cons_zero]
  refine wpTo_take (i := 7) (v := ?va7) rfl (by kernel_rfl) (fun _ _ _ h => h) (Or.inl ⟨by rfl, ?hya7⟩) hs0 ?resta7
  case hya7 => (rintro W ⟨⟨hW1, hW2⟩, hW3, hW4⟩; go_simp; try with_reducible rfl)
  simp only [Act.put, List.setIfInBounds_toArray, List.set_cons_zero, List.set_cons_succ, List.getElem_toArray, List.getElem_cons_succ, List.getElem_cons_zero]
  refine wpTo_take (i := 8) (v := ?va8) rfl (by kernel_rfl) (fun _ _ _ h => h) (Or.inl ⟨by rfl, ?hya8⟩) hs0 ?resta8
  case hya8 => (rintro W ⟨⟨hW1, hW2⟩, hW3, hW4⟩; go_simp; try with_reducible rfl)
  simp only [Act.put, List.setIfInBounds_toArray, List.set_cons_zero, List.set_cons_succ, List.getElem_toArray, List.getElem_cons_succ, List.getElem_cons_zero]
  refine wpTo_take (i := 9) (v := ?va9) rfl (by kernel_rfl) (fun _ _ _ h => h) (Or.inl ⟨by rfl, ?hya9⟩) hs0 ?resta9
  case hya9 => (rintro W ⟨⟨hW1, hW2⟩, hW3, hW4⟩; go_simp; try with_reducible rfl)
  simp only [Act.put, List.setIfInBounds_toArray, List.set_cons_zero, List.set_cons_succ, List.getElem_toArray, List.getElem_cons_succ, List.getElem_cons_zero]
  refine wpTo_take (i := 10) (v := ?va10) rfl (by kernel_rfl) (fun _ _ _ h => h) (Or.inl ⟨by rfl, ?hya10⟩) hs0 ?resta10
  case hya10 => (rintro W ⟨⟨hW1, hW2⟩, hW3, hW4⟩; go_simp; try with_reducible rfl)
  simp only [Act.put, List.setIfInBounds_toArray, List.set_cons_zero, List.set_cons_succ, List.getElem_toArray, List.getElem_cons_succ, List.getElem_cons_zero]
  refine wpTo_run (i := 3) (by kernel_rfl) rfl (fun _ => hs0) (fun K hK => ?_)
  go_simp
  go_at_call 66
  refine (newest_c j1.m so2 sc2 co2 cc2 wd HMd.out HS3.out.1).mono ?_
  rintro R w5 ⟨rfl, hb5⟩
  have HL5 := Lib.hid (HLd.out.to hb5)
  have HX5 := Lib.hid (HXd.out.new hb5)
  have HM5 := Lib.hid (HMd.out.to hb5)
  have HG5 := Lib.hid (HGd.out.to hb5)
  have HBE5 := Lib.hid (HBEd.out.trans (hb5.mono HBEd.out.size))
  have HZ5 : Hid (wd.heap.size ≤ w5.heap.size) := hb5.size
  have hs5 : ((ldT 60 (.pointer (some ⟨g4, 0, none⟩))).run Tryz.prog w5 = .ok (.agg (mcs j1.m so2 sc2 co2 cc2)) w5 ∧ (ldT 58 (.pointer (some ⟨g4, 2, none⟩))).run Tryz.prog w5 = .ok (.slice so2 j1.m.sg.length sc2) w5) ∧ (ldT 32 (.pointer (some ⟨w.heap.size, 0, none⟩))).run Tryz.prog w5 = .ok (.pointer (some ⟨gj, 0, none⟩)) w5 ∧ (ldT 37 (.pointer (some ⟨gj, 2, none⟩))).run Tryz.prog w5 = .ok (.int .u64 (j1.c : Int)) w5 := ⟨⟨HL5.out.ldA ty_man 1 rfl 0 rfl (Nat.le_of_ble_eq_true rfl), HL5.out.ldO ty_parts 1 rfl 2 rfl⟩, HL5.out.ldO ty_jp 0 rfl 0 rfl, run_ldO ty_u64 HX5.out.jn.blk 2 rfl⟩
  clear hb5
  refine hK _ _ ?_
  clear hK K
  refine wpTo_take (i := 4) (v := ?va4) rfl (by kernel_rfl) (fun _ _ _ h => h) (Or.inl ⟨by rfl, ?hya4⟩) hs5 ?resta4
  case hya4 => (rintro W ⟨⟨hW1, hW2⟩, hW3, hW4⟩; go_simp; try with_reducible rfl)
  simp only [Act.put, List.setIfInBounds_toArray, List.set_cons_zero, List.set_cons_succ, List.getElem_toArray, List.getElem_cons_succ, List.getElem_cons_zero]
  refine wpTo_take (i := 5) (v := ?va5) rfl (by kernel_rfl) (fun _ _ _ h => h) (Or.inl ⟨by rfl, ?hya5⟩) hs5 ?resta5
  case hya5 => (rintro W ⟨⟨hW1, hW2⟩, hW3, hW4⟩; go_simp; try with_reducible rfl)
  simp only [Act.put, List.setIfInBounds_toArray, List.set_cons_zero, List.set_cons_succ, List.getElem_toArray, List.getElem_cons_succ, List.getElem_cons_zero]
  refine wpTo_take (i := 11) (v := ?va11) rfl (by kernel_rfl) (fun _ _ _ h => h) (Or.inl ⟨by rfl, ?hya11⟩) hs5 ?resta11
  case hya11 => (rintro W ⟨⟨hW1, hW2⟩, hW3, hW4⟩; go_simp; try with_reducible rfl)
  simp only [Act.put, List.setIfInBounds_toArray, List.set_cons_zero, List.set_cons_succ, List.getElem_toArray, List.getElem_cons_succ, List.getElem_cons_zero]
  refine wpTo_run (i := 12) (by kernel_rfl) rfl (fun _ => hs5) (fun K hK => ?_)
  go_simp
  have hal := below_alloc w5 (.cells (gpv (inc (lastS j1.m.sg).1, j1.c)).toArray 122)
  have HLa := Lib.hid (HL5.out.to hal)
  have HXa := Lib.hid (HX5.out.new hal)
  have hs6 : ((ldT 60 (.pointer (some ⟨g4, 0, none⟩))).run Tryz.prog (w5.alloc (.cells (gpv (inc (lastS j1.m.sg).1, j1.c)).toArray 122)) = .ok (.agg (mcs j1.m so2 sc2 co2 cc2)) (w5.alloc (.cells (gpv (inc (lastS j1.m.sg).1, j1.c)).toArray 122)) ∧ (ldT 58 (.pointer (some ⟨g4, 2, none⟩))).run Tryz.prog (w5.alloc (.cells (gpv (inc (lastS j1.m.sg).1, j1.c)).toArray 122)) = .ok (.slice so2 j1.m.sg.length sc2) (w5.alloc (.cells (gpv (inc (lastS j1.m.sg).1, j1.c)).toArray 122))) ∧ (ldT 32 (.pointer (some ⟨w.heap.size, 0, none⟩))).run Tryz.prog (w5.alloc (.cells (gpv (inc (lastS j1.m.sg).1, j1.c)).toArray 122)) = .ok (.pointer (some ⟨gj, 0, none⟩)) (w5.alloc (.cells (gpv (inc (lastS j1.m.sg).1, j1.c)).toArray 122)) ∧ (ldT 37 (.pointer (some ⟨gj, 2, none⟩))).run Tryz.prog (w5.alloc (.cells (gpv (inc (lastS j1.m.sg).1, j1.c)).toArray 122)) = .ok (.int .u64 (j1.c : Int)) (w5.alloc (.cells (gpv (inc (lastS j1.m.sg).1, j1.c)).toArray 122)) := ⟨⟨HLa.out.ldA ty_man 1 rfl 0 rfl (Nat.le_of_ble_eq_true rfl), HLa.out.ldO ty_parts 1 rfl 2 rfl⟩, HLa.out.ldO ty_jp 0 rfl 0 rfl, run_ldO ty_u64 HXa.out.jn.blk 2 rfl⟩
  clear hal
  refine hK _ _ ?_
  clear hK K
  refine wpTo_run (i := 13) (by kernel_rfl) rfl (fun _ => hs6) (fun K hK => ?_)
  refine step_append_part Tryz.underlying58 info_part rfl _ _ rfl (by simp [Act.eval]) (inc (lastS j1.m.sg).1, j1.c) (by simp [Act.eval]) HG5.out HL5.out (Nat.le_of_lt HSZ.out.2.2.1) (by have := HSZ.out.1; have := HSd.out; have := HZ5.out; omega) (by simp) (by have := HLE1.out; omega) ?_
  intro r' cap' w7 hr7 hl7 hg7
  rw [← Gpl_snoc] at hr7
  have HL7 := Lib.hid hl7
  have HR7 := Lib.hid hr7
  have hrow : ∀ x, V2 x → ¬ (some x = (Value.slice so2 j1.m.sg.length sc2).ownBlock) := fun x hx e => by
    have h1 := (HG5.out.own.lt x e.symm).1
    have h2 := HJ2.out.lt x hx
    omega
  have HX7 := Lib.hid (HXa.out.tu (Tu.grown hg7) hrow)
  have HCK7 : Hid (NsAt w7 co2 j1.m.ck ∧ j1.m.fit ∧ ∀ x, mbl j1.m so2 co2 x → w2.heap.size ≤ x ∧ x < g4) := ⟨(HM5.out.to (below_alloc w5 (.cells (gpv (inc (lastS j1.m.sg).1, j1.c)).toArray 122))).ns.tuS (Tu.grown hg7) (fun _ a e h => HS3.out.2.2 a e h.symm), HM5.out.fit, HN4.out⟩
  have HBE7 : Hid (Below w2.heap.size w2 w7) := HBE5.out.trans ((Tu.grown hg7).below (fun x hx e => by have h1 := (HG5.out.own.lt x e.symm).1; omega) (by have := HSZ.out.1; have := HSd.out; have := HZ5.out; have := (below_alloc w5 (.cells (gpv (inc (lastS j1.m.sg).1, j1.c)).toArray 122)).size; omega) |> fun h => (below_alloc w5 _).mono (by have := HSZ.out.1; have := HSd.out; have := HZ5.out; omega) |>.trans h)
  have hs7 : ((ldT 60 (.pointer (some ⟨g4, 0, none⟩))).run Tryz.prog w7 = .ok (.agg (mcs j1.m so2 sc2 co2 cc2)) w7 ∧ (ldT 58 (.pointer (some ⟨g4, 2, none⟩))).run Tryz.prog w7 = .ok (.slice so2 j1.m.sg.length sc2) w7) ∧ (ldT 32 (.pointer (some ⟨w.heap.size, 0, none⟩))).run Tryz.prog w7 = .ok (.pointer (some ⟨gj, 0, none⟩)) w7 ∧ (ldT 37 (.pointer (some ⟨gj, 2, none⟩))).run Tryz.prog w7 = .ok (.int .u64 (j1.c : Int)) w7 := ⟨⟨HL7.out.ldA ty_man 1 rfl 0 rfl (Nat.le_of_ble_eq_true rfl), HL7.out.ldO ty_parts 1 rfl 2 rfl⟩, HL7.out.ldO ty_jp 0 rfl 0 rfl, run_ldO ty_u64 HX7.out.jn.blk 2 rfl⟩
  clear hr7 hl7 hg7 hrow
  refine hK _ _ ?_
  clear hK K
  refine wpTo_run (i := 14) (by kernel_rfl) rfl (fun _ => hs7) (fun K hK => ?_)
  go_simp
  refine hK _ _ ?_
  clear hK K
  refine wpTo_run (i := 15) (by kernel_rfl) rfl (fun _ => hs7) (fun K hK => ?_)
  obtain ⟨w8, s8, H8, q8⟩ := HL7.out.stO ty_parts 1 rfl 2 (.slice (some ⟨r', 0, none⟩) (j1.m.sg.length + 1) cap') (cs' := mcs ⟨j1.m.ep, j1.m.pl, j1.m.sg ++ [(inc (lastS j1.m.sg).1, j1.c)], j1.m.ck⟩ (some ⟨r', 0, none⟩) cap' co2 cc2) (by simp [mcs]) (L' := [(w.heap.size, 32, #[.pointer (some ⟨gj, 0, none⟩)]), (g4, 60, mcs ⟨j1.m.ep, j1.m.pl, j1.m.sg ++ [(inc (lastS j1.m.sg).1, j1.c)], j1.m.ck⟩ (some ⟨r', 0, none⟩) cap' co2 cc2)]) rfl (Nat.le_of_ble_eq_true rfl) rfl rfl
  have HL8 := Lib.hid H8
  have HQ8 := Lib.hid q8
  clear H8 q8
  go_simp
  refine hK _ _ ?_
  clear hK K
  refine wpTo_done (by kernel_rfl) (by kernel_rfl) ?_
  clear hs0 hs5 hs6 hs7 s8
  obtain ⟨m', hm'⟩ : ∃ m' : Mf, m' = ⟨j1.m.ep, j1.m.pl, j1.m.sg ++ [(inc (lastS j1.m.sg).1, j1.c)], j1.m.ck⟩ := ⟨_, rfl⟩
  have hln : m'.sg.length = j1.m.sg.length + 1 := by rw [hm']; simp
  have HTP := Lib.hid (told_part (l := j1.m.sg ++ [(inc (lastS j1.m.sg).1, j1.c)]) HR7.out (by simp))
  have HFG : Hid (∀ a, some a = (some ⟨r', 0, none⟩ : Option Addr) → a.block ≠ g4) := fun a e => by
    cases e
    exact fun h => HR7.out.far g4 (by simp) (congrArg some h)
  have kt : Tu (fun x => x = g4) w7 w8 := Tu.of_same HQ8.out
  have HBE8 := Lib.hid (HBE7.out.trans (kt.below (fun x hx e => by have := HSZ.out.2.1; omega) HBE7.out.size))
  have HX8 := Lib.hid (HX7.out.tu kt (fun x hx e => by have := HJ2.out.lt x hx; have := HSZ.out.2.1; omega))
  have HM8 : Hid (MfAt w8 m' (some ⟨r', 0, none⟩) co2) := by
    have hf := HCK7.out.2.1
    have hj := HX7.out.jn.fit.o
    rw [hm']
    refine ⟨⟨hf.ep, hf.pl, fun x hx => ?_, hf.ck⟩, HTP.out.1.tuS kt fun _ a e => HFG.out a e.symm, HCK7.out.1.tuS kt fun h0 a e h => ?_, ?_, ?_⟩
    · rcases List.mem_append.1 hx with hx | hx
      · exact hf.sg x hx
      · rw [List.mem_singleton] at hx
        subst hx
        exact ⟨inc_lt _, show j1.c < _ by omega⟩
    · have h1 := HCK7.out.2.2 _ (.inr ⟨h0, a, e, rfl⟩)
      omega
    · have := HLE1.out; simp [maxLen]; omega
    · exact HX7.out.jn.man.l2
  have HSC8 : Hid (m'.sg.length ≤ cap' ∧ cap' ≤ maxLen) := by
    have := HTP.out.2.2
    rw [show m'.sg.length = j1.m.sg.length + 1 from hln]
    exact ⟨this.1, this.2.1⟩
  have HMB : Hid (∀ x, mbl m' (some ⟨r', 0, none⟩) co2 x → w2.heap.size ≤ x) := fun x hx => by
    rcases hx with ⟨h0, a, e, rfl⟩ | ⟨h0, a, e, rfl⟩
    · exact (HTP.out.2.1 a e).1
    · rw [hm'] at h0
      exact (HCK7.out.2.2 _ (.inr ⟨h0, a, e, rfl⟩)).1
  have HJF : Hid (JnF { j1 with m := m' }) := by
    have hf := HX7.out.jn.fit
    rw [hm']
    exact ⟨hf.o, hf.ah, hf.ahl, hf.sy, hf.os, hf.ap, hf.rows, hf.pl, by have := HLE1.out; simp; omega, hf.ckl⟩
  rw [← hm'] at HL8 HR0
  clear hm' HR7 HTP HX7 HCK7 HL7 HBE7 HGd HG5 HL5 HLa HXa HM5 HX5 HMd HXd HJd HLd hinc hfd kt
  go_upto_region 10 with fail
  have HLd := Lib.hid HL8.out.drew
  have HXd := Lib.hid (HX8.out.new (Below.refl _ w8).drew)
  have HMd := Lib.hid (HM8.out.to (Below.refl _ w8).drew)
  have HBEd := Lib.hid (HBE8.out.drew)
  generalize hwd : w8.drew = wd2 at *
  have hs0 : (ldT 32 (.pointer (some ⟨w.heap.size, 0, none⟩))).run Tryz.prog wd2 = .ok (.pointer (some ⟨gj, 0, none⟩)) wd2 ∧ (ldT 60 (.pointer (some ⟨g4, 0, none⟩))).run Tryz.prog wd2 = .ok (.agg (mcs m' (some ⟨r', 0, none⟩) cap' co2 cc2)) wd2 := ⟨HLd.out.ldO ty_jp 0 rfl 0 rfl, HLd.out.ldA ty_man 1 rfl 0 rfl (Nat.le_of_ble_eq_true rfl)⟩
  have hmf : ∀ (fn : Fn) (first cap : Array Value) (w : World), (Instr.makeFunc fn first cap).run Tryz.prog w = .ok (.func fn first cap) w := fun _ _ _ _ => rfl
  refine wp_region_to (K := [3, 4, 5, 7]) (S := fun W => (ldT 32 (.pointer (some ⟨w.heap.size, 0, none⟩))).run Tryz.prog W = .ok (.pointer (some ⟨gj, 0, none⟩)) W ∧ (ldT 60 (.pointer (some ⟨g4, 0, none⟩))).run Tryz.prog W = .ok (.agg (mcs m' (some ⟨r', 0, none⟩) cap' co2 cc2)) W) (by kernel_rfl) ?_
  rw [hwd]
  clear hwd HL8 HX8 HM8 HBE8
  refine wpTo_take (i := 0) (v := ?vb0) rfl (by kernel_rfl) (fun _ _ _ h => h) (Or.inl ⟨by rfl, ?hyb0⟩) hs0 ?restb0
  case hyb0 => (rintro W ⟨hW1, hW2⟩; go_simp; try with_reducible rfl)
  simp only [Act.put, List.setIfInBounds_toArray, List.set_cons_zero, List.set_cons_succ, List.getElem_toArray, List.getElem_cons_succ, List.getElem_cons_zero]
  refine wpTo_take (i := 1) (v := ?vb1) rfl (by kernel_rfl) (fun _ _ _ h => h) (Or.inl ⟨by rfl, ?hyb1⟩) hs0 ?restb1
  case hyb1 => (rintro W ⟨hW1, hW2⟩; go_simp; try with_reducible rfl)
  simp only [Act.put, List.setIfInBounds_toArray, List.set_cons_zero, List.set_cons_succ, List.getElem_toArray, List.getElem_cons_succ, List.getElem_cons_zero]
  refine wpTo_take (i := 2) (v := ?vb2) rfl (by kernel_rfl) (fun _ _ _ h => h) (Or.inl ⟨by rfl, ?hyb2⟩) hs0 ?restb2
  case hyb2 => (rintro W ⟨hW1, hW2⟩; go_simp; try with_reducible rfl)
  simp only [Act.put, List.setIfInBounds_toArray, List.set_cons_zero, List.set_cons_succ, List.getElem_toArray, List.getElem_cons_succ, List.getElem_cons_zero]
  refine wpTo_take (i := 3) (v := ?vb3) rfl (by kernel_rfl) (fun _ _ _ h => h) (Or.inl ⟨by rfl, ?hyb3⟩) hs0 ?restb3
  case hyb3 => (rintro W ⟨hW1, hW2⟩; go_simp; try with_reducible rfl)
  simp only [Act.put, List.setIfInBounds_toArray, List.set_cons_zero, List.set_cons_succ, List.getElem_toArray, List.getElem_cons_succ, List.getElem_cons_zero]
  refine wpTo_take (i := 4) (v := ?vb4) rfl (by kernel_rfl) (fun _ _ _ h => h) (Or.inl ⟨by rfl, ?hyb4⟩) hs0 ?restb4
  case hyb4 => (rintro W ⟨hW1, hW2⟩; go_simp; try with_reducible rfl)
  simp only [Act.put, List.setIfInBounds_toArray, List.set_cons_zero, List.set_cons_succ, List.getElem_toArray, List.getElem_cons_succ, List.getElem_cons_zero]
  refine wpTo_take (i := 6) (v := ?vb6) rfl (by kernel_rfl) (fun _ _ _ h => h) (Or.inl ⟨by rfl, ?hyb6⟩) hs0 ?restb6
  case hyb6 => (rintro W ⟨hW1, hW2⟩; go_simp; try with_reducible rfl)
  simp only [Act.put, List.setIfInBounds_toArray, List.set_cons_zero, List.set_cons_succ, List.getElem_toArray, List.getElem_cons_succ, List.getElem_cons_zero]
  refine wpTo_run (i := 5) (by kernel_rfl) rfl (fun _ => hs0) (fun K hK => ?_)
  go_simp
  go_at_call 72
  refine (unconf_c gj 2 j1.c ac ao j1.ah wd2 (by rw [HXd.out.jn.blk.cell]; rfl) (by rw [HXd.out.jn.blk.cell]; rfl) HXd.out.jn.ins HXd.out.jn.fit.o (by have := HXd.out.jn.fit.ahl; omega)).mono ?_
  rintro R w9 ⟨ao3, ac3, rfl, hrc, hnw, _, _, hb9⟩
  have HRC := Lib.hid hrc
  have HL9 := Lib.hid (HLd.out.to hb9)
  have HX9 := Lib.hid (HXd.out.new hb9)
  have HM9 := Lib.hid (HMd.out.to hb9)
  have HBE9 := Lib.hid (HBEd.out.trans (hb9.mono HBEd.out.size))
  have hs9 : (ldT 32 (.pointer (some ⟨w.heap.size, 0, none⟩))).run Tryz.prog w9 = .ok (.pointer (some ⟨gj, 0, none⟩)) w9 ∧ (ldT 60 (.pointer (some ⟨g4, 0, none⟩))).run Tryz.prog w9 = .ok (.agg (mcs m' (some ⟨r', 0, none⟩) cap' co2 cc2)) w9 := ⟨HL9.out.ldO ty_jp 0 rfl 0 rfl, HL9.out.ldA ty_man 1 rfl 0 rfl (Nat.le_of_ble_eq_true rfl)⟩
  clear hrc hnw hb9
  refine hK _ _ ?_
  clear hK K
  refine wpTo_run (i := 7) (by kernel_rfl) rfl (fun _ => hs9) (fun K hK => ?_)
  go_simp
  go_at_call 71
  have hcb : w9.cell? ⟨w.heap.size, 0, none⟩ = some (.pointer (some ⟨gj, 0, none⟩)) := by
    have := (HL9.out.get 0 rfl : Cells _ _ _ _).cell 0
    exact this
  refine (jbegin_c (K := 73) (cap := #[.pointer (some ⟨w.heap.size, 0, none⟩)]) (e2 := 0) (p2 := swP q m' (SBP p1 q (hdM m') (oRecs j1.c j1.ah))) (j2 := { j1 with m := m', ap := 0 }) (oRecs j1.c j1.ah) (enters Tryz.func73 (by kernel_rfl) rfl) w9 ⟨S, ao, ac, so, sc, co, cc, HX9.out⟩ HM9.out HSC8.out (fun x hx hv => by have := HMB.out x hx; have := HJ2.out.lt x hv; omega) HJF.out HP1.out (tab_below HT2.out HBE9.out) HV2.out (oRecs_fits HX9.out.jn.fit) (by rw [oRecs_len]; have := HX9.out.jn.fit.ahl; omega) HRC.out fun _ _ w10 V10 h10 t10 _ => roll1_c w.heap.size w10 h10 (t10.tu.cell hcb fun hv => by
    rcases hv with hv | hv
    · exact HNB.out hv
    · have h5 : w2.heap.size ≤ w.heap.size := HMB.out _ hv; have h6 := HSZ.out.2.2.1; omega)).mono ?_
  rw [(roll_ans q p1 j1 m' (oRecs j1.c j1.ah) HBR.out).trans HR0.out.symm]
  rintro R w11 ⟨rfl, V11, h11, t11⟩
  have HFin : Hid (Q (.returned (.int .i64 (jRoll q p j).e)) w11) := by
    show Q _ _
    rw [HQ.out]
    exact ⟨rfl, V11, h11, ((HTO2.out.trans (JTo.new HBE9.out)).with (A := mbl m' (some ⟨r', 0, none⟩) co2) (fun x hx => by have := HMB.out x hx; have := HSZ.out.2.2.1; omega)).trans t11⟩
  clear h11 t11 hcb
  refine hK _ _ ?_
  clear hK K
  refine wpTo_run (i := 8) (by kernel_rfl) rfl (wpTo_off (by kernel_rfl)) (fun K hK => ?_)
  go_simp
  refine hK _ _ ?_
  clear hK K
  refine wpTo_done (by kernel_rfl) (by kernel_rfl) ?_
  clear hs0 hs9
  go_wp2
  exact HFin.out
end
end Go.Proofs.YtgeaacabpnepmaaGreatDoor
