/- The statement StateSame: which states are the same is as the document says; a copy is, in memory of its own: the Go function returns true. Conditions: the table of bounds lies in its variable. -/
import Derived.Test.YtbmkmmkebophpaaDoorSt
import Derived.Test.YtbmkmmkebophpaaDoorSu
import Derived.Test.YtbmkmmkebophpaaDoorSy
import Derived.StillTailTactics
import Derived.Deep.RegionHeld3
namespace Go.Proofs.YtbmkmmkebophpaaDoor
open Go.RowKit
set_option linter.unusedVariables false

/-- A shot laid into a block. -/
def storeSh (p v : Value) : Sem Unit := Instr.storeAt 46 p v
theorem storeAt_sh (p v : Value) : Instr.storeAt 46 p v = storeSh p v := rfl
theorem info_ShSz : (Tryd.prog.info? 46).map (·.size) = some 6 := by kernel_rfl
theorem run_storeSh {w : World} {g : Nat} {t : TypeId} {old cs : Array Value} (o : Nat) (h : Cells w g t old) (ho : o + 6 ≤ old.size) (hc : cs.size = 6) (h1 : cs.toList.all Value.oneCell' = true) :
    (storeSh (.pointer (some ⟨g, o, none⟩)) (.agg cs)).run Tryd.prog w = .ok () (w.setRow g (old.toList.take o ++ cs.toList ++ old.toList.drop (o + 6)).toArray) := by
  have hst := run_storeCells_at Tryd.prog g o t cs.toList 0 old w h (by simp [hc]; omega) (fun v hv => List.all_eq_true.1 h1 v hv)
  rw [Nat.add_zero, show cs.toList.length = 6 from by simpa using hc] at hst
  cases hq : Tryd.prog.info? 46 with
  | none => have := info_ShSz; rw [hq] at this; simp at this
  | some i =>
    have hi : i.size = 6 := by have := info_ShSz; rw [hq] at this; simpa using this
    simp [storeSh, Instr.storeAt, Instr.sureAddr, storeVar, sizeOf, typeInfo, hq, hi, Value.cells, hc, hst]
theorem refSame_self (a : St) (ao bo : Option Addr) (c1 c2 : Nat) (w : World) (h1 : Shs w ao a.ss) (h2 : Shs w bo a.ss) (hl : a.ss.length ≤ maxLen) :
    Calls Tryd.prog 15 #[sv a ao c1, sv a bo c2] w fun E w' => E = .returned (.bool true) ∧ w.grownBy w' none :=
  (refSame_c a a ao bo c1 c2 w h1 h2 hl hl).mono fun E w' ⟨e, h⟩ => ⟨by rw [e]; simp [same], h⟩
/-- The lives that are still to be written over stand as they were. -/
def Lives (w : World) (ao : Option Addr) (cap : Nat) (l : List Sh) (k : Nat) : Prop :=
  ∀ g, ao = some ⟨g, 0, none⟩ → ∃ cur : Array Value, Cells w g 46 cur ∧ cur.size = cap * 6 ∧ l.length ≤ cap ∧ ∀ j (h : j < l.length), k ≤ j → cur[j * 6 + 5]? = some (.int .u8 ((l[j]'h).l : Int))
theorem lives_own {w : World} {B : Nat} {ao : Option Addr} {cap : Nat} {l : List Sh} (h : w.ownsRow B 46 6 (.slice ao l.length cap) l.length (Hall l)) : Lives w ao cap l 0 := fun g eg => by
  subst eg
  rcases h.2 with ⟨e, _⟩ | ⟨g', cap', cur, e, _, hc, hle, _, hsz, htk⟩
  · cases e
  · injection e with e1 e2 e3
    subst e3
    obtain rfl : g = g' := by injection e1 with e1; injection e1
    refine ⟨cur, hc, hsz, hle, fun j hj _ => ?_⟩
    have h5 : (Hall l)[j * 6 + 5]? = some (.int .u8 ((l[j]'hj).l : Int)) := hall_at l j hj 5 _ rfl
    rw [← htk, List.getElem?_take, if_pos (by omega)] at h5
    rwa [Array.getElem?_toList] at h5
theorem own_shape {w : World} {B : Nat} {ao : Option Addr} {cap n : Nat} {xs : List Value} (h : w.ownsRow B 46 6 (.slice ao n cap) n xs) : n = 0 ∨ ∃ g, ao = some ⟨g, 0, none⟩ := by
  rcases h.2 with ⟨_, e⟩ | ⟨g', cap', cur, e, _⟩
  · exact .inl e
  · injection e with e1 e2 e3
    exact .inr ⟨g', e1⟩
theorem lives_kept {w w' : World} {ao : Option Addr} {cap : Nat} {l : List Sh} {k : Nat} (h : Lives w ao cap l k) (hw : ∀ g, ao = some ⟨g, 0, none⟩ → w'.heap[g]? = w.heap[g]?) : Lives w' ao cap l k := fun g eg => by
  obtain ⟨cur, hc, r⟩ := h g eg
  exact ⟨cur, (hw g eg).trans hc, r⟩
attribute [local go_sem ↓] loadAt_state storeAt_state storeAt_sh
attribute [local go_sem] run_loadState rowOf_new rowOf_old rowOf_drew rowOf_drewN run_storeOk okRow_new okRow_old Value.oneCell' rowOf_own
set_option maxHeartbeats 2000000 in
set_option maxRecDepth 20000 in
theorem lawSame (a b : St) (ao bo : Option Addr) (c1 c2 : Nat) (w : World) (h1 : Shs w ao a.ss) (h2 : Shs w bo b.ss) (n1 : ao = none → c1 = 0) (hl : a.ss.length ≤ maxLen) (hm : b.ss.length ≤ maxLen) (ht : Tab w) :
    Calls Tryd.prog 5 #[sv a ao c1, sv b bo c2] w fun E w' => E = .returned (.bool true) ∧ w.grownBy w' none := by
  have hg : w.grownBy ((w.alloc (.cells (stc a ao c1) 30)).alloc (.cells (stc b bo c2) 30)) none := (grown_alloc _ _).trans (grown_alloc _ _)
  have HT := Lib.hid (tab_grown ht hg (by simp))
  have HG := Lib.hid hg
  by_cases hbig : 100 < a.ss.length
  · have hd : decide ((100 : Int) < (a.ss.length : Int)) = true := decide_eq_true (by omega)
    clear ht hg h1 h2 hbig n1
    go_enter Tryd.func5, Tryd.ntmps5
    go_wp2_with fail
    all_goals
      refine (works_c _ HT.out).mono ?_
      rintro E w1 ⟨rfl, hb1⟩
      go_wp2
      go_ret
      exact ⟨rfl, HG.out.trans hb1⟩
  by_cases hbig2 : 100 < b.ss.length
  · have hd : decide ((100 : Int) < (a.ss.length : Int)) = false := decide_eq_false (by omega)
    have hd2 : decide ((100 : Int) < (b.ss.length : Int)) = true := decide_eq_true (by omega)
    clear ht hg h1 h2 hbig n1 hbig2
    go_enter Tryd.func5, Tryd.ntmps5
    go_wp2_with fail
    all_goals
      refine (works_c _ HT.out).mono ?_
      rintro E w1 ⟨rfl, hb1⟩
      go_wp2
      go_ret
      exact ⟨rfl, HG.out.trans hb1⟩
  have hd : decide ((100 : Int) < (a.ss.length : Int)) = false := decide_eq_false (by omega)
  have hd2 : decide ((100 : Int) < (b.ss.length : Int)) = false := decide_eq_false (by omega)
  have HF : Hid (∀ x ∈ a.ss, x.fit) := fun x hx => by
    obtain ⟨i, hi, rfl⟩ := List.getElem_of_mem hx
    exact (h1 i hi).1
  have HA := Lib.hid (Shs_grown h1 hg (by simp))
  have HB := Lib.hid (Shs_grown h2 hg (by simp))
  have HBa : Hid (Bk ((w.alloc (.cells (stc a ao c1) 30)).alloc (.cells (stc b bo c2) 30)) w.heap.size a ao c1) := heap_alloc2_old w _ _
  have HBb : Hid (Bk ((w.alloc (.cells (stc a ao c1) 30)).alloc (.cells (stc b bo c2) 30)) (w.heap.size + 1) b bo c2) := heap_alloc2_new w _ _
  have HN := Lib.hid n1
  have HZS : Hid (((w.alloc (.cells (stc a ao c1) 30)).alloc (.cells (stc b bo c2) 30)).heap.size = w.heap.size + 2) := by show _ = _; simp
  have HLM := Lib.hid hl
  have HMM := Lib.hid hm
  have H1 := Lib.hid h1
  have H2 := Lib.hid h2
  clear ht hg h1 h2 n1 hl hm
  go_enter Tryd.func5, Tryd.ntmps5
  go_wp2_with fail
  refine (refCopy_c a ao c1 _ HA.out HN.out (by omega)).mono ?_
  rintro E w1 ⟨ao1, cap1, rfl, hown1, hnil1, hb1⟩
  have HO1 := Lib.hid hown1
  have HN1 := Lib.hid hnil1
  have HS1 := Lib.hid (shs_own hown1 rfl HF.out)
  have HA1 := Lib.hid (Shs_grown HA.out hb1 (by simp))
  have HC1 := Lib.hid (Shs_grown HB.out hb1 (by simp))
  have HBa1 := Lib.hid (bk_grown HBa.out hb1 (by simp))
  have HBb1 := Lib.hid (bk_grown HBb.out hb1 (by simp))
  have HT1 := Lib.hid (tab_grown HT.out hb1 (by simp))
  have HG1 := Lib.hid (HG.out.trans hb1)
  have hz1 : w.heap.size + 2 ≤ w1.heap.size := by have := hb1.size; rw [HZS.out] at this; exact this
  have hob : ∀ q, (Value.slice ao1 a.ss.length cap1).ownBlock = some q → w.heap.size + 2 ≤ q ∧ q < w1.heap.size := fun q e => by have := hown1.lt q e; rw [HZS.out] at this; exact this
  have HOB := Lib.hid hob
  clear hown1 hnil1 hb1 hob HA HB HBa HBb HT HG HN
  have hgx := grown_own w1 (.cells #[.int .u64 0, .int .u64 0, .int .i32 0, .int .i32 0, .int .i32 0, .int .i32 0, .int .u8 0, .int .u8 0, .int .u8 0, .int .i32 0, .int .i32 0, .int .i32 0, .int .i32 0, .int .u8 0, .int .u8 0, .int .u8 0, .slice none 0 0, .int .u16 0, .int .u16 0] 30) (stc a ao1 cap1)
  have HX := Lib.hid hgx
  have HBx : Hid (Bk ((w1.alloc (.cells #[.int .u64 0, .int .u64 0, .int .i32 0, .int .i32 0, .int .i32 0, .int .i32 0, .int .u8 0, .int .u8 0, .int .u8 0, .int .i32 0, .int .i32 0, .int .i32 0, .int .i32 0, .int .u8 0, .int .u8 0, .int .u8 0, .slice none 0 0, .int .u16 0, .int .u16 0] 30)).setRow w1.heap.size (stc a ao1 cap1)) w1.heap.size a ao1 cap1) := bk_setRow (Cells.made w1 _ _) a ao1 cap1
  have HXS : Hid (((w1.alloc (.cells #[.int .u64 0, .int .u64 0, .int .i32 0, .int .i32 0, .int .i32 0, .int .i32 0, .int .u8 0, .int .u8 0, .int .u8 0, .int .i32 0, .int .i32 0, .int .i32 0, .int .i32 0, .int .u8 0, .int .u8 0, .int .u8 0, .slice none 0 0, .int .u16 0, .int .u16 0] 30)).setRow w1.heap.size (stc a ao1 cap1)).heap.size = w1.heap.size + 1) := by show _ = _; simp
  clear hgx
  go_wp2_with fail
  refine (copy_c a ao1 cap1 _ (Shs_grown HS1.out HX.out (by simp)) HN1.out (by omega)).mono ?_
  rintro E w2 ⟨ao2, cap2, rfl, hown2, hnil2, hb2⟩
  have hg12 := HX.out.trans hb2
  have HO1b := Lib.hid (World.ownsRow.kept HO1.out hg12 (Classical.em _))
  have HO2 := Lib.hid hown2
  have HS2 := Lib.hid (shs_own hown2 rfl HF.out)
  have HA2 := Lib.hid (Shs_grown HA1.out hg12 (by simp))
  have HC2 := Lib.hid (Shs_grown HC1.out hg12 (by simp))
  have HBa2 := Lib.hid (bk_grown HBa1.out hg12 (by simp))
  have HBb2 := Lib.hid (bk_grown HBb1.out hg12 (by simp))
  have HBx2 := Lib.hid (bk_grown HBx.out hb2 (by simp))
  have HT2 := Lib.hid (tab_grown HT1.out hg12 (by simp))
  have HG2 := Lib.hid (HG1.out.trans hg12)
  have hz2 : w1.heap.size + 1 ≤ w2.heap.size := by have := hb2.size; rw [HXS.out] at this; exact this
  have hob2 : ∀ q, (Value.slice ao2 a.ss.length cap2).ownBlock = some q → w1.heap.size + 1 ≤ q := fun q e => by have := (hown2.lt q e).1; rw [HXS.out] at this; exact this
  have HOB2 := Lib.hid hob2
  clear hown2 hnil2 hb2 hob2 hg12 HO1 HN1 HS1 HA1 HC1 HBa1 HBb1 HT1 HG1 HX HBx HXS
  go_upto_region 5 with fail
  have hgy := grown_own w2 (.cells #[.int .u64 0, .int .u64 0, .int .i32 0, .int .i32 0, .int .i32 0, .int .i32 0, .int .u8 0, .int .u8 0, .int .u8 0, .int .i32 0, .int .i32 0, .int .i32 0, .int .i32 0, .int .u8 0, .int .u8 0, .int .u8 0, .slice none 0 0, .int .u16 0, .int .u16 0] 30) (stc a ao2 cap2)
  have HB6 : Hid (Bk ((w2.alloc (.cells #[.int .u64 0, .int .u64 0, .int .i32 0, .int .i32 0, .int .i32 0, .int .i32 0, .int .u8 0, .int .u8 0, .int .u8 0, .int .i32 0, .int .i32 0, .int .i32 0, .int .i32 0, .int .u8 0, .int .u8 0, .int .u8 0, .slice none 0 0, .int .u16 0, .int .u16 0] 30)).setRow w2.heap.size (stc a ao2 cap2)) w2.heap.size a ao2 cap2) := bk_setRow (Cells.made w2 _ _) a ao2 cap2
  have HO3 := Lib.hid (World.ownsRow.kept HO1b.out hgy (Classical.em _))
  have HS3 := Lib.hid (Shs_grown HS2.out hgy (by simp))
  have HA3 := Lib.hid (Shs_grown HA2.out hgy (by simp))
  have HC3 := Lib.hid (Shs_grown HC2.out hgy (by simp))
  have HBa3 := Lib.hid (bk_grown HBa2.out hgy (by simp))
  have HBb3 := Lib.hid (bk_grown HBb2.out hgy (by simp))
  have HBx3 := Lib.hid (bk_grown HBx2.out hgy (by simp))
  have HT3 := Lib.hid (tab_grown HT2.out hgy (by simp))
  have HG3 := Lib.hid (HG2.out.trans hgy)
  clear hgy HO1b HS2 HA2 HC2 HBa2 HBb2 HBx2 HT2 HG2
  generalize ((w2.alloc (.cells #[.int .u64 0, .int .u64 0, .int .i32 0, .int .i32 0, .int .i32 0, .int .i32 0, .int .u8 0, .int .u8 0, .int .u8 0, .int .i32 0, .int .i32 0, .int .i32 0, .int .i32 0, .int .u8 0, .int .u8 0, .int .u8 0, .slice none 0 0, .int .u16 0, .int .u16 0] 30)).setRow w2.heap.size (stc a ao2 cap2)) = w3 at *
  have HL0 := Lib.hid (lives_own HO3.out)
  have HSP := Lib.hid (own_shape HO3.out)
  go_wp2
  go_loopw [7] (fun v wr => ∃ k : Nat, k ≤ a.ss.length ∧ v = .int .i64 k ∧ Hid (w3.grownBy wr (Value.slice ao1 a.ss.length cap1).ownBlock) ∧ Hid (Lives wr ao1 cap1 a.ss k)) (fun v _ => a.ss.length - (intOf v).toNat)
  case atStart => exact ⟨0, by omega, rfl, grown_refl _ _, HL0⟩
  case round =>
    obtain ⟨k, hk, rfl, HW, HLV⟩ := hrel
    have HBxr := Lib.hid (bk_grown HBx3.out HW.out (fun e => by have := HOB.out _ e.symm; omega))
    have c16 := HBxr.out.of 16 _ rfl
    by_cases hlt : k < a.ss.length
    · obtain ⟨g, rfl⟩ : ∃ g, ao1 = some ⟨g, 0, none⟩ := by
        rcases HSP.out with e | e
        · omega
        · exact e
      obtain ⟨cur, hcur, hcs, hcl, hlv⟩ := HLV.out g rfl
      have hki : (k : Int) < (a.ss.length : Int) := by omega
      obtain ⟨w5, hw5⟩ : ∃ w5 : World, { wr with drawn := wr.drawn + 1 } = w5 := ⟨_, rfl⟩
      have d16 : w5.cell? ⟨w1.heap.size, 16, none⟩ = some (.slice (some ⟨g, 0, none⟩) a.ss.length cap1) := by rw [← hw5]; exact c16
      have hcur5 : Cells w5 g 46 cur := by rw [← hw5]; exact Cells.drew hcur
      have d5 : w5.cell? ⟨g, k * 6 + 5, none⟩ = some (.int .u8 ((a.ss[k]'hlt).l : Int)) := by rw [hcur5.cell]; exact hlv k hlt (Nat.le_refl _)
      obtain ⟨WW, hst, hWW⟩ : ∃ WW : Int → World, (∀ z : Int, (storeSh (.pointer (some ⟨g, k * 6, none⟩)) (.agg #[.int .i32 0, .int .i32 0, .int .i32 0, .int .i32 0, .int .u8 0, .int .u8 z])).run Tryd.prog w5 = .ok () (WW z)) ∧ ∀ z : Int, w5.grownBy (WW z) (some g) ∧ Lives (WW z) (some ⟨g, 0, none⟩) cap1 a.ss (k + 1) :=
        ⟨_, fun z => run_storeSh (k * 6) hcur5 (by omega) rfl (by simp [Value.oneCell']), fun z => ⟨grown_setRow _ _ _, fun g' e => by
          obtain rfl : g = g' := by injection e with e; injection e
          refine ⟨_, setRow_heap _ _ _ _ _ _ hcur5, by simp; omega, hcl, fun j hj hkj => ?_⟩
          have h5 := hlv j hj (by omega)
          rw [← Array.getElem?_toList] at h5
          simp only [List.getElem?_toArray]
          rw [List.getElem?_append_right (by simp; omega), List.getElem?_drop]
          rw [← h5]
          congr 1
          simp
          omega⟩⟩
      have HWR := Lib.hid (show w3.grownBy w5 (Value.slice (some ⟨g, 0, none⟩) a.ss.length cap1).ownBlock by rw [← hw5]; exact HW.out.trans (grown_any (grown_drw wr)))
      have HWW := Lib.hid hWW
      clear hWW hcur hcur5 hlv hcs hcl
      go_wp2_with fail
      refine wp_region_still_tail 12 (by kernel_rfl) (by kernel_rfl) ?_
      simp only [List.take_succ_cons, List.take_zero, List.drop_succ_cons, List.drop_zero]
      rw [hw5]
      clear hw5 c16
      repeat still_step
      refine wpStill_nil ?_
      go_wp2
      go_roundw
      case rel => exact ⟨k + 1, by omega, by go_num, HWR.out.trans (HWW.out _).1, (HWW.out _).2⟩
      case measure => simp [intOf]; omega
    · have BW : Below w.heap.size w wr := (below_of_grown HG3.out).trans (grown_nb HW.out (fun q e => by have := HOB.out q e; omega) HG3.out.size)
      have HAr := Lib.hid (Shs_grown H1.out (grown_of_below (r := none) BW) (by simp))
      have HBr := Lib.hid (Shs_grown H2.out (grown_of_below (r := none) BW) (by simp))
      have HSr := Lib.hid (Shs_grown HS3.out HW.out (fun x e y => by have h7 := HOB.out _ y; have h8 := HOB2.out x.block (by rw [e]; rfl); omega))
      have q2 := bk_grown HBa3.out HW.out (fun e => by have := HOB.out _ e.symm; omega)
      have q3 := bk_grown HBb3.out HW.out (fun e => by have := HOB.out _ e.symm; omega)
      have q6 := bk_grown HB6.out HW.out (fun e => by have := HOB.out _ e.symm; omega)
      have r2 := rowOf_on (B := wr.heap.size) (rowOf_cells q2) (Cells.lt q2)
      have r3 := rowOf_on (B := wr.heap.size) (rowOf_cells q3) (Cells.lt q3)
      have r6 := rowOf_on (B := wr.heap.size) (rowOf_cells q6) (Cells.lt q6)
      have HTr := Lib.hid (tab_grown HT3.out HW.out (fun e => by have := HOB.out _ e; omega))
      have HBW := Lib.hid BW
      have hqq : (same a b == same a b) = true := beq_self_eq_true _
      have o0 := On.drew wr.heap.size wr
      clear BW q2 q3 q6 H1 H2 HA3 HC3 HBa3 HBb3 HS3 HB6 HT3 HLV HW
      go_wp2_with fail
      clear c16
      go_region_held3 (fun w' => On wr.heap.size wr w') (first | with_reducible assumption) (first
        | (go_at_call 21; with_reducible refine (same_c a b ao bo c1 c2 _ (Shs_grown HAr.out (on_grown (by assumption)) (by simp)) (Shs_grown HBr.out (on_grown (by assumption)) (by simp)) HLM.out HMM.out).mono ?_; rintro E w4 ⟨rfl, hb4⟩; have o4 := on_step (wd := wr) (by assumption) hb4)
        | (go_at_call 21; with_reducible refine (same_self a ao ao c1 c1 _ (Shs_grown HAr.out (on_grown (by assumption)) (by simp)) (Shs_grown HAr.out (on_grown (by assumption)) (by simp)) HLM.out).mono ?_; rintro E w4 ⟨rfl, hb4⟩; have o4 := on_step (wd := wr) (by assumption) hb4)
        | (go_at_call 15; with_reducible refine (refSame_c a b ao bo c1 c2 _ (Shs_grown HAr.out (on_grown (by assumption)) (by simp)) (Shs_grown HBr.out (on_grown (by assumption)) (by simp)) HLM.out HMM.out).mono ?_; rintro E w4 ⟨rfl, hb4⟩; have o4 := on_step (wd := wr) (by assumption) hb4)
        | (go_at_call 15; with_reducible refine (refSame_self a ao2 ao cap2 c1 _ (Shs_grown HSr.out (on_grown (by assumption)) (by simp)) (Shs_grown HAr.out (on_grown (by assumption)) (by simp)) HLM.out).mono ?_; rintro E w4 ⟨rfl, hb4⟩; have o4 := on_step (wd := wr) (by assumption) hb4)
        | (go_at_call 9; with_reducible refine (works_c _ (tab_grown HTr.out (on_grown (by assumption)) (by simp))).mono ?_; rintro E w4 ⟨rfl, hb4⟩; have o4 := on_step (wd := wr) (by assumption) hb4))
      go_wp2
      go_ret
      exact ⟨rfl, grown_of_below (HBW.out.trans ((below_of_grown (on_grown o4)).mono HBW.out.size))⟩
theorem law_same (a b : St) (ao bo : Option Addr) (c1 c2 : Nat) (w : World) (h1 : Shs w ao a.ss) (h2 : Shs w bo b.ss) (n1 : ao = none → c1 = 0) (hl : a.ss.length ≤ maxLen) (hm : b.ss.length ≤ maxLen) (ht : Tab w) :
    Calls Tryd.prog 5 #[sv a ao c1, sv b bo c2] w fun E w' => E = .returned (.bool true) ∧ Below w.heap.size w w' :=
  (lawSame a b ao bo c1 c2 w h1 h2 n1 hl hm ht).mono fun E w' h => ⟨h.1, below_of_grown h.2⟩
end Go.Proofs.YtbmkmmkebophpaaDoor
