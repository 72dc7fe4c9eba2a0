/- Texts of the walk. -/
import Derived.Test.YtgeaacabpnepmaaGreatDoorKq8
/- Records written, segments begun, manifests swapped: the journal's inner calls. -/
namespace Go.Proofs.YtgeaacabpnepmaaGreatDoor
open Go.RowKit
set_option linter.unusedVariables false
set_option linter.unusedSimpArgs false
set_option maxRecDepth 20000

section
variable {V : Nat → Prop} {w : World} {gj gp q kc : Nat} {dv : Value} {ko : Option Addr} {p : Pw} {j : Jn}
theorem JC.names (h : JC V w gj gp q dv ko kc p j) : p.names.length ≤ 64 ∧ p.names.Nodup ∧ (∀ n ∈ p.names, n.length ≤ 32) ∧ DGood q p.E := h.pj.names
theorem JC.jnf (h : JC V w gj gp q dv ko kc p j) : JnF j ∧ j.m.fit := by
  obtain ⟨S, ao, ac, so, sc, co, cc, hx⟩ := h
  exact ⟨hx.jn.fit, hx.jn.man.fit⟩
theorem JC.split (h : JC V w gj gp q dv ko kc p j) : ∃ Vp, PJ Vp w gp q dv ko kc p ∧ ∀ w1 Vp' p', PJ Vp' w1 gp q dv ko kc p' → p'.ks = p.ks → JTo Vp w Vp' w1 → ∃ V', JC V' w1 gj gp q dv ko kc p' j ∧ JTo V w V' w1 := by
  obtain ⟨S, ao, ac, so, sc, co, cc, hx⟩ := h
  have hgp := hx.jn.far
  refine ⟨fun x => x = gp ∨ S x ∨ (p.ks ≠ [] ∧ ∃ a, ko = some a ∧ a.block = x), ⟨S, hx.pw, .inl rfl, fun x h => .inr (.inl h), fun a e hn => .inr (.inr ⟨hn, a, e, rfl⟩), ?_⟩, fun w1 Vp' p' hp hk ht => ?_⟩
  · rintro x (rfl | h | ⟨hn, a, e, rfl⟩)
    · exact hx.pw.lt
    · exact hx.lt x (hx.vs x h)
    · exact (hx.pw.kf a e hn).2
  · obtain ⟨S', h1, h2, h3, h4, h5⟩ := hp
    have hfar : ∀ x, (x = gj ∨ jsl j ao so co x) → ¬ (x = gp ∨ S x ∨ (p.ks ≠ [] ∧ ∃ a, ko = some a ∧ a.block = x)) := fun x hj h => by
      rcases h with h | h | ⟨hn, a, e, h⟩
      · exact (hgp x hj).1 h
      · exact (hgp x hj).2 h
      · exact (hx.vk a e hn).2 x hj h
    have hV' : ∀ x, Vp' x → V x ∨ w.heap.size ≤ x := fun x h => by
      rcases ht.more x h with (h | h | ⟨hn, a, e, h⟩) | h
      · exact .inl (h ▸ hx.vp)
      · exact .inl (hx.vs x h)
      · exact .inl (h ▸ (hx.vk a e hn).1)
      · exact .inr h
    have hno : ∀ x, (x = gj ∨ jsl j ao so co x) → ¬ Vp' x := fun x hj h => by
      rcases ht.more x h with h | h
      · exact hfar x hj h
      · have := hx.jn.lt hj; omega
    refine ⟨fun x => V x ∨ (w.heap.size ≤ x ∧ x < w1.heap.size), ⟨S', ao, ac, so, sc, co, cc, ⟨h1, (hx.jn.tu ht.tu hfar).less fun x hj h => absurd (h3 x h) (hno x hj), .inl hx.vp, fun x h => ?_, fun a e hn => ⟨.inl (hx.vk a e (by rw [← hk]; exact hn)).1, (hx.vk a e (by rw [← hk]; exact hn)).2⟩, fun x h => .inl (hx.vj x h), ?_⟩⟩, ⟨fun x h => h.imp id And.left, ht.tu.mono fun x _ h => ?_⟩⟩
    · rcases hV' x (h3 x h) with h | h1
      · exact .inl h
      · exact .inr ⟨h1, h5 x (h3 x h)⟩
    · rintro x (h | h)
      · exact Nat.lt_of_lt_of_le (hx.lt x h) ht.tu.size
      · exact h.2
    · rcases h with h | h | ⟨hn, a, e, h⟩
      · exact h ▸ hx.vp
      · exact hx.vs x h
      · exact h ▸ (hx.vk a e hn).1
theorem JX.tu {S T : Nat → Prop} {ao so co : Option Addr} {ac sc cc : Nat} {w1 : World} (h : JX V w gj gp q dv ko kc p j S ao ac so sc co cc) (k : Tu T w w1) (hT : ∀ x, V x → ¬ T x) : JX V w1 gj gp q dv ko kc p j S ao ac so sc co cc := by
  obtain ⟨h1, h0, h2, h3, h4, h6, h5⟩ := h
  exact ⟨h1.tu k (hT _ h2) (fun a e hn => hT _ (h4 a e hn).1) (fun x _ hx => hT _ (h3 x hx)), h0.tu k (fun x hx => hT _ (h6 x hx)), h2, h3, h4, h6, fun x hx => Nat.lt_of_lt_of_le (h5 x hx) k.size⟩
theorem JX.new {S : Nat → Prop} {ao so co : Option Addr} {ac sc cc : Nat} {w1 : World} (h : JX V w gj gp q dv ko kc p j S ao ac so sc co cc) (hb : Below w.heap.size w w1) : JX V w1 gj gp q dv ko kc p j S ao ac so sc co cc := h.tu (T := fun _ => False) (.new hb) (fun _ _ h => h)
theorem JX.open {S : Nat → Prop} {ao so co : Option Addr} {ac sc cc : Nat} (h : JX V w gj gp q dv ko kc p j S ao ac so sc co cc) : ∃ S', PwC S' w gp dv q ko kc p ∧ (∀ x, w.heap.size ≤ x → S' x) ∧ ∀ w1 p', PwC S' w1 gp dv q ko kc p' → p'.ks = p.ks → Tu (fun x => x = gp ∨ S' x) w w1 → ∃ V' S'', JX V' w1 gj gp q dv ko kc p' j S'' ao ac so sc co cc ∧ JTo V w V' w1 := by
  obtain ⟨h1, h0, h2, h3, h4, h6, h5⟩ := h
  refine ⟨_, h1.wide, fun x hx => .inr hx, fun w1 p' hp hk ht => ⟨fun x => V x ∨ (w.heap.size ≤ x ∧ x < w1.heap.size), _, ⟨hp.trim, ?_, .inl h2, ?_, fun a e hn => ⟨.inl (h4 a e (by rw [← hk]; exact hn)).1, (h4 a e (by rw [← hk]; exact hn)).2⟩, fun x hx => .inl (h6 x hx), ?_⟩, ⟨fun x hx => hx.imp id And.left, ?_⟩⟩⟩
  · refine (h0.tu ht fun x hx => ?_).less fun x hx hs => ?_
    · have := h0.far x hx
      have := h0.lt hx
      rintro (e | e | e)
      · exact (h0.far x hx).1 e
      · exact (h0.far x hx).2 e
      · omega
    · have := h0.lt hx
      exact hs.1.resolve_right (by omega)
  · rintro x ⟨hx | hx, hl⟩
    · exact .inl (h3 x hx)
    · exact .inr ⟨hx, hl⟩
  · rintro x (hx | hx)
    · exact Nat.lt_of_lt_of_le (h5 x hx) ht.size
    · exact hx.2
  · refine ht.mono fun x hx hs => ?_
    rcases hs with rfl | hs | hs
    · exact h2
    · exact h3 x hs
    · omega
theorem cells_new {g : Nat} {t : TypeId} {cs : Array Value} {w1 : World} (h : Cells w g t cs) (hb : Below w.heap.size w w1) : Cells w1 g t cs := Cells.tu h (Tu.new (S := fun _ => False) hb) (fun h => h)
def JS (gj gp : Nat) (j : Jn) (so : Option Addr) (sc : Nat) (co : Option Addr) (cc : Nat) (W : World) : Prop :=
  (ldT 50 (.pointer (some ⟨gj, 0, none⟩))).run Tryz.prog W = .ok (.pointer (some ⟨gp, 0, none⟩)) W ∧ (ldT 60 (.pointer (some ⟨gj, 6, none⟩))).run Tryz.prog W = .ok (.agg (mcs j.m so sc co cc)) W
theorem js_of {ao so co : Option Addr} {ac sc cc : Nat} (h : Cells w gj 69 (jcs gp j ao ac so sc co cc)) : JS gj gp j so sc co cc w :=
  ⟨run_ldO ty_pw h 0 rfl, run_ldA ty_man h 6 (Nat.le_of_ble_eq_true rfl)⟩
attribute [local go_sem ↓] ld_bool st_bool
theorem hold_x {ao so co : Option Addr} {ac sc cc : Nat} (e : Int) (w : World) (hc : Cells w gj 69 (jcs gp j ao ac so sc co cc)) : Calls Tryz.prog 63 #[.pointer (some ⟨gj, 0, none⟩), .int .i64 e] w fun R w' => R = .returned (.int .i64 e) ∧ Cells w' gj 69 (jcs gp (j.hold e) ao ac so sc co cc) ∧ w.grownBy w' (some gj) := by
  obtain ⟨w1, s1, c1, q1, z1⟩ := cells_st ty_bool hc 11 (Nat.le_of_ble_eq_true rfl) (.bool (decide (e ≠ 0))) rfl rfl (cs' := jcs gp (j.hold e) ao ac so sc co cc) rfl
  have HF := Lib.hid (And.intro c1 q1)
  have hd : (e != 0) = decide (e ≠ 0) := by by_cases h : e = 0 <;> simp [h]
  obtain ⟨b, hb⟩ : ∃ b, b = decide (e ≠ 0) := ⟨_, rfl⟩
  rw [← hb] at s1 hd
  clear hc c1 q1 z1 hb
  go_enter Tryz.func63, Tryz.ntmps63
  go_wp2
  go_ret
  exact ⟨rfl, HF.out⟩
theorem JX.held {S : Nat → Prop} {ao so co : Option Addr} {ac sc cc : Nat} {w1 : World} {e : Int} (h : JX V w gj gp q dv ko kc p j S ao ac so sc co cc) (hc : Cells w1 gj 69 (jcs gp (j.hold e) ao ac so sc co cc)) (k : w.grownBy w1 (some gj)) : ∃ V', JC V' w1 gj gp q dv ko kc p (j.hold e) ∧ JTo V w V' w1 :=
  have hf := h.jn.fit
  h.cell (j' := j.hold e) k hc ⟨hf.o, hf.ah, hf.ahl, hf.sy, hf.os, hf.ap, hf.rows, hf.pl, hf.sgl, hf.ckl⟩ rfl rfl
theorem tab_tu {w1 : World} (h : Tab w) (k : Tu V w w1) (hV : ¬ V 1) : Tab w1 :=
  ⟨Nat.lt_of_lt_of_le h.1 k.size, fun i hi => k.cell (h.2 i hi) hV⟩
theorem JTo.notab {V1 : Nat → Prop} {w1 : World} (h : JTo V w V1 w1) (ht : Tab w) (hV : ¬ V 1) : ¬ V1 1 := fun hx => by
  have := ht.1
  rcases h.more _ hx with h | h
  · exact hV h
  · omega
theorem st_int (p v : Value) : Instr.storeAt 3 p v = stT 3 p v := rfl
attribute [local go_sem ↓] ld_pw ld_man ld_rec st_rec ld_int st_int ld_u64 ld_u8
theorem fld_part (a b : Int) (W : World) : (Instr.field 122 (.agg #[.int .u64 a, .int .u64 b]) 0).run Tryz.prog W = .ok (.int .u64 a) W := by kernel_rfl
theorem SAP_ks (p : Pw) (q n : Nat) (r : Rc) : (SAP p q n r).ks = p.ks := by
  unfold SAP
  split
  · exact swa_ks _ _
  · rfl
theorem SBP_ks (p : Pw) (q : Nat) (h : Rc) (l : List Rc) : (SBP p q h l).ks = p.ks := by
  unfold SBP
  split
  · exact bPow_ks _ _ _ _
  · rfl
/- A record more of the open segment. -/
set_option maxHeartbeats 4000000 in
theorem jwrite_c (r : Rc) (w : World) (h : JC V w gj gp q dv ko kc p j) (hf : r.fit) (hn : p.n < 1000000) (hap : j.ap < 1000000) (ht : Tab w) :
    Calls Tryz.prog 58 #[.pointer (some ⟨gj, 0, none⟩), .agg (rcs r)] w (JPost V w gj gp q dv ko kc (wrE' q p j r) (wrP q p j r) (j.wrote (wrE' q p j r))) := by
  obtain ⟨S, ao, ac, so, sc, co, cc, hx⟩ := h
  have HL := Lib.hid hx.lt
  have HF := Lib.hid hf
  have HT := Lib.hid ht
  have HN := Lib.hid hn
  have HAP := Lib.hid hap
  have H0 := Loc.one w 114 (rcs r)
  have HC0 : Hid (Cells _ w.heap.size 114 (rcs r)) := H0.get 0 rfl
  have HB0 := Lib.hid H0.be
  have HX0 := Lib.hid (hx.new H0.be)
  have HT0 := Lib.hid (tab_below ht H0.be)
  obtain ⟨Q, hQ⟩ : ∃ Q : Ending → World → Prop, Q = JPost V w gj gp q dv ko kc (wrE' q p j r) (wrP q p j r) (j.wrote (wrE' q p j r)) := ⟨_, rfl⟩
  rw [← hQ]
  have HQ := Lib.hid hQ
  clear hx hf ht hn hap H0 hQ
  go_enter Tryz.func58, Tryz.ntmps58
  go_upto_region 1 with fail
  generalize w.alloc (.cells (rcs r) 114) = wa at *
  have HXd := Lib.hid (HX0.out.new (Below.refl _ wa).drew)
  have HTd := Lib.hid (tab_below HT0.out (Below.refl _ wa).drew)
  have HCd := Lib.hid (cells_new HC0.out (Below.refl _ wa).drew)
  have HBd := Lib.hid (HB0.out.drew)
  generalize hwd : wa.drew = wd at *
  have hs0 : JS gj gp j so sc co cc wd ∧ (ldT 114 (.pointer (some ⟨w.heap.size, 0, none⟩))).run Tryz.prog wd = .ok (.agg (rcs r)) wd := ⟨js_of HXd.out.jn.blk, run_ldA ty_rec HCd.out 0 (Nat.le_of_ble_eq_true rfl)⟩
  have hfd := fld_part ((lastS j.m.sg).1 : Int) ((lastS j.m.sg).2 : Int)
  refine wp_region_till (S := fun W => JS gj gp j so sc co cc W ∧ (ldT 114 (.pointer (some ⟨w.heap.size, 0, none⟩))).run Tryz.prog W = .ok (.agg (rcs r)) W) (by kernel_rfl) ?_
  rw [hwd]
  clear hwd HX0 HT0 HC0 HB0
  refine wpTill_take (i := 0) (v := ?va0) rfl (by kernel_rfl) (fun _ _ _ h => h) (Or.inl ⟨by rfl, ?hya0⟩) hs0 ?resta0
  case hya0 => (rintro W ⟨⟨hW1, hW2⟩, hW3⟩; go_simp; try with_reducible rfl)
  simp only [Act.put, List.setIfInBounds_toArray, List.set_cons_zero, List.set_cons_succ, List.getElem_toArray, List.getElem_cons_succ, List.getElem_cons_zero]
  refine wpTill_take (i := 1) (v := ?va1) rfl (by kernel_rfl) (fun _ _ _ h => h) (Or.inl ⟨by rfl, ?hya1⟩) hs0 ?resta1
  case hya1 => (rintro W ⟨⟨hW1, hW2⟩, hW3⟩; go_simp; try with_reducible rfl)
  simp only [Act.put, List.setIfInBounds_toArray, List.set_cons_zero, List.set_cons_succ, List.getElem_toArray, List.getElem_cons_succ, List.getElem_cons_zero]
  refine wpTill_take (i := 2) (v := ?va2) rfl (by kernel_rfl) (fun _ _ _ h => h) (Or.inl ⟨by rfl, ?hya2⟩) hs0 ?resta2
  case hya2 => (rintro W ⟨⟨hW1, hW2⟩, hW3⟩; go_simp; try with_reducible rfl)
  simp only [Act.put, List.setIfInBounds_toArray, List.set_cons_zero, List.set_cons_succ, List.getElem_toArray, List.getElem_cons_succ, List.getElem_cons_zero]
  refine wpTill_take (i := 3) (v := ?va3) rfl (by kernel_rfl) (fun _ _ _ h => h) (Or.inl ⟨by rfl, ?hya3⟩) hs0 ?resta3
  case hya3 => (rintro W ⟨⟨hW1, hW2⟩, hW3⟩; go_simp; try with_reducible rfl)
  simp only [Act.put, List.setIfInBounds_toArray, List.set_cons_zero, List.set_cons_succ, List.getElem_toArray, List.getElem_cons_succ, List.getElem_cons_zero]
  refine wpTill_take (i := 4) (v := ?va4) rfl (by kernel_rfl) (fun _ _ _ h => h) (Or.inl ⟨by rfl, ?hya4⟩) hs0 ?resta4
  case hya4 => (rintro W ⟨⟨hW1, hW2⟩, hW3⟩; go_simp; try with_reducible rfl)
  simp only [Act.put, List.setIfInBounds_toArray, List.set_cons_zero, List.set_cons_succ, List.getElem_toArray, List.getElem_cons_succ, List.getElem_cons_zero]
  refine wpTill_take (i := 5) (v := ?va5) rfl (by kernel_rfl) (fun _ _ _ h => h) (Or.inl ⟨by rfl, ?hya5⟩) hs0 ?resta5
  case hya5 => (rintro W ⟨⟨hW1, hW2⟩, hW3⟩; go_simp; try with_reducible rfl)
  simp only [Act.put, List.setIfInBounds_toArray, List.set_cons_zero, List.set_cons_succ, List.getElem_toArray, List.getElem_cons_succ, List.getElem_cons_zero]
  refine wpTill_take (i := 6) (v := ?va6) rfl (by kernel_rfl) (fun _ _ _ h => h) (Or.inl ⟨by rfl, ?hya6⟩) hs0 ?resta6
  case hya6 => (rintro W ⟨⟨hW1, hW2⟩, hW3⟩; go_simp; try with_reducible rfl)
  simp only [Act.put, List.setIfInBounds_toArray, List.set_cons_zero, List.set_cons_succ, List.getElem_toArray, List.getElem_cons_succ, List.getElem_cons_zero]
  refine wpTill_take (i := 7) (v := ?va7) rfl (by kernel_rfl) (fun _ _ _ h => h) (Or.inl ⟨by rfl, ?hya7⟩) hs0 ?resta7
  case hya7 => (rintro W ⟨⟨hW1, hW2⟩, hW3⟩; go_simp; try with_reducible rfl)
  simp only [Act.put, List.setIfInBounds_toArray, List.set_cons_zero, List.set_cons_succ, List.getElem_toArray, List.getElem_cons_succ, List.getElem_cons_zero]
  refine wpTill_take (i := 8) (v := ?va8) rfl (by kernel_rfl) (fun _ _ _ h => h) (Or.inl ⟨by rfl, ?hya8⟩) hs0 ?resta8
  case hya8 => (rintro W ⟨⟨hW1, hW2⟩, hW3⟩; go_simp; try with_reducible rfl)
  simp only [Act.put, List.setIfInBounds_toArray, List.set_cons_zero, List.set_cons_succ, List.getElem_toArray, List.getElem_cons_succ, List.getElem_cons_zero]
  refine wpTill_take (i := 11) (v := ?va11) rfl (by kernel_rfl) (fun _ _ _ h => h) (Or.inl ⟨by rfl, ?hya11⟩) hs0 ?resta11
  case hya11 => (rintro W ⟨⟨hW1, hW2⟩, hW3⟩; go_simp; try with_reducible rfl)
  simp only [Act.put, List.setIfInBounds_toArray, List.set_cons_zero, List.set_cons_succ, List.getElem_toArray, List.getElem_cons_succ, List.getElem_cons_zero]
  refine wpTill_run (i := 9) (by kernel_rfl) rfl hs0 (fun K hK => ?_)
  go_simp
  go_at_call 66
  refine (newest_c j.m so sc co cc wd HXd.out.jn.man HXd.out.jn.scap).mono ?_
  rintro R w1 ⟨rfl, hb1⟩
  have HX1 := Lib.hid (HXd.out.new hb1)
  have HT1 := Lib.hid (tab_below HTd.out hb1)
  have HC1 := Lib.hid (cells_new HCd.out hb1)
  have HB1 := Lib.hid (HBd.out.trans (hb1.mono HBd.out.size))
  have hs1 : JS gj gp j so sc co cc w1 ∧ (ldT 114 (.pointer (some ⟨w.heap.size, 0, none⟩))).run Tryz.prog w1 = .ok (.agg (rcs r)) w1 := ⟨js_of HX1.out.jn.blk, run_ldA ty_rec HC1.out 0 (Nat.le_of_ble_eq_true rfl)⟩
  refine hK _ _ ?_
  clear hK K
  refine wpTill_take (i := 10) (v := ?va10) rfl (by kernel_rfl) (fun _ _ _ h => h) (Or.inl ⟨by rfl, ?hya10⟩) hs1 ?resta10
  case hya10 => (rintro W ⟨⟨hW1, hW2⟩, hW3⟩; go_simp; try with_reducible rfl)
  simp only [Act.put, List.setIfInBounds_toArray, List.set_cons_zero, List.set_cons_succ, List.getElem_toArray, List.getElem_cons_succ, List.getElem_cons_zero]
  refine wpTill_run (i := 12) (by kernel_rfl) rfl hs1 (fun K hK => ?_)
  obtain ⟨S1, hp1, hS1, hb1⟩ := HX1.out.open
  go_simp
  go_at_call 106
  refine (sappend_c (lastS j.m.sg).1 r w1 hp1 hS1 (lastS_fit HX1.out.jn.man.fit.sg).1 HF.out HN.out HT1.out).mono ?_
  rintro R w2 ⟨rfl, hp2, ht2⟩
  obtain ⟨V2, S2, hx2, hj2⟩ := hb1 w2 _ hp2 (SAP_ks p q (lastS j.m.sg).1 r) ht2
  have HX2 := Lib.hid hx2
  have HJ2 := Lib.hid hj2
  have HC2 := Lib.hid (Cells.tu HC1.out hj2.tu (fun hv => by have := HL.out _ hv; omega))
  have hs2 : JS gj gp j so sc co cc w2 ∧ (ldT 114 (.pointer (some ⟨w.heap.size, 0, none⟩))).run Tryz.prog w2 = .ok (.agg (rcs r)) w2 := ⟨js_of hx2.jn.blk, run_ldA ty_rec HC2.out 0 (Nat.le_of_ble_eq_true rfl)⟩
  clear hx2 hj2 hp2 ht2 hp1 hS1 hb1
  refine hK _ _ ?_
  clear hK K
  refine wpTill_run (i := 13) (by kernel_rfl) rfl hs2 (fun K hK => ?_)
  go_simp
  go_at_call 63
  refine (hold_x (SAE p q (lastS j.m.sg).1 r) w2 HX2.out.jn.blk).mono ?_
  rintro R w3 ⟨rfl, hc3, hg3⟩
  have HJ3 := Lib.hid (HX2.out.held hc3 hg3)
  have hs3 : JS gj gp j so sc co cc w3 ∧ (ldT 114 (.pointer (some ⟨w.heap.size, 0, none⟩))).run Tryz.prog w3 = .ok (.agg (rcs r)) w3 := ⟨js_of (j := j.hold (SAE p q (lastS j.m.sg).1 r)) hc3, run_ldA ty_rec (Cells.grown HC2.out hg3 (by have := HX2.out.jn; have := HL.out _ (HXd.out.vj gj (.inl rfl)); intro e; cases e; omega)) 0 (Nat.le_of_ble_eq_true rfl)⟩
  clear hc3 hg3
  refine hK _ _ ?_
  clear hK K
  refine wpTill_run (i := 14) (by kernel_rfl) rfl hs3 (fun K hK => ?_)
  go_simp
  refine hK _ _ ?_
  clear hK K
  refine wpTill_done (by kernel_rfl) ?_
  clear hs0 hs1 hs2 hs3 HX2 HC2 HC1 HCd HXd HBd HX1 HT1 HTd
  have hwe : wrE' q p j r = SAE p q (lastS j.m.sg).1 r := rfl
  obtain ⟨V3, hjc3, hto3⟩ := HJ3.out
  have HTO := Lib.hid (((JTo.new HB1.out).trans HJ2.out).trans hto3)
  rw [hwe] at HQ
  obtain ⟨P, hP⟩ : ∃ P, P = wrP q p j r := ⟨_, rfl⟩
  have hP' : SAP p q (lastS j.m.sg).1 r = P := hP.symm
  rw [← hP] at HQ
  rw [hP'] at hjc3
  clear HJ3 HJ2 hwe hP hP' hto3
  generalize SAE p q (lastS j.m.sg).1 r = e at *
  obtain ⟨S3, ao3, ac3, so3, sc3, co3, cc3, hx3⟩ := hjc3
  have HX3 := Lib.hid hx3
  by_cases he : e = 0
  · have hq : (e == 0) = true := beq_iff_eq.2 he
    have l1 := run_ldO ty_int hx3.jn.blk 10 (v := .int .i64 (j.ap : Int)) rfl
    have ew : IntKind.i64.wrap ((j.ap : Int) + 1) = ((j.ap + 1 : Nat) : Int) := by rw [IntWalk.i64_in _ (by have := HAP.out; omega)]; omega
    have hwr : j.wrote e = { j.hold e with ap := j.ap + 1 } := by unfold Jn.wrote Jn.hold; rw [if_pos he]
    obtain ⟨a1, ha1⟩ : ∃ a1, a1 = j.ap + 1 := ⟨_, rfl⟩
    rw [← ha1] at ew hwr
    obtain ⟨w4, s4, c4, q4, z4⟩ := cells_st ty_int hx3.jn.blk 10 (Nat.le_of_ble_eq_true rfl) (.int .i64 (a1 : Int)) rfl rfl (cs' := jcs gp { j.hold e with ap := a1 } ao3 ac3 so3 sc3 co3 cc3) rfl
    have hf := hx3.jn.fit
    obtain ⟨V4, hj4, ht4⟩ := hx3.cell (j' := { j.hold e with ap := a1 }) q4 c4 ⟨hf.o, hf.ah, hf.ahl, hf.sy, hf.os, by have := HAP.out; show a1 ≤ 1000000; omega, hf.rows, hf.pl, hf.sgl, hf.ckl⟩ rfl rfl
    have HFin : Hid (Q (.returned (.int .i64 e)) w4) := by
      show Q _ _
      rw [HQ.out, hwr]
      exact ⟨rfl, V4, hj4, HTO.out.trans ht4⟩
    clear hx3 hwr ha1 c4 q4 z4 hf hj4 ht4
    go_wp2
    exact HFin.out
  · have hq : (e == 0) = false := beq_eq_false_iff_ne.2 he
    have HFin : Hid (Q (.returned (.int .i64 e)) w3) := by
      show Q _ _
      rw [HQ.out, show j.wrote e = j.hold e from by unfold Jn.wrote Jn.hold; rw [if_neg he]]
      exact ⟨rfl, V3, ⟨S3, ao3, ac3, so3, sc3, co3, cc3, hx3⟩, HTO.out⟩
    clear hx3
    go_wp2
    exact HFin.out
end
end Go.Proofs.YtgeaacabpnepmaaGreatDoor
/- Sync. -/
namespace Go.Proofs.YtgeaacabpnepmaaGreatDoor
open Go.RowKit
set_option linter.unusedVariables false
set_option linter.unusedSimpArgs false
set_option maxRecDepth 20000

section
variable {V : Nat → Prop} {w : World} {gj gp q kc : Nat} {dv : Value} {ko : Option Addr} {p : Pw} {j : Jn}
attribute [local go_sem ↓] ld_pw ld_man ld_int st_int ld_u64 st_u64 ld_u8 ld_bool
set_option maxHeartbeats 4000000 in
theorem jsync_c (w : World) (h : JC V w gj gp q dv ko kc p j) (hn : p.n < 1000000) :
    Calls Tryz.prog 21 #[.pointer (some ⟨gj, 0, none⟩)] w (JPost V w gj gp q dv ko kc (jSync q p j).e (jSync q p j).p (jSync q p j).j) := by
  have hh := h
  have HW := Lib.hid (works_c w h)
  obtain ⟨S, ao, ac, so, sc, co, cc, hx⟩ := h
  have HN := Lib.hid hn
  have HX := Lib.hid hx
  obtain ⟨Q, hQ⟩ : ∃ Q : Ending → World → Prop, Q = JPost V w gj gp q dv ko kc (jSync q p j).e (jSync q p j).p (jSync q p j).j := ⟨_, rfl⟩
  rw [← hQ]
  have HQ := Lib.hid hQ
  clear hx hn hQ
  cases hb : j.br
  case true =>
    have HFin : Hid (Q (.returned (.int .i64 13)) w) := by
      show Q _ _
      rw [HQ.out, show jSync q p j = ⟨13, p, j⟩ from if_pos hb]
      exact ⟨rfl, V, hh, JTo.refl _ _⟩
    clear hh
    rw [hb] at HW
    have hnot : ∀ W : World, (Op.unary .not (.bool (!true))).run Tryz.prog W = .ok (.bool true) W := fun _ => rfl
    go_enter Tryz.func21, Tryz.ntmps21
    go_wp2_with fail
    refine HW.out.mono ?_
    rintro R w' ⟨rfl, rfl⟩
    go_wp2
    exact HFin.out
  case false =>
    have HJ0 : Hid (jSync q p j = if p.wrc 2 q (sgn (lastS j.m.sg).1) [] = 0 then ⟨0, p.wr 2 q (sgn (lastS j.m.sg).1) [], { j.hold 0 with sy := j.c, os := j.ow }⟩ else ⟨(p.wrc 2 q (sgn (lastS j.m.sg).1) [] : Nat), p.wr 2 q (sgn (lastS j.m.sg).1) [], j.hold (p.wrc 2 q (sgn (lastS j.m.sg).1) [] : Nat)⟩) := if_neg (by rw [hb]; exact Bool.false_ne_true)
    clear hh
    rw [hb] at HW
    go_enter Tryz.func21, Tryz.ntmps21
    go_wp2_with fail
    refine HW.out.mono ?_
    rintro R w' ⟨rfl, rfl⟩
    go_upto_region 3 with fail
    have HXd := Lib.hid (HX.out.new (Below.refl _ w).drew)
    have HBd := Lib.hid ((Below.refl w.heap.size w).drew)
    generalize hwd : w.drew = wd at *
    have hs0 : JS gj gp j so sc co cc wd := js_of HXd.out.jn.blk
    have hfd := fld_part ((lastS j.m.sg).1 : Int) ((lastS j.m.sg).2 : Int)
    refine wp_region_till (S := fun W => JS gj gp j so sc co cc W) (by kernel_rfl) ?_
    rw [hwd]
    clear hwd
    refine wpTill_take (i := 0) (v := ?va0) rfl (by kernel_rfl) (fun _ _ _ h => h) (Or.inl ⟨by rfl, ?hya0⟩) hs0 ?resta0
    case hya0 => (rintro W ⟨hW1, hW2⟩; go_simp; try with_reducible rfl)
    simp only [Act.put, List.setIfInBounds_toArray, List.set_cons_zero, List.set_cons_succ, List.getElem_toArray, List.getElem_cons_succ, List.getElem_cons_zero]
    refine wpTill_take (i := 1) (v := ?va1) rfl (by kernel_rfl) (fun _ _ _ h => h) (Or.inl ⟨by rfl, ?hya1⟩) hs0 ?resta1
    case hya1 => (rintro W ⟨hW1, hW2⟩; go_simp; try with_reducible rfl)
    simp only [Act.put, List.setIfInBounds_toArray, List.set_cons_zero, List.set_cons_succ, List.getElem_toArray, List.getElem_cons_succ, List.getElem_cons_zero]
    refine wpTill_take (i := 2) (v := ?va2) rfl (by kernel_rfl) (fun _ _ _ h => h) (Or.inl ⟨by rfl, ?hya2⟩) hs0 ?resta2
    case hya2 => (rintro W ⟨hW1, hW2⟩; go_simp; try with_reducible rfl)
    simp only [Act.put, List.setIfInBounds_toArray, List.set_cons_zero, List.set_cons_succ, List.getElem_toArray, List.getElem_cons_succ, List.getElem_cons_zero]
    refine wpTill_take (i := 3) (v := ?va3) rfl (by kernel_rfl) (fun _ _ _ h => h) (Or.inl ⟨by rfl, ?hya3⟩) hs0 ?resta3
    case hya3 => (rintro W ⟨hW1, hW2⟩; go_simp; try with_reducible rfl)
    simp only [Act.put, List.setIfInBounds_toArray, List.set_cons_zero, List.set_cons_succ, List.getElem_toArray, List.getElem_cons_succ, List.getElem_cons_zero]
    refine wpTill_take (i := 4) (v := ?va4) rfl (by kernel_rfl) (fun _ _ _ h => h) (Or.inl ⟨by rfl, ?hya4⟩) hs0 ?resta4
    case hya4 => (rintro W ⟨hW1, hW2⟩; go_simp; try with_reducible rfl)
    simp only [Act.put, List.setIfInBounds_toArray, List.set_cons_zero, List.set_cons_succ, List.getElem_toArray, List.getElem_cons_succ, List.getElem_cons_zero]
    refine wpTill_take (i := 5) (v := ?va5) rfl (by kernel_rfl) (fun _ _ _ h => h) (Or.inl ⟨by rfl, ?hya5⟩) hs0 ?resta5
    case hya5 => (rintro W ⟨hW1, hW2⟩; go_simp; try with_reducible rfl)
    simp only [Act.put, List.setIfInBounds_toArray, List.set_cons_zero, List.set_cons_succ, List.getElem_toArray, List.getElem_cons_succ, List.getElem_cons_zero]
    refine wpTill_take (i := 6) (v := ?va6) rfl (by kernel_rfl) (fun _ _ _ h => h) (Or.inl ⟨by rfl, ?hya6⟩) hs0 ?resta6
    case hya6 => (rintro W ⟨hW1, hW2⟩; go_simp; try with_reducible rfl)
    simp only [Act.put, List.setIfInBounds_toArray, List.set_cons_zero, List.set_cons_succ, List.getElem_toArray, List.getElem_cons_succ, List.getElem_cons_zero]
    refine wpTill_take (i := 7) (v := ?va7) rfl (by kernel_rfl) (fun _ _ _ h => h) (Or.inl ⟨by rfl, ?hya7⟩) hs0 ?resta7
    case hya7 => (rintro W ⟨hW1, hW2⟩; go_simp; try with_reducible rfl)
    simp only [Act.put, List.setIfInBounds_toArray, List.set_cons_zero, List.set_cons_succ, List.getElem_toArray, List.getElem_cons_succ, List.getElem_cons_zero]
    refine wpTill_take (i := 8) (v := ?va8) rfl (by kernel_rfl) (fun _ _ _ h => h) (Or.inl ⟨by rfl, ?hya8⟩) hs0 ?resta8
    case hya8 => (rintro W ⟨hW1, hW2⟩; go_simp; try with_reducible rfl)
    simp only [Act.put, List.setIfInBounds_toArray, List.set_cons_zero, List.set_cons_succ, List.getElem_toArray, List.getElem_cons_succ, List.getElem_cons_zero]
    refine wpTill_run (i := 9) (by kernel_rfl) rfl hs0 (fun K hK => ?_)
    go_simp
    go_at_call 66
    refine (newest_c j.m so sc co cc wd HXd.out.jn.man HXd.out.jn.scap).mono ?_
    rintro R w1 ⟨rfl, hb1⟩
    have HX1 := Lib.hid (HXd.out.new hb1)
    have HB1 := Lib.hid (HBd.out.trans (hb1.mono HBd.out.size))
    have hs1 : JS gj gp j so sc co cc w1 := js_of HX1.out.jn.blk
    refine hK _ _ ?_
    clear hK K
    refine wpTill_take (i := 10) (v := ?va10) rfl (by kernel_rfl) (fun _ _ _ h => h) (Or.inl ⟨by rfl, ?hya10⟩) hs1 ?resta10
    case hya10 => (rintro W ⟨hW1, hW2⟩; go_simp; try with_reducible rfl)
    simp only [Act.put, List.setIfInBounds_toArray, List.set_cons_zero, List.set_cons_succ, List.getElem_toArray, List.getElem_cons_succ, List.getElem_cons_zero]
    refine wpTill_run (i := 11) (by kernel_rfl) rfl hs1 (fun K hK => ?_)
    go_simp
    go_at_call 65
    refine (seg_c (lastS j.m.sg).1 w1 (lastS_fit HX1.out.jn.man.fit.sg).1).mono ?_
    rintro R w2 ⟨rfl, hb2⟩
    rw [show str (115 :: hex (lastS j.m.sg).1) = str (sgn (lastS j.m.sg).1) from rfl]
    have HX2 := Lib.hid (HX1.out.new hb2)
    have HB2 := Lib.hid (HB1.out.trans (hb2.mono HB1.out.size))
    have hs2 : JS gj gp j so sc co cc w2 := js_of HX2.out.jn.blk
    refine hK _ _ ?_
    clear hK K
    refine wpTill_run (i := 12) (by kernel_rfl) rfl hs2 (fun K hK => ?_)
    obtain ⟨S1, hp1, hS1, hb3⟩ := HX2.out.open
    go_simp
    go_at_call 64
    refine (psync_c (sgn (lastS j.m.sg).1) [] w2 hp1 hS1 (by rw [sgn_len]; simp [maxLen]) (by simp) HN.out).mono ?_
    rintro R w3 ⟨rfl, hp2, ht2⟩
    rw [show p.code (wrR 2 q p.E (sgn (lastS j.m.sg).1) []) = p.wrc 2 q (sgn (lastS j.m.sg).1) [] from rfl]
    obtain ⟨V2, S2, hx2, hj2⟩ := hb3 w3 _ hp2 (swa_ks p _) ht2
    have HX3 := Lib.hid hx2
    have HJ3 := Lib.hid hj2
    have hs3 : JS gj gp j so sc co cc w3 := js_of hx2.jn.blk
    clear hx2 hj2 hp2 ht2 hp1 hS1 hb3
    refine hK _ _ ?_
    clear hK K
    refine wpTill_run (i := 13) (by kernel_rfl) rfl hs3 (fun K hK => ?_)
    go_simp
    go_at_call 63
    refine (hold_x (p.wrc 2 q (sgn (lastS j.m.sg).1) [] : Nat) w3 HX3.out.jn.blk).mono ?_
    rintro R w4 ⟨rfl, hc4, hg4⟩
    have HJ4 := Lib.hid (HX3.out.held hc4 hg4)
    have hs4 : JS gj gp j so sc co cc w4 := js_of (j := j.hold (p.wrc 2 q (sgn (lastS j.m.sg).1) [] : Nat)) hc4
    clear hc4 hg4
    refine hK _ _ ?_
    clear hK K
    refine wpTill_run (i := 14) (by kernel_rfl) rfl hs4 (fun K hK => ?_)
    go_simp
    refine hK _ _ ?_
    clear hK K
    refine wpTill_done (by kernel_rfl) ?_
    clear hs0 hs1 hs2 hs3 hs4 HX2 HXd HBd HX1 HX3
    obtain ⟨V4, hjc4, hto4⟩ := HJ4.out
    have HTO := Lib.hid (((JTo.new HB2.out).trans HJ3.out).trans hto4)
    obtain ⟨P, hP⟩ : ∃ P, P = p.wr 2 q (sgn (lastS j.m.sg).1) [] := ⟨_, rfl⟩
    rw [← hP] at HJ0
    have hP' : p.after (wrE 2 q p.E (sgn (lastS j.m.sg).1) []) = P := hP.symm
    rw [hP'] at hjc4
    clear HJ4 HJ3 hto4 hP hP'
    generalize p.wrc 2 q (sgn (lastS j.m.sg).1) [] = e at *
    have HJC := Lib.hid hjc4
    clear hjc4
    by_cases he : e = 0
    · have hq : ((e : Int) != 0) = false := by rw [he]; rfl
      have HE := Lib.hid he
      clear he
      go_upto_region 6 with fail
      have HJd := Lib.hid (HJC.out.new (Below.refl _ w4).drew)
      have HTd := Lib.hid (HTO.out.trans (JTo.new (V := V4) (Below.refl _ w4).drew))
      generalize hwd : w4.drew = wd at *
      have hs0 : (ldT 37 (.pointer (some ⟨gj, 2, none⟩))).run Tryz.prog wd = .ok (.int .u64 (j.c : Int)) wd := by
        obtain ⟨_, _, _, _, _, _, _, hx⟩ := HJd.out
        exact run_ldO ty_u64 hx.jn.blk 2 rfl
      refine wp_region_till (S := fun W => (ldT 37 (.pointer (some ⟨gj, 2, none⟩))).run Tryz.prog W = .ok (.int .u64 (j.c : Int)) W) (by kernel_rfl) ?_
      rw [hwd]
      clear hwd
      refine wpTill_take (i := 0) (v := ?vb0) rfl (by kernel_rfl) (fun _ _ _ h => h) (Or.inl ⟨by rfl, ?hyb0⟩) hs0 ?restb0
      case hyb0 => (rintro W hW; go_simp; try with_reducible rfl)
      simp only [Act.put, List.setIfInBounds_toArray, List.set_cons_zero, List.set_cons_succ, List.getElem_toArray, List.getElem_cons_succ, List.getElem_cons_zero]
      refine wpTill_take (i := 1) (v := ?vb1) rfl (by kernel_rfl) (fun _ _ _ h => h) (Or.inl ⟨by rfl, ?hyb1⟩) hs0 ?restb1
      case hyb1 => (rintro W hW; go_simp; try with_reducible rfl)
      simp only [Act.put, List.setIfInBounds_toArray, List.set_cons_zero, List.set_cons_succ, List.getElem_toArray, List.getElem_cons_succ, List.getElem_cons_zero]
      refine wpTill_take (i := 2) (v := ?vb2) rfl (by kernel_rfl) (fun _ _ _ h => h) (Or.inl ⟨by rfl, ?hyb2⟩) hs0 ?restb2
      case hyb2 => (rintro W hW; go_simp; try with_reducible rfl)
      simp only [Act.put, List.setIfInBounds_toArray, List.set_cons_zero, List.set_cons_succ, List.getElem_toArray, List.getElem_cons_succ, List.getElem_cons_zero]
      refine wpTill_take (i := 3) (v := ?vb3) rfl (by kernel_rfl) (fun _ _ _ h => h) (Or.inl ⟨by rfl, ?hyb3⟩) hs0 ?restb3
      case hyb3 => (rintro W hW; go_simp; try with_reducible rfl)
      simp only [Act.put, List.setIfInBounds_toArray, List.set_cons_zero, List.set_cons_succ, List.getElem_toArray, List.getElem_cons_succ, List.getElem_cons_zero]
      refine wpTill_take (i := 4) (v := ?vb4) rfl (by kernel_rfl) (fun _ _ _ h => h) (Or.inl ⟨by rfl, ?hyb4⟩) hs0 ?restb4
      case hyb4 => (rintro W hW; go_simp; try with_reducible rfl)
      simp only [Act.put, List.setIfInBounds_toArray, List.set_cons_zero, List.set_cons_succ, List.getElem_toArray, List.getElem_cons_succ, List.getElem_cons_zero]
      refine wpTill_take (i := 5) (v := ?vb5) rfl (by kernel_rfl) (fun _ _ _ h => h) (Or.inl ⟨by rfl, ?hyb5⟩) hs0 ?restb5
      case hyb5 => (rintro W hW; go_simp; try with_reducible rfl)
      simp only [Act.put, List.setIfInBounds_toArray, List.set_cons_zero, List.set_cons_succ, List.getElem_toArray, List.getElem_cons_succ, List.getElem_cons_zero]
      refine wpTill_take (i := 6) (v := ?vb6) rfl (by kernel_rfl) (fun _ _ _ h => h) (Or.inl ⟨by rfl, ?hyb6⟩) hs0 ?restb6
      case hyb6 => (rintro W hW; go_simp; try with_reducible rfl)
      simp only [Act.put, List.setIfInBounds_toArray, List.set_cons_zero, List.set_cons_succ, List.getElem_toArray, List.getElem_cons_succ, List.getElem_cons_zero]
      refine wpTill_take (i := 7) (v := ?vb7) rfl (by kernel_rfl) (fun _ _ _ h => h) (Or.inl ⟨by rfl, ?hyb7⟩) hs0 ?restb7
      case hyb7 => (rintro W hW; go_simp; try with_reducible rfl)
      simp only [Act.put, List.setIfInBounds_toArray, List.set_cons_zero, List.set_cons_succ, List.getElem_toArray, List.getElem_cons_succ, List.getElem_cons_zero]
      refine wpTill_take (i := 8) (v := ?vb8) rfl (by kernel_rfl) (fun _ _ _ h => h) (Or.inl ⟨by rfl, ?hyb8⟩) hs0 ?restb8
      case hyb8 => (rintro W hW; go_simp; try with_reducible rfl)
      simp only [Act.put, List.setIfInBounds_toArray, List.set_cons_zero, List.set_cons_succ, List.getElem_toArray, List.getElem_cons_succ, List.getElem_cons_zero]
      refine wpTill_take (i := 9) (v := ?vb9) rfl (by kernel_rfl) (fun _ _ _ h => h) (Or.inl ⟨by rfl, ?hyb9⟩) hs0 ?restb9
      case hyb9 => (rintro W hW; go_simp; try with_reducible rfl)
      simp only [Act.put, List.setIfInBounds_toArray, List.set_cons_zero, List.set_cons_succ, List.getElem_toArray, List.getElem_cons_succ, List.getElem_cons_zero]
      refine wpTill_run (i := 10) (by kernel_rfl) rfl hs0 (fun K hK => ?_)
      go_simp
      go_at_call 57
      refine (HJd.out.owned wd).mono ?_
      rintro R w5 ⟨rfl, k, rfl⟩
      have HJ5 := Lib.hid (HJd.out.new (below_drewN (Below.refl _ wd) k))
      have HT5 := Lib.hid (HTd.out.trans (JTo.new (V := V4) (below_drewN (Below.refl wd.heap.size wd) k)))
      clear HJd HTd
      generalize wd.drewN k = w5 at *
      rw [show (j.hold (e : Nat)).ow = j.ow from rfl]
      obtain ⟨S5, ao5, ac5, so5, sc5, co5, cc5, hx5⟩ := HJ5.out
      have hs5 : (ldT 37 (.pointer (some ⟨gj, 2, none⟩))).run Tryz.prog w5 = .ok (.int .u64 (j.c : Int)) w5 := run_ldO ty_u64 hx5.jn.blk 2 rfl
      obtain ⟨w6, s6, c6, q6, z6⟩ := cells_st ty_u64 hx5.jn.blk 4 (Nat.le_of_ble_eq_true rfl) (.int .u64 (j.c : Int)) rfl rfl (cs' := jcs gp { j.hold (e : Nat) with sy := j.c } ao5 ac5 so5 sc5 co5 cc5) rfl
      have hs6 : (ldT 37 (.pointer (some ⟨gj, 2, none⟩))).run Tryz.prog w6 = .ok (.int .u64 (j.c : Int)) w6 := run_ldO ty_u64 c6 2 rfl
      obtain ⟨w7, s7, c7, q7, z7⟩ := cells_st ty_u64 c6 5 (Nat.le_of_ble_eq_true rfl) (.int .u64 (j.ow : Int)) rfl rfl (cs' := jcs gp { j.hold (e : Nat) with sy := j.c, os := j.ow } ao5 ac5 so5 sc5 co5 cc5) rfl
      have hs7 : (ldT 37 (.pointer (some ⟨gj, 2, none⟩))).run Tryz.prog w7 = .ok (.int .u64 (j.c : Int)) w7 := run_ldO ty_u64 c7 2 rfl
      have hf := hx5.jn.fit
      obtain ⟨V7, hj7, ht7⟩ := hx5.cell (j' := { j.hold (e : Nat) with sy := j.c, os := j.ow }) (q6.trans q7) c7 ⟨hf.o, hf.ah, hf.ahl, (by have : j.c + j.ah.length < 18446744073709551616 := hf.o; show j.c < _; omega), hf.o, hf.ap, hf.rows, hf.pl, hf.sgl, hf.ckl⟩ rfl rfl
      have HFin : Hid (Q (.returned (.int .i64 0)) w7) := by
        show Q _ _
        rw [HQ.out, HJ0.out, if_pos HE.out]
        have h7 := hj7
        rw [HE.out] at h7
        exact ⟨rfl, V7, h7, HT5.out.trans ht7⟩
      clear hx5 c6 q6 z6 c7 q7 z7 hf hj7 ht7
      refine hK _ _ ?_
      clear hK K
      refine wpTill_take (i := 11) (v := ?vb11) rfl (by kernel_rfl) (fun _ _ _ h => h) (Or.inl ⟨by rfl, ?hyb11⟩) hs5 ?restb11
      case hyb11 => (rintro W hW; go_simp; try with_reducible rfl)
      simp only [Act.put, List.setIfInBounds_toArray, List.set_cons_zero, List.set_cons_succ, List.getElem_toArray, List.getElem_cons_succ, List.getElem_cons_zero]
      refine wpTill_take (i := 12) (v := ?vb12) rfl (by kernel_rfl) (fun _ _ _ h => h) (Or.inl ⟨by rfl, ?hyb12⟩) hs5 ?restb12
      case hyb12 => (rintro W hW; go_simp; try with_reducible rfl)
      simp only [Act.put, List.setIfInBounds_toArray, List.set_cons_zero, List.set_cons_succ, List.getElem_toArray, List.getElem_cons_succ, List.getElem_cons_zero]
      refine wpTill_run (i := 13) (by kernel_rfl) rfl hs5 (fun K hK => ?_)
      go_simp
      refine hK _ _ ?_
      clear hK K
      refine wpTill_take (i := 14) (v := ?vb14) rfl (by kernel_rfl) (fun _ _ _ h => h) (Or.inl ⟨by rfl, ?hyb14⟩) hs6 ?restb14
      case hyb14 => (rintro W hW; go_simp; try with_reducible rfl)
      simp only [Act.put, List.setIfInBounds_toArray, List.set_cons_zero, List.set_cons_succ, List.getElem_toArray, List.getElem_cons_succ, List.getElem_cons_zero]
      refine wpTill_take (i := 15) (v := ?vb15) rfl (by kernel_rfl) (fun _ _ _ h => h) (Or.inl ⟨by rfl, ?hyb15⟩) hs6 ?restb15
      case hyb15 => (rintro W hW; go_simp; try with_reducible rfl)
      simp only [Act.put, List.setIfInBounds_toArray, List.set_cons_zero, List.set_cons_succ, List.getElem_toArray, List.getElem_cons_succ, List.getElem_cons_zero]
      refine wpTill_run (i := 16) (by kernel_rfl) rfl hs6 (fun K hK => ?_)
      go_simp
      refine hK _ _ ?_
      clear hK K
      refine wpTill_done (by kernel_rfl) ?_
      clear hs0 hs5 hs6 hs7
      go_wp2
      exact HFin.out
    · have hq : ((e : Int) != 0) = true := by rw [bne_iff_ne]; omega
      have HFin : Hid (Q (.returned (.int .i64 (e : Int))) w4) := by
        show Q _ _
        rw [HQ.out, HJ0.out, if_neg he]
        exact ⟨rfl, V4, HJC.out, HTO.out⟩
      go_wp2
      exact HFin.out
end
end Go.Proofs.YtgeaacabpnepmaaGreatDoor
