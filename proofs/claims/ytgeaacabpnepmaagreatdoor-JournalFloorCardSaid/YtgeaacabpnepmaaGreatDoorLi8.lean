/- Texts of the walk. -/
import Derived.Test.YtgeaacabpnepmaaGreatDoorLh8
/- Records are added to what segments say. -/
namespace Go.Proofs.YtgeaacabpnepmaaGreatDoor
open Go.RowKit
set_option linter.unusedVariables false
set_option linter.unusedSimpArgs false
set_option maxRecDepth 20000

structure JCo (B : Nat) (w : World) (g : Nat) (bs : List Nat) (x : Cn) (ao : Option Addr) (ac : Nat) (po : Option Addr) (pc : Nat) : Prop where
  c : JCt w g x ao ac po pc
  r : GQ 40 2 B w bs po x.ps.length pc (Gql x.ps)
theorem JCo.to {B : Nat} {w w1 : World} {g : Nat} {bs : List Nat} {x : Cn} {ao po : Option Addr} {ac pc : Nat} (h : JCo B w g bs x ao ac po pc) (hb : Below w.heap.size w w1) : JCo B w1 g bs x ao ac po pc := ⟨h.c.to hb, h.r.to hb⟩
theorem ld_jcont (v : Value) : Instr.loadAt 133 v = ldT 133 v := rfl
theorem st_jcont (p v : Value) : Instr.storeAt 133 p v = stT 133 p v := rfl
theorem info_pair : (Tryz.prog.info? 40).map (fun i => (i.zero, i.size, i.bytes)) = some (some (.agg #[.int .u8 0, .int .u8 0]), 2, 2) := by kernel_rfl
theorem cnOne_own {x : Cn} {r : Rc} (h : r.k = 1) : cnOne x r = ⟨x.fr, x.c, x.ah ++ [r.o], x.ps⟩ := if_pos h
theorem cnOne_sure {x : Cn} {r : Rc} (h : r.k ≠ 1) : cnOne x r = ⟨x.fr, x.c + 1, x.ah.tail, x.ps ++ [(r.p, r.q)]⟩ := if_neg h
theorem addOk_pre : ∀ (l : List Rc) (x : Cn) (k : Nat), AddOk x l → AddOk x (l.take k)
  | [], _, _, _ => by simp [AddOk]
  | r :: l, x, 0, _ => trivial
  | r :: l, x, k + 1, h => ⟨h.1, h.2.1, h.2.2.1, h.2.2.2.1, addOk_pre l (cnOne x r) k h.2.2.2.2⟩
def AdS (g : Nat) (po : Option Addr) (y : Nat) : Prop := y = g ∨ ∃ a, po = some a ∧ a.block = y
def AdPost (B : Nat) (w : World) (g : Nat) (bs : List Nat) (x : Cn) (po : Option Addr) (R : Ending) (w' : World) : Prop :=
  R = .returned (.tuple #[]) ∧ ∃ ao' ac' po' pc', JCo B w' g bs x ao' ac' po' pc' ∧ (x.ah ≠ [] → ∀ a, ao' = some a → w.heap.size ≤ a.block) ∧ (∀ a, po' = some a → (∃ b, po = some b ∧ b.block = a.block) ∨ w.heap.size ≤ a.block) ∧ (x.ah ≠ [] → ∀ a b, ao' = some a → po' = some b → a.block ≠ b.block) ∧ Tu (AdS g po) w w'
set_option maxHeartbeats 8000000 in
attribute [local go_sem ↓] ld_inps st_inps ld_rec st_rec ld_int ld_input ld_prs st_prs ld_pair in
theorem add_j (B g : Nat) (bs : List Nat) (x : Cn) (l : List Rc) (ao : Option Addr) (ac : Nat) (po : Option Addr) (pc : Nat) (lo : Option Addr) (lc : Nat) (w : World) (h : JCo B w g bs x ao ac po pc) (hg : g ∈ bs) (hB : B ≤ w.heap.size) (hx : CnOk ⟨x.fr, x.c, [], x.ps⟩) (ha : AddOk ⟨x.fr, x.c, [], x.ps⟩ l) (hr : RcsAt w lo l) (hll : l.length ≤ 20000) (hpl : x.ps.length ≤ 400000) (hlb : l ≠ [] → ∀ a, lo = some a → ¬ AdS g po a.block) :
    Calls Tryz.prog 180 #[.pointer (some ⟨g, 0, none⟩), .slice lo l.length lc] w (AdPost B w g bs (cnAdd x l) po) := by
  obtain ⟨w0, s0, c0, q0, z0⟩ := cells_st ty_inps h.c.blk 1 (Nat.le_of_ble_eq_true rfl) (.slice none 0 0) rfl rfl (cs' := cts ⟨x.fr, x.c, [], x.ps⟩ none 0 po pc) rfl
  have kt0 : Tu (fun y => y = g) w w0 := Tu.of_same q0
  have hgb : ∀ a, po = some a → a.block ≠ g := fun a e hh => (h.r.blk e).2.2 g hg hh.symm
  have HC0 : Hid (JCo B w0 g bs ⟨x.fr, x.c, [], x.ps⟩ none 0 po pc) := ⟨⟨c0, InAt.nil _ _, h.c.prs.tu kt0 fun _ a e => hgb a e, ⟨Nat.le_refl _, Nat.zero_le _⟩, h.c.pc, fun a e => (by cases e), fun a e _ => hgb a e⟩, h.r.turn hg q0⟩
  have HT0 : Hid (Tu (AdS g po) w w0) := kt0.mono fun y _ e => .inl e
  have HRC := Lib.hid (show ∀ W, Tu (AdS g po) w W → RcsAt W lo l from fun W k => by
    by_cases h0 : l = []
    · rw [h0]; exact RcsAt.nil _ _
    · exact hr.tu k fun a e => hlb h0 a e)
  have HA := Lib.hid ha
  have HX := Lib.hid hx
  have HLL := Lib.hid (And.intro hll hpl)
  have HG := Lib.hid hg
  have HGL := Lib.hid (And.intro h.c.blk.lt hB)
  obtain ⟨x0, hx0⟩ : ∃ x0 : Cn, x0 = ⟨x.fr, x.c, [], x.ps⟩ := ⟨_, rfl⟩
  have hxa : cnAdd x l = l.foldl cnOne x0 := by rw [hx0]; rfl
  have hxp : x0.ps = x.ps := by rw [hx0]
  have hxh : x0.ah = [] := by rw [hx0]
  rw [hxa]
  rw [← hx0] at HC0 HA HX
  have HXP := Lib.hid (And.intro hxp hxh)
  obtain ⟨Q, hQ⟩ : ∃ Q : Ending → World → Prop, Q = AdPost B w g bs (l.foldl cnOne x0) po := ⟨_, rfl⟩
  rw [← hQ]
  have HQ := Lib.hid hQ
  clear h hg hB hx ha hr hll hpl hlb hQ c0 q0 z0 kt0 hgb hx0 hxa hxp hxh
  go_enter Tryz.func180, Tryz.ntmps180
  go_wp2
  clear s0
  go_loopw [12] (fun iv wr => ∃ (k : Nat) (X : Cn) (a1 : Option Addr) (c1 : Nat) (p1 : Option Addr) (d1 : Nat), k ≤ l.length ∧ iv = .int .i64 (k : Int) ∧ Hid (X = (l.take k).foldl cnOne x0) ∧ Hid (JCo B wr g bs X a1 c1 p1 d1) ∧ Hid (X.ah ≠ [] → ∀ a, a1 = some a → w.heap.size ≤ a.block) ∧ Hid (∀ a, p1 = some a → (∃ b, po = some b ∧ b.block = a.block) ∨ w.heap.size ≤ a.block) ∧ Hid (X.ah ≠ [] → ∀ a b, a1 = some a → p1 = some b → a.block ≠ b.block) ∧ Hid (Tu (AdS g po) w wr)) (fun iv _ => l.length - (intOf iv).toNat)
  case atStart => exact ⟨0, x0, none, 0, po, pc, Nat.zero_le _, rfl, rfl, HC0, fun h => absurd HXP.out.2 h, fun a e => .inl ⟨a, e, rfl⟩, fun h => absurd HXP.out.2 h, HT0⟩
  case round =>
    obtain ⟨k, X, a1, c1, p1, d1, hk, rfl, HXX, HC, HAH, HPO, HAP, HT⟩ := hrel
    clear HC0 HT0
    by_cases hlt : k < l.length
    · obtain ⟨b, oo, hb, hone⟩ := (HRC.out wr HT.out).one hlt
      have hld := (hone wr (Below.refl _ _)).1 _ ty_rec
      subst hb
      have HLT := Lib.hid hlt
      have HTK : Hid ((l.take (k + 1)).foldl cnOne x0 = cnOne X (l[k]'hlt)) := by
        show _ = _
        rw [List.take_succ_eq_append_getElem hlt, List.foldl_append, ← HXX.out]; rfl
      have hak := addOk_take l x0 k hlt HA.out
      rw [← HXX.out, List.drop_eq_getElem_cons hlt] at hak
      obtain ⟨m1, m2, m3, m4, m5⟩ := hak
      have hfl := fold_len (l.take k) x0
      rw [← HXX.out] at hfl
      have hbp : X.ps.length ≤ 420000 ∧ X.ah.length ≤ 20000 := by
        have h1 := HLL.out
        have h2 := HXP.out
        have h3 := List.length_take_le k l
        rw [h2.1, h2.2] at hfl
        simp only [List.length_nil] at hfl
        omega
      have HXO := Lib.hid (show CnOk X from by
        rw [HXX.out]
        have := fold_okc (l := l.take k) HX.out (addOk_pre l x0 k HA.out)
        exact this)
      obtain ⟨r, hrr⟩ : ∃ r, r = l[k]'hlt := ⟨_, rfl⟩
      rw [← hrr] at hld HTK m1 m2 m3 m4
      have HBP := Lib.hid hbp
      have HM := Lib.hid (And.intro m2 (And.intro m3 m4))
      clear hone hrr m5 hfl hbp m1 m2 m3 m4 HXX
      obtain ⟨g5, w5, z5, s5, H5, q5⟩ := (Loc.nil (Nat.le_refl wr.heap.size)).newA ty_rec #[.int .i64 0, .int .u64 0, .int .u8 0, .int .u8 0, .int .u8 0, .int .u64 0, .int .u64 0, .int .u64 0, .int .u8 0] (rcs r) rfl rfl rfl
      replace H5 : Hid (Loc wr.heap.size wr w5 [(g5, 114, rcs r)]) := H5
      have HC5 := Lib.hid (HC.out.to (below_of_grown q5))
      have HT5 : Hid (Tu (AdS g po) w w5) := HT.out.trans (Tu.new (S := AdS g po) (below_of_grown q5)) fun _ _ h => h
      have HPN : Hid (∀ a, p1 = some a → a.block < g5) := fun a e => by have := (HC.out.r.blk e).2.1; omega
      have HZ5 : Hid (w.heap.size ≤ w5.heap.size ∧ w.heap.size ≤ g5 ∧ g5 < w5.heap.size) := ⟨HT5.out.size, by rw [← z5]; exact HT.out.size, (H5.out.get 0 rfl).lt⟩
      have l5 := H5.out.ldO ty_int 0 rfl 0 (v := .int .i64 r.k) rfl
      clear q5 HC HT
      by_cases hk1 : r.k = 1
      · have hq : (r.k == 1) = true := beq_iff_eq.2 hk1
        rw [cnOne_own hk1] at HTK
        clear hk1
        go_upto_region 5 with fail
        clear l5 s5 z5 hld
        obtain ⟨wd, hwd⟩ : ∃ wd, ({ w5 with drawn := w5.drawn + 1 } : World) = wd := ⟨_, rfl⟩
        have hbd : Below w5.heap.size w5 wd := by rw [← hwd]; exact (Below.refl _ w5).drew
        have HLd := Lib.hid (H5.out.to hbd)
        have HCd := Lib.hid (HC5.out.to hbd)
        have HTd : Hid (Tu (AdS g po) w wd) := HT5.out.trans (Tu.new (S := AdS g po) hbd) fun _ _ h => h
        have l6 := HLd.out.ldO ty_input 0 rfl 2 (v := .int .u8 (r.o : Int)) rfl
        have HCL := Lib.hid (town_c g 0 X.ah.length c1 r.o 133 (cts X a1 c1 p1 d1) a1 X.ah wd HCd.out.c.blk rfl HCd.out.c.ins rfl HCd.out.c.ic.1 (by have := HBP.out; omega) (fun e => by have := HCd.out.c.ins; rw [e] at this; rw [this.nilOf]; rfl))
        clear hbd
        refine wp_region_still_tail 5 (by kernel_rfl) (by kernel_rfl) ?_
        simp only [List.take_succ_cons, List.take_zero, List.drop_succ_cons, List.drop_zero]
        rw [hwd]
        clear hwd
        repeat still_step
        refine wpStill_nil ?_
        go_wp2_with fail
        refine HCL.out.mono ?_
        rintro R w6 ⟨rfl, a2, c2, hc2, hi2, hn2, hle2, hm2, hz2, hg2⟩
        have kt : Tu (fun y => y = g) wd w6 := Tu.of_same hg2
        have HC6 : Hid (JCo B w6 g bs ⟨X.fr, X.c, X.ah ++ [r.o], X.ps⟩ a2 c2 p1 d1) := ⟨⟨hc2, hi2, HCd.out.c.prs.tu kt fun h0 a e => HCd.out.c.pa a e h0, ⟨hle2, hm2⟩, HCd.out.c.pc, fun a e _ => by have h1 := (hn2 a e).1; have h2 := HCd.out.c.blk.lt; omega, HCd.out.c.pa⟩, HCd.out.r.turn HG.out hg2⟩
        have HAH6 : Hid (∀ a, a2 = some a → w.heap.size ≤ a.block) := fun a e => Nat.le_trans HTd.out.size (hn2 a e).1
        have HAP6 : Hid (∀ a b, a2 = some a → p1 = some b → a.block ≠ b.block) := fun a b e1 e2 => by have h1 := (hn2 a e1).1; have h2 := (HCd.out.r.blk e2).2.1; omega
        have HT6 : Hid (Tu (AdS g po) w w6) := HTd.out.trans kt fun _ _ e => .inl e
        clear hc2 hi2 hn2 hle2 hm2 hz2 hg2 kt l6 HCL
        have hbb := HLL.out.1
        have hkk := HLT.out
        go_wp2
        go_roundw
        case rel => exact ⟨k + 1, _, a2, c2, p1, d1, HLT.out, by go_num, HTK.out.symm, HC6, fun _ => HAH6.out, HPO, fun _ => HAP6.out, HT6⟩
        case measure => have := HLT.out; simp [intOf]; omega
      · have hq : (r.k == 1) = false := beq_eq_false_iff_ne.2 hk1
        have hah : X.ah ≠ [] := (HM.out.2.1.resolve_left hk1).2
        rw [cnOne_sure hk1] at HTK
        have HM2 := HM.out.2.2
        rw [cnOne_sure hk1] at HM2
        have HAN := Lib.hid (And.intro hah HM2)
        obtain ⟨ab, ak, hab⟩ := HC5.out.c.ins.ptr hah
        subst hab
        clear hk1 hah HM2
        go_upto_region 6 with fail
        clear l5 s5 z5 hld
        have HLd := Lib.hid H5.out.drew
        have HCd := Lib.hid (HC5.out.to (Below.refl _ w5).drew)
        have HTd : Hid (Tu (AdS g po) w w5.drew) := HT5.out.trans (Tu.new (S := AdS g po) (Below.refl _ w5).drew) fun _ _ h => h
        have HZd : Hid (w.heap.size ≤ w5.drew.heap.size ∧ w.heap.size ≤ g5 ∧ g5 < w5.drew.heap.size ∧ B ≤ w5.drew.heap.size) := ⟨HZ5.out.1, HZ5.out.2.1, HZ5.out.2.2, Nat.le_trans HGL.out.2 HZ5.out.1⟩
        generalize hwd : w5.drew = wd at *
        have hs0 : (ldT 46 (.pointer (some ⟨g, 3, none⟩))).run Tryz.prog wd = .ok (.slice p1 X.ps.length d1) wd ∧ (ldT 40 (.pointer (some ⟨g5, 3, none⟩))).run Tryz.prog wd = .ok (.agg #[.int .u8 (r.p : Int), .int .u8 (r.q : Int)]) wd := ⟨run_ldO ty_prs HCd.out.c.blk 3 rfl, HLd.out.ldA ty_pair 0 rfl 3 rfl (Nat.le_of_ble_eq_true rfl)⟩
        refine wp_region_to (K := [1, 2, 3, 4, 6, 7, 8, 9, 10, 11]) (S := fun W => (ldT 46 (.pointer (some ⟨g, 3, none⟩))).run Tryz.prog W = .ok (.slice p1 X.ps.length d1) W ∧ (ldT 40 (.pointer (some ⟨g5, 3, none⟩))).run Tryz.prog W = .ok (.agg #[.int .u8 (r.p : Int), .int .u8 (r.q : Int)]) W) (by kernel_rfl) ?_
        rw [hwd]
        clear hwd H5 HC5 HT5
        refine wpTo_take (i := 0) (v := ?va0) rfl (by kernel_rfl) (fun _ _ _ h => h) (Or.inl ⟨by rfl, ?hya0⟩) hs0 ?resta0
        case hya0 => (rintro W ⟨hW1, hW2⟩; go_simp; try with_reducible rfl)
        simp only [Act.put, List.setIfInBounds_toArray, List.set_cons_zero, List.set_cons_succ, List.getElem_toArray, List.getElem_cons_succ, List.getElem_cons_zero]
        refine wpTo_take (i := 1) (v := ?va1) rfl (by kernel_rfl) (fun _ _ _ h => h) (Or.inl ⟨by rfl, ?hya1⟩) hs0 ?resta1
        case hya1 => (rintro W ⟨hW1, hW2⟩; go_simp; try with_reducible rfl)
        simp only [Act.put, List.setIfInBounds_toArray, List.set_cons_zero, List.set_cons_succ, List.getElem_toArray, List.getElem_cons_succ, List.getElem_cons_zero]
        refine wpTo_take (i := 2) (v := ?va2) rfl (by kernel_rfl) (fun _ _ _ h => h) (Or.inl ⟨by rfl, ?hya2⟩) hs0 ?resta2
        case hya2 => (rintro W ⟨hW1, hW2⟩; go_simp; try with_reducible rfl)
        simp only [Act.put, List.setIfInBounds_toArray, List.set_cons_zero, List.set_cons_succ, List.getElem_toArray, List.getElem_cons_succ, List.getElem_cons_zero]
        refine wpTo_take (i := 3) (v := ?va3) rfl (by kernel_rfl) (fun _ _ _ h => h) (Or.inl ⟨by rfl, ?hya3⟩) hs0 ?resta3
        case hya3 => (rintro W ⟨hW1, hW2⟩; go_simp; try with_reducible rfl)
        simp only [Act.put, List.setIfInBounds_toArray, List.set_cons_zero, List.set_cons_succ, List.getElem_toArray, List.getElem_cons_succ, List.getElem_cons_zero]
        refine wpTo_take (i := 4) (v := ?va4) rfl (by kernel_rfl) (fun _ _ _ h => h) (Or.inl ⟨by rfl, ?hya4⟩) hs0 ?resta4
        case hya4 => (rintro W ⟨hW1, hW2⟩; go_simp; try with_reducible rfl)
        simp only [Act.put, List.setIfInBounds_toArray, List.set_cons_zero, List.set_cons_succ, List.getElem_toArray, List.getElem_cons_succ, List.getElem_cons_zero]
        refine wpTo_take (i := 5) (v := ?va5) rfl (by kernel_rfl) (fun _ _ _ h => h) (Or.inl ⟨by rfl, ?hya5⟩) hs0 ?resta5
        case hya5 => (rintro W ⟨hW1, hW2⟩; go_simp; try with_reducible rfl)
        simp only [Act.put, List.setIfInBounds_toArray, List.set_cons_zero, List.set_cons_succ, List.getElem_toArray, List.getElem_cons_succ, List.getElem_cons_zero]
        refine wpTo_take (i := 6) (v := ?va6) rfl (by kernel_rfl) (fun _ _ _ h => h) (Or.inl ⟨by rfl, ?hya6⟩) hs0 ?resta6
        case hya6 => (rintro W ⟨hW1, hW2⟩; go_simp; try with_reducible rfl)
        simp only [Act.put, List.setIfInBounds_toArray, List.set_cons_zero, List.set_cons_succ, List.getElem_toArray, List.getElem_cons_succ, List.getElem_cons_zero]
        refine wpTo_run (i := 7) (by kernel_rfl) rfl (fun _ => hs0) (fun K hK => ?_)
        go_simp
        have hal := below_alloc wd (.cells (qv (r.p, r.q)).toArray 40)
        have HLa := Lib.hid (HLd.out.to hal)
        have HCa := Lib.hid (HCd.out.to hal)
        have HTa : Hid (Tu (AdS g po) w (wd.alloc (.cells (qv (r.p, r.q)).toArray 40))) := HTd.out.trans (Tu.new (S := AdS g po) hal) fun _ _ h => h
        have HSa : Hid (wd.heap.size < (wd.alloc (.cells (qv (r.p, r.q)).toArray 40)).heap.size) := by show _ < _; simp
        have HNa : Hid (∀ j u, (qv (r.p, r.q))[j]? = some u → (wd.alloc (.cells (qv (r.p, r.q)).toArray 40)).cell? ((⟨wd.heap.size, 0, none⟩ : Addr).add j) = some u) := fun j u hu => by
          have hadd : (⟨wd.heap.size, 0, none⟩ : Addr).add j = ⟨wd.heap.size, j, none⟩ := by unfold Addr.add; split <;> simp_all
          rw [hadd, (Cells.made wd 40 (qv (r.p, r.q)).toArray).cell]; simpa using hu
        have hsa : (ldT 46 (.pointer (some ⟨g, 3, none⟩))).run Tryz.prog (wd.alloc (.cells (qv (r.p, r.q)).toArray 40)) = .ok (.slice p1 X.ps.length d1) (wd.alloc (.cells (qv (r.p, r.q)).toArray 40)) ∧ (ldT 40 (.pointer (some ⟨g5, 3, none⟩))).run Tryz.prog (wd.alloc (.cells (qv (r.p, r.q)).toArray 40)) = .ok (.agg #[.int .u8 (r.p : Int), .int .u8 (r.q : Int)]) (wd.alloc (.cells (qv (r.p, r.q)).toArray 40)) := ⟨run_ldO ty_prs HCa.out.c.blk 3 rfl, HLa.out.ldA ty_pair 0 rfl 3 rfl (Nat.le_of_ble_eq_true rfl)⟩
        clear hal
        refine hK _ _ ?_
        clear hK K
        refine wpTo_run (i := 8) (by kernel_rfl) rfl (fun _ => hsa) (fun K hK => ?_)
        refine step_append_gq Tryz.underlying46 info_pair rfl (by decide) (by decide) rfl _ _ rfl (by simp [Act.eval]) HCa.out.r (by have := HBP.out; omega) (by have := HZd.out; simp; omega) ⟨wd.heap.size, 0, none⟩ 1 1 (by decide) (qv (r.p, r.q)) (by simp [Act.eval]) rfl HNa.out (by intro u hu; simp [qv] at hu; rcases hu with rfl | rfl <;> rfl) ?_
        intro p2 d2 w7 hr7 hg7 hat7
        rw [← Gql_snoc] at hr7
        have HR7 := Lib.hid hr7
        have kt7 : Tu (fun y => ∃ a, p1 = some a ∧ a.block = y) (wd.alloc (.cells (qv (r.p, r.q)).toArray 40)) w7 := (Tu.grown hg7).mono fun y _ e => (Option.map_eq_some_iff.1 e.symm)
        have hgn : ¬ ∃ a, p1 = some a ∧ a.block = g := fun ⟨a, e, h⟩ => (HCa.out.r.blk e).2.2 g HG.out h.symm
        have HB7 := Lib.hid (Cells.tu HCa.out.c.blk kt7 hgn)
        have HG5 := Lib.hid (Cells.tu (HLa.out.get 0 rfl) kt7 (fun ⟨a, e, h⟩ => by have := HPN.out a e; omega))
        have HT7 : Hid (Tu (AdS g po) w w7) := HTa.out.trans kt7 fun y hy ⟨a, e, h⟩ => by
          rcases HPO.out a e with ⟨b', e2, h2⟩ | h2
          · exact .inr ⟨b', e2, h2.trans h⟩
          · omega
        have HI7 := Lib.hid (HCa.out.c.ins.tu kt7 fun h0 a e ⟨a', e', h⟩ => HAP.out h0 a a' e e' h.symm)
        have HP7 : Hid ((∀ a, p2 = some a → (∃ b, po = some b ∧ b.block = a.block) ∨ w.heap.size ≤ a.block) ∧ (∀ a b, (some ⟨ab, ak, none⟩ : Option Addr) = some a → p2 = some b → a.block ≠ b.block)) := by
          have hz := HZd.out
          have hs := HSa.out
          have hlt := HCa.out.c.ins.lt HAN.out.1
          refine ⟨fun a e => ?_, fun a b e1 e2 h => ?_⟩
          · rcases hat7 with hh | hh
            · rw [e] at hh
              obtain ⟨a', e', h'⟩ := Option.map_eq_some_iff.1 hh.symm
              have h' : a'.block = a.block := h'
              rw [← h']; exact HPO.out a' e'
            · have h9 := hh a e
              simp at h9
              right; omega
          · rcases hat7 with hh | hh
            · rw [e2] at hh
              obtain ⟨a', e', h'⟩ := Option.map_eq_some_iff.1 hh.symm
              have h' : a'.block = b.block := h'
              exact HAP.out HAN.out.1 a a' e1 e' (h.trans h'.symm)
            · have h1 := hh b e2
              simp at h1
              have h2 := hlt a e1
              simp at h2
              omega
        have hs7 : (ldT 46 (.pointer (some ⟨g, 3, none⟩))).run Tryz.prog w7 = .ok (.slice p1 X.ps.length d1) w7 ∧ (ldT 40 (.pointer (some ⟨g5, 3, none⟩))).run Tryz.prog w7 = .ok (.agg #[.int .u8 (r.p : Int), .int .u8 (r.q : Int)]) w7 := ⟨run_ldO ty_prs HB7.out 3 rfl, run_ldA ty_pair HG5.out 3 (Nat.le_of_ble_eq_true rfl)⟩
        clear hr7 hg7 hat7 kt7 hgn
        refine hK _ _ ?_
        clear hK K
        refine wpTo_take (i := 9) (v := ?va9) rfl (by kernel_rfl) (fun _ _ _ h => h) (Or.inl ⟨by rfl, ?hya9⟩) hs7 ?resta9
        case hya9 => (rintro W ⟨hW1, hW2⟩; go_simp; try with_reducible rfl)
        simp only [Act.put, List.setIfInBounds_toArray, List.set_cons_zero, List.set_cons_succ, List.getElem_toArray, List.getElem_cons_succ, List.getElem_cons_zero]
        refine wpTo_take (i := 10) (v := ?va10) rfl (by kernel_rfl) (fun _ _ _ h => h) (Or.inl ⟨by rfl, ?hya10⟩) hs7 ?resta10
        case hya10 => (rintro W ⟨hW1, hW2⟩; go_simp; try with_reducible rfl)
        simp only [Act.put, List.setIfInBounds_toArray, List.set_cons_zero, List.set_cons_succ, List.getElem_toArray, List.getElem_cons_succ, List.getElem_cons_zero]
        refine wpTo_run (i := 11) (by kernel_rfl) rfl (fun _ => hs7) (fun K hK => ?_)
        obtain ⟨w8, s8, c8, q8, z8⟩ := cells_st ty_prs HB7.out 3 (Nat.le_of_ble_eq_true rfl) (.slice p2 (X.ps.length + 1) d2) rfl rfl (cs' := cts ⟨X.fr, X.c, X.ah, X.ps ++ [(r.p, r.q)]⟩ (some ⟨ab, ak, none⟩) c1 p2 d2) (by simp [cts])
        have HC8 := Lib.hid c8
        have HQ8 := Lib.hid q8
        clear c8 q8 z8
        go_simp
        refine hK _ _ ?_
        clear hK K
        refine wpTo_done (by kernel_rfl) (by kernel_rfl) ?_
        clear hs0 hsa hs7 s8
        have HM8 := Lib.hid (And.intro HCd.out.c.ic HCd.out.c.pc)
        have HCF := Lib.hid (tconfirm_c g 0 X.c X.ah.length c1 ab ak 133 (cts ⟨X.fr, X.c, X.ah, X.ps ++ [(r.p, r.q)]⟩ (some ⟨ab, ak, none⟩) c1 p2 d2) w8 HC8.out rfl rfl (List.length_pos_iff.2 HAN.out.1) HM8.out.1.1 HM8.out.1.2 (by have := HAN.out.2; have := HXO.out.o; have := List.length_pos_iff.2 HAN.out.1; omega))
        go_wp2_with fail
        refine HCF.out.mono ?_
        rintro R w9 ⟨rfl, a9, h1, h2, h3⟩
        have k8 : Tu (fun y => y = g) w7 w8 := Tu.of_same HQ8.out
        have k9 : Tu (fun y => y = g) w8 w9 := Tu.of_same h3
        have k79 : Tu (fun y => y = g) w7 w9 := k8.trans k9 fun _ _ e => e
        have hng : ab ≠ g := fun e => HCd.out.c.ia _ rfl HAN.out.1 e
        have HR9 := Lib.hid ((HR7.out.turn HG.out HQ8.out).turn HG.out h3)
        have hi9 : InAt w9 (some ⟨ab, ak, none⟩) X.ah := HI7.out.tu k79 fun _ a e => by cases e; exact hng
        obtain ⟨y, ys, hys⟩ := List.exists_cons_of_ne_nil HAN.out.1
        have hlen : X.ah.length = ys.length + 1 := by rw [hys]; rfl
        have htl : X.ah.tail = ys := by rw [hys]; rfl
        have hb9 : ys ≠ [] → a9 = some ⟨ab, ak + 1, none⟩ := fun hl => by
          have := List.length_pos_iff.2 hl
          have := HM8.out.1.1
          rcases h2 ab ak rfl with ⟨e, _⟩ | ⟨_, e⟩
          · omega
          · exact e
        have HC9 : Hid (JCo B w9 g bs ⟨X.fr, X.c + 1, X.ah.tail, X.ps ++ [(r.p, r.q)]⟩ a9 (c1 - 1) p2 d2) := by
          refine ⟨⟨?_, ?_, HR9.out.prAt, ?_, ?_, fun a e h0 => ?_, fun a e h0 => ((HR9.out.blk e).2.2 g HG.out).symm⟩, ?_⟩
          · have e5 : cts ⟨X.fr, X.c + 1, X.ah.tail, X.ps ++ [(r.p, r.q)]⟩ a9 (c1 - 1) p2 d2 = ((cts ⟨X.fr, X.c, X.ah, X.ps ++ [(r.p, r.q)]⟩ (some ⟨ab, ak, none⟩) c1 p2 d2).setIfInBounds 0 (.int .u64 ((X.c + 1 : Nat) : Int))).setIfInBounds (0 + 1) (.slice a9 (X.ah.length - 1) (c1 - 1)) := by
              simp [cts]
            rw [e5]; exact h1
          · show InAt w9 a9 X.ah.tail
            rw [htl]
            by_cases hl : ys = []
            · rw [hl]; exact InAt.nil _ _
            · rw [hb9 hl]; rw [hys] at hi9; exact hi9.tail
          · show X.ah.tail.length ≤ _ ∧ _
            have := HM8.out.1
            rw [htl]; omega
          · have := HR9.out.caps
            show (X.ps ++ [(r.p, r.q)]).length ≤ _ ∧ _
            simp only [List.length_append, List.length_singleton]
            exact this
          · rw [show (⟨X.fr, X.c + 1, X.ah.tail, X.ps ++ [(r.p, r.q)]⟩ : Cn).ah = ys from htl] at h0
            rw [hb9 h0] at e; cases e; exact hng
          · have := HR9.out
            show GQ _ _ _ _ _ _ (X.ps ++ [(r.p, r.q)]).length _ _
            simp only [List.length_append, List.length_singleton]
            exact this
        have HA9 : Hid (X.ah.tail ≠ [] → ∀ a, a9 = some a → w.heap.size ≤ a.block ∧ ∀ b, p2 = some b → a.block ≠ b.block) := fun h0 a e => by
          rw [htl] at h0
          rw [hb9 h0] at e; cases e
          exact ⟨HAH.out HAN.out.1 ⟨ab, ak, none⟩ rfl, fun b e2 => HP7.out.2 ⟨ab, ak, none⟩ b rfl e2⟩
        have HT9 : Hid (Tu (AdS g po) w w9) := HT7.out.trans k79 fun _ _ e => .inl e
        clear h1 h2 h3 k8 k9 k79 hng hi9 hys hlen htl hb9 HCF
        have hbb := HLL.out.1
        have hkk := HLT.out
        go_wp2
        go_roundw
        case rel => exact ⟨k + 1, _, a9, c1 - 1, p2, d2, HLT.out, by go_num, HTK.out.symm, HC9, fun h a e => (HA9.out h a e).1, HP7.out.1, fun h a b e1 e2 => (HA9.out h a e1).2 b e2, HT9⟩
        case measure => have := HLT.out; simp [intOf]; omega
    · obtain rfl : k = l.length := by omega
      have HF : Hid (Q (.returned (.tuple #[])) wr) := by
        show Q _ _
        have e := HXX.out
        rw [List.take_length] at e
        rw [HQ.out, ← e]
        exact ⟨rfl, a1, c1, p1, d1, HC.out, HAH.out, HPO.out, HAP.out, HT.out⟩
      go_wp2
      go_end0
      exact HF.out
end Go.Proofs.YtgeaacabpnepmaaGreatDoor
