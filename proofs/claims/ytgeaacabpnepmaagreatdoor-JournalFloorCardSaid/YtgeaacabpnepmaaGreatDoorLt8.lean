/- Texts of the walk. -/
import Derived.Test.YtgeaacabpnepmaaGreatDoorLn8
import Derived.LaidEqlPtr
/- A power over a disk, blown, told, another one made over the same disk: in the words of the journal. -/
namespace Go.Proofs.YtgeaacabpnepmaaGreatDoor
open Go.RowKit
set_option linter.unusedVariables false
set_option linter.unusedSimpArgs false
set_option maxRecDepth 20000

section
variable {V : Nat → Prop} {w w1 : World} {gj gp q kc : Nat} {dv : Value} {ko : Option Addr} {p : Pw} {j : Jn}
theorem PJ.disk (h : PJ V w gp q dv ko kc p) : ∃ S, DkS S w dv q p.E ∧ ∀ x, S x → V x := by
  obtain ⟨S, h1, _, h3, _⟩ := h
  exact ⟨S, h1.dk, h3⟩
def NwV (S : Nat → Prop) (w w' : World) (x : Nat) : Prop := (S x ∧ x < w.heap.size) ∨ (w.heap.size ≤ x ∧ x < w'.heap.size)
theorem jpnew_c {S : Nat → Prop} {E : List Ent} (fu : Int) (ao : Option Addr) (ks : List Int) (cap : Nat) (w : World) (h : DkS S w dv q E) (hi : Ints w ao ks) (hl : ks.length ≤ 20) :
    Calls Tryz.prog 29 #[dv, .int .i64 fu, .slice ao ks.length cap] w fun R w' => ∃ g ko kc, R = .returned (.pointer (some ⟨g, 0, none⟩)) ∧ PJ (NwV S w w') w' g q dv ko kc ⟨fu, ks, 0, false, E⟩ ∧ Below w.heap.size w w' :=
  (pnew_c fu ao ks cap w h hi hl).mono fun R w' ⟨g, ko, kc, h1, h2, h3, h4, h5⟩ => ⟨g, ko, kc, h1, ⟨_, h4, .inr ⟨h2, h4.lt⟩, fun x hx => .inl hx, fun a e hn => .inr ⟨h3 a e hn, (h4.kf a e hn).2⟩, fun x hx => hx.elim (fun h => Nat.lt_of_lt_of_le h.2 h5.size) And.right⟩, h5⟩
end
end Go.Proofs.YtgeaacabpnepmaaGreatDoor
/- An opening over a disk, without a fuse; a power that stays on. -/
namespace Go.Proofs.YtgeaacabpnepmaaGreatDoor
open Go.RowKit
set_option linter.unusedVariables false
set_option linter.unusedSimpArgs false
set_option maxRecDepth 20000

theorem fcs_one (o : Op) (co : Option Addr) (cc : Nat) (po : Option Addr) (pc : Nat) (io : Option Addr) (ic : Nat) : (fcs o co cc po pc io ic).toList.all Value.oneCell' = true := rfl
theorem shut_opd {W : World} {g a b c n : Nat} {cs : Array Value} {T : TypeId} (tmps : Array Value) (v u : Value) (fn : Func) (hr : fn.results = #[.tmp a, .cell b T, .tmp c]) (ty : TyA T n) (h : Cells W g T cs) (hs : cs.size = n) (h2 : tmps.getD a undef = v) (h3 : tmps.getD b undef = .pointer (some ⟨g, 0, none⟩)) (h4 : tmps.getD c undef = u) :
    (results fn tmps).run Tryz.prog W = .ok (.tuple #[v, .agg cs, u]) W := by
  have hl := run_ldA ty h 0 (by omega)
  have he : ((cs.toList.drop 0).take n).toArray = cs := by rw [← hs]; simp [List.take_of_length_le]
  rw [he] at hl
  have h2' : tmps[a]?.getD undef = v := by simpa using h2
  have h3' : tmps[b]?.getD undef = .pointer (some ⟨g, 0, none⟩) := by simpa using h3
  have h4' : tmps[c]?.getD undef = u := by simpa using h4
  have k1 : (loadVar T ⟨g, 0, none⟩).run Tryz.prog W = .ok (.agg cs) W := by simpa [ldT, Instr.loadAt, Instr.sureAddr] using hl
  simp [results, hr, h2', h3', h4', asAddr, k1]
section
variable {S : Nat → Prop} {w w1 : World} {gp q kc : Nat} {dv : Value} {ko : Option Addr} {E : List Ent}
def OdPost (S : Nat → Prop) (w : World) (q : Nat) (dv : Value) (ks : List Int) (E : List Ent) (R : Ending) (w' : World) : Prop :=
  ∃ gj gp ko kc co cc po pc io ic V', R = .returned (.tuple #[.pointer (some ⟨gj, 0, none⟩), .agg (fcs (opR q 0 4 ⟨-1, ks, 0, false, E⟩) co cc po pc io ic), .pointer (some ⟨gp, 0, none⟩)]) ∧ JC V' w' gj gp q dv ko kc (opR q 0 4 ⟨-1, ks, 0, false, E⟩).p (opJ 4 (opR q 0 4 ⟨-1, ks, 0, false, E⟩)) ∧
    (∀ x, V' x → (S x ∧ x < w.heap.size) ∨ w.heap.size ≤ x) ∧ Tu S w w' ∧ NsAt w' co (opR q 0 4 ⟨-1, ks, 0, false, E⟩).m.ck ∧ PrAt w' po (opR q 0 4 ⟨-1, ks, 0, false, E⟩).x.ps ∧ InAt w' io (opR q 0 4 ⟨-1, ks, 0, false, E⟩).x.ah ∧ (∀ a, po = some a → (opR q 0 4 ⟨-1, ks, 0, false, E⟩).x.ps ≠ [] → w.heap.size ≤ a.block ∧ ¬ V' a.block) ∧ (∀ a, io = some a → (opR q 0 4 ⟨-1, ks, 0, false, E⟩).x.ah ≠ [] → w.heap.size ≤ a.block ∧ ¬ V' a.block)
attribute [local go_sem ↓] ld_found st_found
set_option maxHeartbeats 8000000 in
theorem opened_c (ao : Option Addr) (ks : List Int) (cap : Nat) (w : World) (h : DkS S w dv q E) (hi : Ints w ao ks) (hl : ks.length ≤ 20) (he : (opR q 0 4 ⟨-1, ks, 0, false, E⟩).e = 0) (ht : Tab w) (hV : ¬ S 1) (hSl : ∀ x, S x → x < w.heap.size) :
    Calls Tryz.prog 15 #[dv, .slice ao ks.length cap] w (OdPost S w q dv ks E) := by
  have H0 := Loc.one w 49 fz
  have HD := Lib.hid (h.new H0.be)
  have HT := Lib.hid (tab_below ht H0.be)
  have HTL := Lib.hid ht.1
  have HDL : Hid (∀ x, S x → x < w.heap.size) := hSl
  have HV := Lib.hid hV
  have HE := Lib.hid he
  have HI := Lib.hid (And.intro (show Ints _ ao ks from Ints.tu (S := fun _ => False) hi (Tu.new H0.be) (fun _ _ h => h)) hl)
  have HL0 : Hid (Loc w.heap.size w _ [(w.heap.size, 49, fz)]) := H0
  obtain ⟨Q, hQ⟩ : ∃ Q : Ending → World → Prop, Q = OdPost S w q dv ks E := ⟨_, rfl⟩
  rw [← hQ]
  have HQ := Lib.hid hQ
  clear hQ h hi hl he ht hV hSl H0
  go_enter Tryz.func15, Tryz.ntmps15
  go_upto_region 1 with fail
  rw [show (#[.int .u64 0, .bool false, .slice none 0 0, .int .u64 0, .slice none 0 0, .slice none 0 0] : Array Value) = fz from rfl]
  generalize w.alloc (.cells fz 49) = wa at *
  go_wp2_with fail
  refine (jpnew_c (-1) ao ks cap wa HD.out HI.out.1 HI.out.2).mono ?_
  rintro R w1 ⟨gp, ko, kc, rfl, hp1, hb1⟩
  have HL1 := Lib.hid (HL0.out.to hb1)
  have HP1 := Lib.hid hp1
  have HB1 := Lib.hid hb1
  have HWA : Hid (w.heap.size < wa.heap.size ∧ wa.heap.size ≤ w1.heap.size ∧ w.heap.size ≤ wa.heap.size) := ⟨HL0.out.low (e := (w.heap.size, 49, fz)) (by simp), hb1.size, HL0.out.be.size⟩
  have HNV : Hid (¬ NwV S wa w1 w.heap.size) := fun hv => by
    rcases hv with ⟨h1, _⟩ | ⟨h1, _⟩
    · have h2 := HDL.out _ h1; omega
    · have := HWA.out; omega
  have HVC : Hid (¬ NwV S wa w1 1) := fun hv => by
    rcases hv with ⟨h1, _⟩ | ⟨h1, _⟩
    · exact HV.out h1
    · have := HWA.out; have := HTL.out; omega
  have HOC := Lib.hid (open_ok (q := q) 0 4 w1 hp1 (by decide) (by decide) (by decide) (by show 0 + 300 < 1000000; decide) (tab_below HT.out hb1) HVC.out)
  clear hp1 hb1
  go_wp2_with fail
  refine HOC.out.mono ?_
  rintro R w2 (⟨h0, _⟩ | ⟨_, gj, co, cc, po, pc, io, ic, V2, rfl, hj2, ht2, hn2, hr2, hi2, _, _, _, hnc, hnp, hni, _⟩)
  · exact absurd HE.out h0
  clear HOC HP1
  have HL2 : Hid (Loc w.heap.size w2 w2 [(w.heap.size, 49, fz)]) := HL1.out.rebase ht2.tu (fun e he => by rw [List.mem_singleton] at he; subst he; exact HNV.out)
  obtain ⟨O, hO⟩ : ∃ O, O = opR q 0 4 ⟨-1, ks, 0, false, E⟩ := ⟨_, rfl⟩
  have e4 : opR q 0 ((4 : Nat) : Int) ⟨-1, ks, 0, false, E⟩ = O := hO.symm
  rw [e4] at hj2 hn2 hr2 hi2 hnc hnp hni ⊢
  unfold OdPost at HQ
  rw [← hO] at HQ HE
  have HJ2 := Lib.hid hj2
  have HX2 := Lib.hid (And.intro hn2 (And.intro hr2 (And.intro hi2 (And.intro hnp hni))))
  have HNC : Hid (∀ a, co = some a → O.m.ck ≠ [] → w1.heap.size ≤ a.block) := fun a e h0 => (hnc a e h0).1
  have HVM : Hid (∀ x, V2 x → (S x ∧ x < w.heap.size) ∨ w.heap.size ≤ x) := fun x hx => by
    have hw := HWA.out
    rcases ht2.more x hx with (⟨h1, h2⟩ | ⟨h1, h2⟩) | h1
    · have := HDL.out x h1; exact .inl ⟨h1, this⟩
    · right; omega
    · right; omega
  have HTU : Hid (Tu S w w2) := by
    have k1 : Tu S w wa := Tu.new HL0.out.be
    have k2 : Tu S wa w1 := Tu.new HB1.out
    refine (k1.trans k2 fun x _ h => h).trans ht2.tu fun x hx hv => ?_
    rcases hv with ⟨h1, _⟩ | ⟨h1, _⟩
    · exact h1
    · have := HWA.out; omega
  obtain ⟨g9, w3, z3, s3, H3, q3⟩ := HL2.out.newA ty_found #[.int .u64 0, .bool false, .slice none 0 0, .int .u64 0, .slice none 0 0, .slice none 0 0] (fcs O co cc po pc io ic) rfl rfl rfl
  replace H3 : Hid (Loc w.heap.size w2 w3 [(w.heap.size, 49, fz), (g9, 49, fcs O co cc po pc io ic)]) := H3
  have HB23 := Lib.hid (below_of_grown q3)
  have HN2 : Hid (¬ V2 w.heap.size ∧ ∀ x, V2 x → x < w2.heap.size) := ⟨fun hv => by
    rcases ht2.more _ hv with h1 | h1
    · exact HNV.out h1
    · have := HWA.out; omega, hj2.lt⟩
  clear hj2 ht2 hn2 hr2 hi2 hnc hnp hni q3 hO e4
  go_upto_region 3 with fail
  clear s3 z3
  have HLd := Lib.hid H3.out.drew
  have HBd : Hid (Below w2.heap.size w2 w3.drew) := HB23.out.drew
  generalize hwd : w3.drew = wd at *
  have hs0 : (ldT 49 (.pointer (some ⟨g9, 0, none⟩))).run Tryz.prog wd = .ok (.agg (fcs O co cc po pc io ic)) wd := HLd.out.ldA ty_found 1 rfl 0 rfl (Nat.le_of_ble_eq_true rfl)
  obtain ⟨w4, s4, H4, q4⟩ := HLd.out.stA ty_found 0 rfl 0 (fcs O co cc po pc io ic) (cs' := fcs O co cc po pc io ic) rfl (L' := [(w.heap.size, 49, fcs O co cc po pc io ic), (g9, 49, fcs O co cc po pc io ic)]) rfl (Nat.le_of_ble_eq_true rfl) rfl (fcs_one _ _ _ _ _ _ _)
  have H4' := Lib.hid H4
  have HQ4 := Lib.hid q4
  have hs4 : (ldT 49 (.pointer (some ⟨g9, 0, none⟩))).run Tryz.prog w4 = .ok (.agg (fcs O co cc po pc io ic)) w4 := H4.ldA ty_found 1 rfl 0 rfl (Nat.le_of_ble_eq_true rfl)
  clear H4 q4
  refine wp_region_to (K := [3, 4, 5]) (S := fun W => (ldT 49 (.pointer (some ⟨g9, 0, none⟩))).run Tryz.prog W = .ok (.agg (fcs O co cc po pc io ic)) W) (by kernel_rfl) ?_
  rw [hwd]
  clear hwd
  refine wpTo_take (i := 0) (v := ?va0) rfl (by kernel_rfl) (fun _ _ _ h => h) (Or.inl ⟨by rfl, ?hya0⟩) hs0 ?resta0
  case hya0 => (rintro W hW1; go_simp; try with_reducible rfl)
  simp only [Act.put, List.setIfInBounds_toArray, List.set_cons_zero, List.set_cons_succ, List.getElem_toArray, List.getElem_cons_succ, List.getElem_cons_zero]
  refine wpTo_take (i := 1) (v := ?va1) rfl (by kernel_rfl) (fun _ _ _ h => h) (Or.inl ⟨by rfl, ?hya1⟩) hs0 ?resta1
  case hya1 => (rintro W hW1; go_simp; try with_reducible rfl)
  simp only [Act.put, List.setIfInBounds_toArray, List.set_cons_zero, List.set_cons_succ, List.getElem_toArray, List.getElem_cons_succ, List.getElem_cons_zero]
  refine wpTo_take (i := 2) (v := ?va2) rfl (by kernel_rfl) (fun _ _ _ h => h) (Or.inl ⟨by rfl, ?hya2⟩) hs0 ?resta2
  case hya2 => (rintro W hW1; go_simp; try with_reducible rfl)
  simp only [Act.put, List.setIfInBounds_toArray, List.set_cons_zero, List.set_cons_succ, List.getElem_toArray, List.getElem_cons_succ, List.getElem_cons_zero]
  refine wpTo_run (i := 3) (by kernel_rfl) rfl (fun _ => hs0) (fun K hK => ?_)
  go_simp
  refine hK _ _ ?_
  clear hK K
  refine wpTo_run (i := 4) (by kernel_rfl) rfl (fun _ => hs0) (fun K hK => ?_)
  go_simp
  refine hK _ _ ?_
  clear hK K
  refine wpTo_run (i := 5) (by kernel_rfl) rfl (fun _ => hs4) (fun K hK => ?_)
  go_simp
  refine hK _ _ ?_
  clear hK K
  refine wpTo_done (by kernel_rfl) (by kernel_rfl) ?_
  have HFin : Hid (Q (.returned (.tuple #[.pointer (some ⟨gj, 0, none⟩), .agg (fcs O co cc po pc io ic), .pointer (some ⟨gp, 0, none⟩)])) w4) := by
    show Q _ _
    rw [HQ.out]
    have hn2 := HN2.out
    have hx := HX2.out
    have hw := HWA.out
    have kt : Tu (fun x => x = w.heap.size) wd w4 := Tu.of_same HQ4.out
    have k2 : Tu S w2 wd := (Tu.new HBd.out)
    have hne : ∀ a, w1.heap.size ≤ a → a ≠ w.heap.size := fun a h => by omega
    refine ⟨gj, gp, ko, kc, co, cc, po, pc, io, ic, V2, rfl, (HJ2.out.new HBd.out).tu kt fun x h e => hn2.1 (e ▸ h), HVM.out, (HTU.out.trans k2 fun x _ h => h).trans kt fun x hx e => by omega, (hx.1.to HBd.out).tuS kt fun h0 a e h => ?_, (hx.2.1.to HBd.out).tu kt fun h0 a e h => ?_, (hx.2.2.1.to HBd.out).tu kt fun h0 a e h => ?_, fun a e h0 => ⟨?_, (hx.2.2.2.1 a e h0).2⟩, fun a e h0 => ⟨?_, (hx.2.2.2.2 a e h0).2⟩⟩
    · exact hne _ (HNC.out a e h0) h
    · exact hne _ (hx.2.2.2.1 a e h0).1 h
    · exact hne _ (hx.2.2.2.2 a e h0).1 h
    · have := (hx.2.2.2.1 a e h0).1; omega
    · have := (hx.2.2.2.2 a e h0).1; omega
  have HC4 : Hid (Cells w4 w.heap.size 49 (fcs O co cc po pc io ic)) := H4'.out.get 0 rfl
  clear hs0 hs4 s4
  go_wp2
  refine bodyPost_ret (shut_opd _ _ _ _ Tryz.results15 ty_found HC4.out rfl rfl rfl rfl) rfl ?_
  exact HFin.out
end
end Go.Proofs.YtgeaacabpnepmaaGreatDoor
/- Some of the chapter's answers. -/
namespace Go.Proofs.YtgeaacabpnepmaaGreatDoor
open Go.RowKit
set_option linter.unusedVariables false
set_option linter.unusedSimpArgs false
set_option maxRecDepth 20000

def p50 : Pw := ⟨-1, [], 0, false, []⟩
def aO : Op := opR 5000 0 4 p50
def aW : Ans := jOwn 5000 aO.p (opJ 4 aO) 0 5
def aS : Ans := jSure 5000 aW.p aW.j 0 5 6
def aY : Ans := jSync 5000 aS.p aS.j
theorem aO_says : aO.e = 0 ∧ aO.m.ep = 1 ∧ aO.f = true ∧ aO.p.n < 1000 ∧ aO.x.fr = 0 ∧ aO.x.ps = [] := by decide +kernel
theorem aW_says : aW.e = 0 ∧ aW.p.n < 1000 ∧ aW.j.ap < 1000 := by decide +kernel
theorem aS_says : aS.e = 0 ∧ aS.p.n < 1000 ∧ aS.j.c = 1 ∧ aS.j.sy = 0 := by decide +kernel
theorem aY_says : aY.e = 0 ∧ aY.j.sy = 1 ∧ aY.p.n < 1000 := by decide +kernel
structure Kj (B : Nat) (w0 w : World) (gj gp q : Nat) (dv : Value) (ko : Option Addr) (kc : Nat) (p : Pw) (j : Jn) : Prop where
  jc : ∃ V, JC V w gj gp q dv ko kc p j ∧ ∀ x, V x → B ≤ x
  be : Below B w0 w
  sz : B ≤ w0.heap.size
section
variable {B gj gp q kc : Nat} {w0 w w1 : World} {dv : Value} {ko : Option Addr} {p p' : Pw} {j j' : Jn}
theorem Kj.new (h : Kj B w0 w gj gp q dv ko kc p j) (hb : Below w.heap.size w w1) : Kj B w0 w1 gj gp q dv ko kc p j := by
  obtain ⟨V, h1, h2⟩ := h.jc
  have hz := Nat.le_trans h.sz h.be.size
  exact ⟨⟨V, h1.new hb, h2⟩, h.be.trans (hb.mono hz), h.sz⟩
theorem Kj.step (h : Kj B w0 w gj gp q dv ko kc p j) {V V' : Nat → Prop} (hv : ∀ x, V x → B ≤ x) (h1 : JC V' w1 gj gp q dv ko kc p' j') (h2 : JTo V w V' w1) : Kj B w0 w1 gj gp q dv ko kc p' j' := by
  have hz := Nat.le_trans h.sz h.be.size
  exact ⟨⟨V', h1, fun x hx => (h2.more x hx).elim (hv x) (fun h3 => Nat.le_trans hz h3)⟩, h.be.trans (h2.tu.below (fun x hx hn => by have := hv x hn; omega) hz), h.sz⟩
theorem Kj.call {F : FuncId} {args : Array Value} {e : Int} (h : Kj B w0 w gj gp q dv ko kc p j) (hc : ∀ V, JC V w gj gp q dv ko kc p j → (∀ x, V x → B ≤ x) → Calls Tryz.prog F args w (JPost V w gj gp q dv ko kc e p' j')) : Calls Tryz.prog F args w fun R w' => R = .returned (.int .i64 e) ∧ Kj B w0 w' gj gp q dv ko kc p' j' := by
  obtain ⟨V, h1, h2⟩ := h.jc
  refine (hc V h1 h2).mono fun R w' ⟨e1, V', k1, k2⟩ => ⟨e1, h.step h2 k1 k2⟩
end
attribute [local go_sem ↓] ld_found st_found ld_u64 ld_bool
set_option maxHeartbeats 8000000 in
theorem awake_c (w : World) (ht : Tab w) : Calls Tryz.prog 9 #[] w fun R w' => R = .returned (.bool true) ∧ Below w.heap.size w w' := by
  have HT := Lib.hid ht
  have KN : Hid (Calls Tryz.prog 10 #[.int .i64 5000] w (NewPost 5000 w)) := new_c 5000 w
  have hmaxu : Hid (1 < w.heap.size) := ht.1
  clear ht
  go_enter Tryz.func9, Tryz.ntmps9
  go_wp2_with fail
  refine KN.out.mono ?_
  rintro R w1 ⟨hb1, (⟨_, _, dv, rfl, hd1⟩ | ⟨h1, _⟩)⟩
  rotate_left
  · omega
  have hd1' : DkS (fun x => w.heap.size ≤ x ∧ x < w1.heap.size) w1 dv 5000 [] := hd1.mono fun x hx h => ⟨h, hx⟩
  have HB1 := Lib.hid hb1
  have HOC : Hid (Calls Tryz.prog 15 #[dv, .slice none 0 0] w1 (OdPost (fun x => w.heap.size ≤ x ∧ x < w1.heap.size) w1 5000 dv [] [])) := opened_c none [] 0 w1 hd1' (fun j hj => by cases hj) (by decide) aO_says.1 (tab_below HT.out hb1) (fun h => by have := hmaxu.out; omega) (fun x h => h.2)
  clear hd1 hd1' hb1 KN
  go_wp2_with fail
  refine HOC.out.mono ?_
  rintro R w2 ⟨gj, gp, ko, kc, co, cc, po, pc, io, ic, V2, rfl, hj2, hv2, ht2, _⟩
  have e0 : opR 5000 0 4 ⟨-1, [], 0, false, []⟩ = aO := rfl
  rw [e0] at hj2 ⊢
  have HB2 : Hid (Below w.heap.size w w2) := HB1.out.trans (ht2.below (fun x hx hs => by omega) HB1.out.size)
  have HK2 : Hid (Kj w.heap.size w w2 gj gp 5000 dv ko kc aO.p (opJ 4 aO)) := ⟨⟨V2, hj2, fun x hx => by
    have := HB1.out.size
    rcases hv2 x hx with h | h
    · exact h.1.1
    · omega⟩, HB2.out, Nat.le_refl _⟩
  obtain ⟨g3, w3, z3, s3, H3, q3⟩ := (Loc.nil (Nat.le_refl w2.heap.size)).newA ty_found #[.int .u64 0, .bool false, .slice none 0 0, .int .u64 0, .slice none 0 0, .slice none 0 0] (fcs aO co cc po pc io ic) rfl rfl rfl
  have l1 := H3.ldO ty_u64 0 rfl 0 (v := .int .u64 (aO.m.ep : Int)) rfl
  have l2 := H3.ldO ty_bool 0 rfl 1 (v := .bool aO.f) rfl
  have HK3 := Lib.hid (HK2.out.new (below_of_grown q3))
  rw [aO_says.2.1] at l1
  rw [aO_says.2.2.1] at l2
  have HT3 := Lib.hid (tab_below HT.out HK3.out.be)
  have K1 : Hid (Calls Tryz.prog 16 #[.pointer (some ⟨gj, 0, none⟩), .int .u64 0, .int .u8 5] w3 fun R w' => R = .returned (.int .i64 0) ∧ Kj w.heap.size w w' gj gp 5000 dv ko kc aW.p aW.j) := HK3.out.call fun V h _ => by
    have := jown_c 0 5 w3 h (by have := aO_says.2.2.2.1; omega) (by decide) HT3.out (by decide)
    rw [show (jOwn 5000 aO.p (opJ 4 aO) 0 5).e = 0 from aW_says.1] at this
    exact this
  clear H3 q3 hj2 hv2 ht2 e0 HOC
  have hb1 : ((((1 : Nat) : Int)) == 1) = true := rfl
  go_wp2_with fail
  refine K1.out.mono ?_
  rintro R w4 ⟨rfl, hk4⟩
  have HK4 := Lib.hid hk4
  have HT4 := Lib.hid (tab_below HT.out hk4.be)
  have K2 : Hid (Calls Tryz.prog 17 #[.pointer (some ⟨gj, 0, none⟩), .int .u64 0, .agg #[.int .u8 5, .int .u8 6]] w4 fun R w' => R = .returned (.int .i64 0) ∧ Kj w.heap.size w w' gj gp 5000 dv ko kc aS.p aS.j) := hk4.call fun V h _ => by
    have := jsure_c 0 5 6 w4 h (by have := aW_says.2.1; omega) (by have := aW_says.2.2; omega) HT4.out (by decide)
    rw [show (jSure 5000 aW.p aW.j 0 5 6).e = 0 from aS_says.1] at this
    exact this
  clear hk4 l1 l2 s3 z3 K1 hb1
  go_wp2_with fail
  refine K2.out.mono ?_
  rintro R w5 ⟨rfl, hk5⟩
  have HK5 := Lib.hid hk5
  clear hk5 K2
  obtain ⟨V5, hj5, hv5⟩ := HK5.out.jc
  have C1 : Hid (Calls Tryz.prog 18 #[.pointer (some ⟨gj, 0, none⟩)] w5 fun R w' => R = .returned (.int .u64 1) ∧ w5 = w') := by
    have := jcount_c w5 hj5
    rw [aS_says.2.2.1] at this
    exact this
  have C2 : Hid (Calls Tryz.prog 19 #[.pointer (some ⟨gj, 0, none⟩)] w5 fun R w' => R = .returned (.int .u64 0) ∧ w5 = w') := by
    have := jsynced_c w5 hj5
    rw [aS_says.2.2.2] at this
    exact this
  have K3 : Hid (Calls Tryz.prog 21 #[.pointer (some ⟨gj, 0, none⟩)] w5 fun R w' => R = .returned (.int .i64 0) ∧ Kj w.heap.size w w' gj gp 5000 dv ko kc aY.p aY.j) := HK5.out.call fun V h _ => by
    have := jsync_c w5 h (by have := aS_says.2.1; omega)
    rw [show (jSync 5000 aS.p aS.j).e = 0 from aY_says.1] at this
    exact this
  clear hj5 hv5
  go_wp2_with fail
  refine C1.out.mono ?_
  rintro R w' ⟨rfl, rfl⟩
  go_wp2_with fail
  refine C2.out.mono ?_
  rintro R w' ⟨rfl, rfl⟩
  go_wp2_with fail
  refine K3.out.mono ?_
  rintro R w6 ⟨rfl, hk6⟩
  have HK6 := Lib.hid hk6
  clear hk6 K3 C1 C2
  obtain ⟨V6, hj6, hv6⟩ := HK6.out.jc
  have C3 : Hid (Calls Tryz.prog 19 #[.pointer (some ⟨gj, 0, none⟩)] w6 fun R w' => R = .returned (.int .u64 1) ∧ w6 = w') := by
    have := jsynced_c w6 hj6
    rw [aY_says.2.1] at this
    exact this
  clear hj6 hv6
  go_wp2_with fail
  refine C3.out.mono ?_
  rintro R w' ⟨rfl, rfl⟩
  go_wp2
  go_ret
  exact ⟨rfl, HK6.out.be⟩
end Go.Proofs.YtgeaacabpnepmaaGreatDoor
/- The chapter's examples. -/
namespace Go.Proofs.YtgeaacabpnepmaaGreatDoor
open Go.RowKit
set_option linter.unusedVariables false
set_option linter.unusedSimpArgs false
set_option maxRecDepth 20000

attribute [local go_sem ↓] ld_pw ld_u64 ld_inps ld_man st_man ld_jp
end Go.Proofs.YtgeaacabpnepmaaGreatDoor
