/- Texts of the walk. -/
import Derived.Test.YtgeaacabpnepmaaGreatDoorKu8
import Derived.Test.YtgeaacabpnepmaaGreatDoorKj8
/- A manifest is swapped in, a segment begun. -/
namespace Go.Proofs.YtgeaacabpnepmaaGreatDoor
open Go.RowKit
set_option linter.unusedVariables false
set_option linter.unusedSimpArgs false
set_option maxRecDepth 20000

def mbl (m : Mf) (so co : Option Addr) (x : Nat) : Prop := (m.sg ≠ [] ∧ ∃ a, so = some a ∧ a.block = x) ∨ (m.ck ≠ [] ∧ ∃ a, co = some a ∧ a.block = x)
def swA (q : Nat) (p : Pw) (j : Jn) (m : Mf) (e2 : Int) (p2 : Pw) (j2 : Jn) : Ans := if swE q m p = 0 then ⟨e2, p2, j2.hold e2⟩ else ⟨(swE q m p : Nat), swP q m p, j.hold (swE q m p : Nat)⟩
def bgA (q : Nat) (p : Pw) (j : Jn) (m : Mf) (l : List Rc) (e2 : Int) (p2 : Pw) (j2 : Jn) : Ans := if SBE p q (hdM m) l = 0 then swA q (SBP p q (hdM m) l) j m e2 p2 j2 else ⟨SBE p q (hdM m) l, SBP p q (hdM m) l, j.hold (SBE p q (hdM m) l)⟩
section
variable {V : Nat → Prop} {w w1 : World} {gj gp q kc : Nat} {dv : Value} {ko : Option Addr} {p : Pw} {j : Jn} {S : Nat → Prop} {ao so co so2 co2 : Option Addr} {ac sc cc sc2 cc2 : Nat} {R : Ending} {m : Mf}
theorem mbl_lt (hm : MfAt w m so co) {x : Nat} (h : mbl m so co x) : x < w.heap.size := by
  rcases h with ⟨h0, a, e, rfl⟩ | ⟨h0, a, e, rfl⟩
  · exact hm.ps.lt h0 a e
  · exact hm.ns.lt h0 a e
theorem MfAt.tuV {T : Nat → Prop} (hm : MfAt w m so co) (k : Tu T w w1) (hT : ∀ x, mbl m so co x → ¬ T x) : MfAt w1 m so co :=
  ⟨hm.fit, hm.ps.tuS k fun h0 a e => hT _ (.inl ⟨h0, a, e, rfl⟩), hm.ns.tuS k fun h0 a e => hT _ (.inr ⟨h0, a, e, rfl⟩), hm.l1, hm.l2⟩
theorem JX.manned (hx : JX V w gj gp q dv ko kc p j S ao ac so2 sc2 co2 cc2) (k : w.grownBy w1 (some gj)) (hc : Cells w1 gj 69 (jcs gp { j with m := m } ao ac so sc co cc)) (hf : JnF { j with m := m }) (hm : MfAt w m so co) (hsc : m.sg.length ≤ sc ∧ sc ≤ maxLen)
    (hfar : ∀ x, mbl m so co x → ¬ V x) : JC (fun x => V x ∨ mbl m so co x) w1 gj gp q dv ko kc p { j with m := m } ∧ Tu V w w1 := by
  obtain ⟨h1, h0, h2, h3, h4, h6, h5⟩ := hx
  have kt : Tu (fun x => x = gj) w w1 := Tu.of_same k
  have hgj := h6 gj (.inl rfl)
  have hjs : ∀ x, jsl { j with m := m } ao so co x → (j.ah ≠ [] ∧ ∃ a, ao = some a ∧ a.block = x) ∨ mbl m so co x := fun x hx => hx
  have hah : ∀ x, (j.ah ≠ [] ∧ ∃ a, ao = some a ∧ a.block = x) → jsl j ao so2 co2 x := fun x hx => .inl hx
  refine ⟨⟨S, ao, ac, so, sc, co, cc, ⟨h1.tu kt (fun e => (h0.far gj (.inl rfl)).1 e.symm) (fun a e hn => (h4 a e hn).2 gj (.inl rfl)) (fun x _ hx e => (h0.far gj (.inl rfl)).2 (e ▸ hx)), ⟨hc, hf, h0.ins.tu kt fun hn a e => h0.nj _ (.inl ⟨hn, a, e, rfl⟩), hm.tuV kt fun x hx e => hfar x hx (e ▸ hgj), h0.cap, hsc, fun x hx => ?_, fun x hx => ?_⟩, .inl h2, fun x hx => .inl (h3 x hx), fun a e hn => ⟨.inl (h4 a e hn).1, fun x hx => ?_⟩, fun x hx => ?_, fun x hx => ?_⟩⟩, kt.mono fun x _ e => e ▸ hgj⟩
  · rcases hx with rfl | hx
    · exact h0.far _ (.inl rfl)
    · rcases hjs x hx with hx | hx
      · exact h0.far x (.inr (hah x hx))
      · exact ⟨fun e => hfar x hx (e ▸ h2), fun hS => hfar x hx (h3 x hS)⟩
  · rcases hjs x hx with hx | hx
    · exact h0.nj x (hah x hx)
    · exact fun e => hfar x hx (e ▸ hgj)
  · rcases hx with rfl | hx
    · exact (h4 a e hn).2 _ (.inl rfl)
    · rcases hjs x hx with hx | hx
      · exact (h4 a e hn).2 x (.inr (hah x hx))
      · exact fun e2 => hfar x hx (e2 ▸ (h4 a e hn).1)
  · rcases hx with rfl | hx
    · exact .inl hgj
    · rcases hjs x hx with hx | hx
      · exact .inl (h6 x (.inr (hah x hx)))
      · exact .inr hx
  · rcases hx with hx | hx
    · exact Nat.lt_of_lt_of_le (h5 x hx) kt.size
    · exact Nat.lt_of_lt_of_le (mbl_lt hm hx) kt.size
theorem JTo.wide {A V1 : Nat → Prop} (h : JTo V w V1 w1) : JTo (fun x => V x ∨ A x) w V1 w1 := ⟨fun x hx => (h.more x hx).imp .inl id, h.tu.mono fun x _ hx => .inl hx⟩
theorem JTo.both {A V1 : Nat → Prop} (h : JTo V w V1 w1) : JTo (fun x => V x ∨ A x) w (fun x => V1 x ∨ A x) w1 := ⟨fun x hx => by
  rcases hx with hx | hx
  · exact (h.more x hx).imp .inl id
  · exact .inl (.inr hx), h.tu.mono fun x _ hx => .inl hx⟩
theorem JTo.fars {V1 : Nat → Prop} (h : JTo V w V1 w1) {x : Nat} (hx : x < w.heap.size) (hn : ¬ V x) : ¬ V1 x := fun h1 => by
  rcases h.more x h1 with h2 | h2
  · exact hn h2
  · omega
attribute [local go_sem ↓] ld_pw ld_man st_man ld_rec st_rec ld_part st_part ld_int st_int ld_u64 st_u64 ld_u8 ld_bool
set_option maxHeartbeats 4000000 in
theorem jswap_c {K : Nat} {cap : Array Value} {e2 : Int} {p2 : Pw} {j2 : Jn} (hin : ∀ (args : Array Value) (w : World), (callFunc K args).run Tryz.prog w = .ok (.enter K args) w) (w : World) (h : JC V w gj gp q dv ko kc p j) (hm : MfAt w m so co) (hsc : m.sg.length ≤ sc ∧ sc ≤ maxLen)
    (hfar : ∀ x, mbl m so co x → ¬ V x) (hjf : JnF { j with m := m }) (hpn : p.n + 5 < 1000000) (ht : Tab w)
    (hth : swE q m p = 0 → ∀ w1 V1, JC V1 w1 gj gp q dv ko kc (swP q m p) { j with m := m } → JTo (fun x => V x ∨ mbl m so co x) w V1 w1 → MfAt w1 m so co → Calls Tryz.prog K cap w1 (JPost V1 w1 gj gp q dv ko kc e2 p2 j2)) :
    Calls Tryz.prog 75 #[.pointer (some ⟨gj, 0, none⟩), .agg (mcs m so sc co cc), .func (.func K) #[] cap] w (JPost (fun x => V x ∨ mbl m so co x) w gj gp q dv ko kc (swA q p j m e2 p2 j2).e (swA q p j m e2 p2 j2).p (swA q p j m e2 p2 j2).j) := by
  have HML := Lib.hid (fun x (hx : mbl m so co x) => mbl_lt hm hx)
  have HSC := Lib.hid hsc
  have HFAR := Lib.hid hfar
  have HJF := Lib.hid hjf
  have HPN := Lib.hid hpn
  have HTH := Lib.hid hth
  have H0 := Loc.one w 60 (mcs m so sc co cc)
  have HJ0 := Lib.hid (h.new H0.be)
  have HT0 := Lib.hid (tab_below ht H0.be)
  have HM0 := Lib.hid (hm.to H0.be)
  have HB0 := Lib.hid H0.be
  have HVL := Lib.hid h.lt
  have HC0 : Hid (Cells _ w.heap.size 60 (mcs m so sc co cc)) := H0.get 0 rfl
  obtain ⟨Q, hQ⟩ : ∃ Q : Ending → World → Prop, Q = JPost (fun x => V x ∨ mbl m so co x) w gj gp q dv ko kc (swA q p j m e2 p2 j2).e (swA q p j m e2 p2 j2).p (swA q p j m e2 p2 j2).j := ⟨_, rfl⟩
  rw [← hQ]
  have HQ := Lib.hid hQ
  clear h hm hsc hfar hjf hpn ht hth H0 hQ
  go_enter Tryz.func75, Tryz.ntmps75
  go_upto_region 1 with fail
  generalize w.alloc (.cells (mcs m so sc co cc) 60) = wa at *
  obtain ⟨wd, hwd⟩ : ∃ wd, ({ wa with drawn := wa.drawn + 1 } : World) = wd := ⟨_, rfl⟩
  have hbd : Below wa.heap.size wa wd := by rw [← hwd]; exact (Below.refl _ wa).drew
  have HBd := Lib.hid (HB0.out.trans (hbd.mono HB0.out.size))
  have HJd := Lib.hid (HJ0.out.new hbd)
  have HTd := Lib.hid (tab_below HT0.out hbd)
  have HMd := Lib.hid (HM0.out.to hbd)
  have HCd := Lib.hid (cells_new HC0.out hbd)
  clear hbd HB0 HJ0 HT0 HM0 HC0
  obtain ⟨S, ao, ac, so2, sc2, co2, cc2, hx⟩ := HJd.out
  have l1 := run_ldO ty_pw hx.jn.blk 0 (v := .pointer (some ⟨gp, 0, none⟩)) rfl
  have l2 : (ldT 60 (.pointer (some ⟨w.heap.size, 0, none⟩))).run Tryz.prog wd = .ok (.agg (mcs m so sc co cc)) wd := run_ldA ty_man HCd.out 0 (Nat.le_of_ble_eq_true rfl)
  have HNM := Lib.hid HJd.out.names
  obtain ⟨S1, hp1, hS1, hb1⟩ := hx.open
  have HP1 := Lib.hid hp1
  have HS1 := Lib.hid hS1
  have HBK := Lib.hid hb1
  clear hx hp1 hS1 hb1
  refine wp_region_still_tail 5 (by kernel_rfl) (by kernel_rfl) ?_
  simp only [List.take_succ_cons, List.take_zero, List.drop_succ_cons, List.drop_zero]
  rw [hwd]
  clear hwd
  repeat still_step
  refine wpStill_nil ?_
  clear l1 l2
  go_wp2_with fail
  refine (swap_c m so sc co cc wd HP1.out HS1.out HMd.out HPN.out (Nat.le_trans HNM.out.1 (by decide)) HTd.out).mono ?_
  rintro R w2 ⟨rfl, hp2, ht2⟩
  obtain ⟨V2, S2, hx2, hj2⟩ := HBK.out w2 _ hp2 (swP_ks _ _ _) ht2
  have HX2 := Lib.hid hx2
  have HJ2 := Lib.hid hj2
  have HTO2 := Lib.hid ((JTo.new (V := V) HBd.out).trans hj2)
  have HC2 := Lib.hid (Cells.tu HCd.out hj2.tu (fun hv => by have := HVL.out _ hv; omega))
  have HM2 := Lib.hid (HMd.out.tuV hj2.tu HFAR.out)
  clear hp2 ht2 hx2 hj2 HP1 HS1 HBK
  by_cases he : swE q m p = 0
  case neg =>
    have HFin : Hid (∀ w3 V3, JC V3 w3 gj gp q dv ko kc (swP q m p) (j.hold (swE q m p : Nat)) → JTo V2 w2 V3 w3 → Q (.returned (.int .i64 (swE q m p : Nat))) w3) := fun w3 V3 h3 t3 => by
      rw [HQ.out, show swA q p j m e2 p2 j2 = ⟨(swE q m p : Nat), swP q m p, j.hold (swE q m p : Nat)⟩ from if_neg he]
      exact ⟨rfl, V3, h3, (HTO2.out.trans t3).wide⟩
    generalize swE q m p = e at *
    have hq : ((e : Int) != 0) = true := by rw [bne_iff_ne]; omega
    clear he HTH
    go_wp2_with fail
    refine (hold_c (e : Int) w2 ⟨S2, ao, ac, so2, sc2, co2, cc2, HX2.out⟩).mono ?_
    rintro R w3 ⟨rfl, V3, h3, t3⟩
    have HF := Lib.hid (HFin.out w3 V3 h3 t3)
    clear h3 t3
    go_wp2
    exact HF.out
  case pos =>
    have hq : (((swE q m p : Nat) : Int) != 0) = false := by rw [he]; rfl
    have hsa : swA q p j m e2 p2 j2 = ⟨e2, p2, j2.hold e2⟩ := if_pos he
    rw [hsa] at HQ
    have HH := Lib.hid (HTH.out he)
    generalize swE q m p = e at *
    have l2 : (ldT 60 (.pointer (some ⟨w.heap.size, 0, none⟩))).run Tryz.prog w2 = .ok (.agg (mcs m so sc co cc)) w2 := run_ldA ty_man HC2.out 0 (Nat.le_of_ble_eq_true rfl)
    obtain ⟨w3, s3, c3, q3, z3⟩ := cells_stA ty_man HX2.out.jn.blk 6 (mcs m so sc co cc) (Nat.le_of_ble_eq_true rfl) rfl (mcs_one _ _ _ _ _) (cs' := jcs gp { j with m := m } ao ac so sc co cc) rfl
    have hmn := HX2.out.manned q3 c3 HJF.out HM2.out HSC.out (fun x hx => HTO2.out.fars (HML.out x hx) (HFAR.out x hx))
    have HJ3 := Lib.hid hmn.1
    have HTO3 : Hid (JTo (fun x => V x ∨ mbl m so co x) w (fun x => V2 x ∨ mbl m so co x) w3) := (HTO2.out.both (A := mbl m so co)).trans ⟨fun x hx => .inl hx, hmn.2.mono fun x _ hx => .inl hx⟩
    have HK := Lib.hid (HH.out w3 _ HJ3.out HTO3.out (HM2.out.tuV (Tu.of_same q3) (fun x hx e => (HTO2.out.fars (HML.out x hx) (HFAR.out x hx)) (e ▸ HX2.out.vj gj (.inl rfl)))))
    clear hsa he hmn c3 q3 z3 HTH HH HX2 HJ2 HC2 HM2 HJ3
    go_wp2_with fail
    refine HK.out.mono ?_
    rintro R w4 ⟨rfl, V4, hj4, ht4⟩
    have HJ4 := Lib.hid hj4
    have HTO4 := Lib.hid (HTO3.out.trans ht4)
    clear hj4 ht4 HK s3 l2
    go_wp2_with fail
    refine (hold_c e2 w4 HJ4.out).mono ?_
    rintro R w5 ⟨rfl, V5, hj5, ht5⟩
    have HFin : Hid (Q (.returned (.int .i64 e2)) w5) := by
      show Q _ _
      rw [HQ.out]
      exact ⟨rfl, V5, hj5, HTO4.out.trans ht5⟩
    clear hj5 ht5
    go_wp2
    exact HFin.out
end
end Go.Proofs.YtgeaacabpnepmaaGreatDoor
/- A segment is begun. -/
namespace Go.Proofs.YtgeaacabpnepmaaGreatDoor
open Go.RowKit
set_option linter.unusedVariables false
set_option linter.unusedSimpArgs false
set_option maxRecDepth 20000

end Go.Proofs.YtgeaacabpnepmaaGreatDoor
/- Lists are cloned. -/
namespace Go.Proofs.YtgeaacabpnepmaaGreatDoor
open Go.RowKit
set_option linter.unusedVariables false
set_option linter.unusedSimpArgs false
set_option maxRecDepth 20000

theorem ps_news {w : World} {b o : Nat} {l : List (Nat × Nat)} (h : PsAt w (some ⟨b, o, none⟩) l) : ∀ j u, (Gpl l)[j]? = some u → w.cell? ((⟨b, o, none⟩ : Addr).add j) = some u := fun j u hu => by
  have hj : j < (Gpl l).length := (List.getElem?_eq_some_iff.1 hu).1
  rw [Gpl_len] at hj
  have hk : j / 2 < l.length := by omega
  have hi : j % 2 < (gpv (l[j / 2]'hk)).length := Nat.mod_lt _ (by decide)
  have hv := List.getElem?_eq_getElem hi
  have h1 := Gpl_at l (j / 2) (j % 2) hk _ hv
  rw [show j / 2 * 2 + j % 2 = j by omega, hu] at h1
  obtain ⟨b', o', e, hc⟩ := h (j / 2) hk
  cases e
  have hj2 : o + j / 2 * 2 + j % 2 = o + j := by omega
  rw [show (⟨b, o, none⟩ : Addr).add j = ⟨b, o + j / 2 * 2 + j % 2, none⟩ from by rw [hj2]; simp [Addr.add]]
  rw [h1]
  exact hc _ _ hv
theorem nn_news {w : World} {b o : Nat} {l : List Nat} (h : NsAt w (some ⟨b, o, none⟩) l) : ∀ j u, (Gnl l)[j]? = some u → w.cell? ((⟨b, o, none⟩ : Addr).add j) = some u := fun j u hu => by
  have hj : j < (Gnl l).length := (List.getElem?_eq_some_iff.1 hu).1
  rw [Gnl_len, Nat.mul_one] at hj
  have h1 := Gnl_at l j 0 hj _ (rfl : (gnv (l[j]'hj))[0]? = some _)
  rw [show j * 1 + 0 = j by omega, hu] at h1
  obtain ⟨b', o', e, hc⟩ := h j hj
  cases e
  rw [show (⟨b, o, none⟩ : Addr).add j = ⟨b, o + j * 1 + 0, none⟩ from by simp [Addr.add]]
  rw [h1]
  exact hc _ _ rfl
theorem PsAt.nilOf {w : World} {l : List (Nat × Nat)} (h : PsAt w none l) : l = [] := by
  rcases l with _ | ⟨k, r⟩
  · rfl
  · obtain ⟨b, o, e, _⟩ := h 0 (by simp); cases e
theorem NsAt.nilOf {w : World} {l : List Nat} (h : NsAt w none l) : l = [] := by
  rcases l with _ | ⟨k, r⟩
  · rfl
  · obtain ⟨b, o, e, _⟩ := h 0 (by simp); cases e
theorem InAt.nilOf {w : World} {l : List Nat} (h : InAt w none l) : l = [] := by
  rcases l with _ | ⟨k, r⟩
  · rfl
  · obtain ⟨b, o, e, _⟩ := h 0 (by simp); cases e
theorem told_ins {T : TypeId} {w : World} {B n cap : Nat} {ao : Option Addr} {l : List Nat} (h : w.ownsRow B T 1 (.slice ao n cap) l.length (l.map fun y : Nat => Value.int .u8 (y : Int))) (hn : l.length = n) : InAt w ao l ∧ (∀ a, ao = some a → B ≤ a.block ∧ a.block < w.heap.size) ∧ n ≤ cap ∧ cap ≤ maxLen ∧ (ao = none → cap = 0) := by
  obtain ⟨ao2, cap2, e, h1, h2, h3, h4, h5⟩ := inAt_row h
  cases e
  exact ⟨h1, h2, by omega, h4, h5⟩
theorem PsAt.ptr {w : World} {b : Addr} {l : List (Nat × Nat)} (h : PsAt w (some b) l) (h0 : l ≠ []) : ∃ x o, b = ⟨x, o, none⟩ := by
  obtain ⟨x, o, e, _⟩ := h 0 (List.length_pos_iff.2 h0)
  cases e; exact ⟨x, o, rfl⟩
theorem NsAt.ptr {w : World} {b : Addr} {l : List Nat} (h : NsAt w (some b) l) (h0 : l ≠ []) : ∃ x o, b = ⟨x, o, none⟩ := by
  obtain ⟨x, o, e, _⟩ := h 0 (List.length_pos_iff.2 h0)
  cases e; exact ⟨x, o, rfl⟩
def ClnPost (At : World → Option Addr → Prop) (T : TypeId) (k : Nat) (xs : List Value) (n : Nat) (w : World) (R : Ending) (w' : World) : Prop := ∃ ao ac, R = .returned (.slice ao n ac) ∧ At w' ao ∧ (∀ a, ao = some a → w.heap.size ≤ a.block ∧ a.block < w'.heap.size) ∧ n ≤ ac ∧ ac ≤ maxLen ∧ Below w.heap.size w w' ∧ w'.ownsRow w.heap.size T k (.slice ao n ac) n xs
set_option maxHeartbeats 2000000 in
theorem pclone_c (ao : Option Addr) (l : List (Nat × Nat)) (cap : Nat) (w : World) (hi : PsAt w ao l) (hl : l.length ≤ 200000) :
    Calls Tryz.prog 67 #[.slice ao l.length cap] w (ClnPost (fun W a => PsAt W a l) 122 2 (Gpl l) l.length w) := by
  obtain ⟨i0, hi0, hz0, hz1, hz2⟩ := Go.info_parts (P := Tryz.prog) (e := 122) (z := (.agg #[.int .u64 0, .int .u64 0])) (size := 2) (bytes := 16) (by kernel_rfl)
  have q22 : ∀ (w : World) (a : Option Addr) (n c n' c' : Nat), (binOp .eql 58 (.slice a n c) (.slice none n' c')).run Tryz.prog w = .ok (.bool a.isNone) w := fun w a n c n' c' => Lib.run_eql_slice_nil w _ _ a n c n' c' Tryz.underlying58
  have HI := Lib.hid hi
  have HL := Lib.hid hl
  cases ao with
  | none =>
    have h0 : l = [] := hi.nilOf
    subst h0
    clear hi hl
    go_enter Tryz.func67, Tryz.ntmps67
    go_wp2
    go_ret
    exact ⟨none, 0, rfl, PsAt.nil _ _, fun a e => (by cases e), Nat.le_refl _, Nat.zero_le _, Below.refl _ w, World.ownsRow_nil _ _ _ _⟩
  | some ad =>
    have hcells : ∀ j u, (Gpl l)[j]? = some u → w.cell? (ad.add j) = some u := fun j u hj => by
      have h0 : l ≠ [] := fun e => by subst e; cases hj
      obtain ⟨x, o, rfl⟩ := hi.ptr h0
      exact ps_news hi j u hj
    have HC := Lib.hid hcells
    clear hi hl hcells
    go_enter Tryz.func67, Tryz.ntmps67
    go_wp2_with (at_builtin; refine wpList_append_own _ rfl _ _ 58 rfl w.heap.size 122 i0 (.agg #[.int .u64 0, .int .u64 0]) 2 16 Tryz.underlying58 hi0 hz0 hz1 hz2 rfl (by decide) _ _ _ rfl (World.ownsRow_made w #[] 0 (Nat.le_refl _) (Nat.zero_le _) rfl) ad l.length cap (Gpl l) rfl ?qc1 ?qc2 ?qc3 ?qc4 ?qc5 ?qc6 ?_)
    case qc1 => simp [Gpl_len]
    case qc2 => intro j u hj; exact Lib.cell?_alloc_some _ (HC.out j u hj)
    case qc3 => exact Gpl_one l
    case qc4 => have := HL.out; unfold maxLen; omega
    case qc5 => have := HL.out; omega
    case qc6 => simp
    intro v' w1 hown hgrow _
    go_wp2
    go_ret
    have hown2 : w1.ownsRow w.heap.size 122 2 v' l.length (Gpl l) := by simpa using hown
    obtain ⟨ao2, n2, ac2, rfl⟩ : ∃ a n c, v' = .slice a n c := by
      rcases hown2.2 with ⟨e, _⟩ | ⟨g, cp, cur, e, _⟩
      · exact ⟨_, _, _, e⟩
      · exact ⟨_, _, _, e⟩
    obtain rfl : n2 = l.length := by
      rcases hown2.2 with ⟨e, h0⟩ | ⟨g, cp, cur, e, _⟩
      · cases e; omega
      · cases e; rfl
    obtain ⟨h1, h2, h3, h4, _⟩ := told_part (T := 122) (bs := []) ⟨hown2, fun _ h => (by cases h), fun _ h => (by cases h)⟩ rfl
    exact ⟨ao2, ac2, rfl, h1, h2, h3, h4, ((Below.refl _ w).alloc (Nat.le_refl _) _).grown hgrow (by simp) (by intro k hk; simp [Value.ownBlock] at hk; omega), hown2⟩
set_option maxHeartbeats 2000000 in
theorem nclone_c (ao : Option Addr) (l : List Nat) (cap : Nat) (w : World) (hi : NsAt w ao l) (hl : l.length ≤ 200000) :
    Calls Tryz.prog 68 #[.slice ao l.length cap] w (ClnPost (fun W a => NsAt W a l) 37 1 (Gnl l) l.length w) := by
  obtain ⟨i0, hi0, hz0, hz1, hz2⟩ := Go.info_parts (P := Tryz.prog) (e := 37) (z := (.int .u64 0)) (size := 1) (bytes := 8) (by kernel_rfl)
  have q22 : ∀ (w : World) (a : Option Addr) (n c n' c' : Nat), (binOp .eql 41 (.slice a n c) (.slice none n' c')).run Tryz.prog w = .ok (.bool a.isNone) w := fun w a n c n' c' => Lib.run_eql_slice_nil w _ _ a n c n' c' Tryz.underlying41
  have HI := Lib.hid hi
  have HL := Lib.hid hl
  cases ao with
  | none =>
    have h0 : l = [] := hi.nilOf
    subst h0
    clear hi hl
    go_enter Tryz.func68, Tryz.ntmps68
    go_wp2
    go_ret
    exact ⟨none, 0, rfl, NsAt.nil _ _, fun a e => (by cases e), Nat.le_refl _, Nat.zero_le _, Below.refl _ w, World.ownsRow_nil _ _ _ _⟩
  | some ad =>
    have hcells : ∀ j u, (Gnl l)[j]? = some u → w.cell? (ad.add j) = some u := fun j u hj => by
      have h0 : l ≠ [] := fun e => by subst e; cases hj
      obtain ⟨x, o, rfl⟩ := hi.ptr h0
      exact nn_news hi j u hj
    have HC := Lib.hid hcells
    clear hi hl hcells
    go_enter Tryz.func68, Tryz.ntmps68
    go_wp2_with (at_builtin; refine wpList_append_own _ rfl _ _ 41 rfl w.heap.size 37 i0 (.int .u64 0) 1 8 Tryz.underlying41 hi0 hz0 hz1 hz2 rfl (by decide) _ _ _ rfl (World.ownsRow_made w #[] 0 (Nat.le_refl _) (Nat.zero_le _) rfl) ad l.length cap (Gnl l) rfl ?qc1 ?qc2 ?qc3 ?qc4 ?qc5 ?qc6 ?_)
    case qc1 => simp [Gnl_len]
    case qc2 => intro j u hj; exact Lib.cell?_alloc_some _ (HC.out j u hj)
    case qc3 => exact Gnl_one l
    case qc4 => have := HL.out; unfold maxLen; omega
    case qc5 => have := HL.out; omega
    case qc6 => simp
    intro v' w1 hown hgrow _
    go_wp2
    go_ret
    have hown2 : w1.ownsRow w.heap.size 37 1 v' l.length (Gnl l) := by simpa using hown
    obtain ⟨ao2, n2, ac2, rfl⟩ : ∃ a n c, v' = .slice a n c := by
      rcases hown2.2 with ⟨e, _⟩ | ⟨g, cp, cur, e, _⟩
      · exact ⟨_, _, _, e⟩
      · exact ⟨_, _, _, e⟩
    obtain rfl : n2 = l.length := by
      rcases hown2.2 with ⟨e, h0⟩ | ⟨g, cp, cur, e, _⟩
      · cases e; omega
      · cases e; rfl
    obtain ⟨h1, h2, h3, h4, _⟩ := told_num (T := 37) (bs := []) ⟨hown2, fun _ h => (by cases h), fun _ h => (by cases h)⟩ rfl
    exact ⟨ao2, ac2, rfl, h1, h2, h3, h4, ((Below.refl _ w).alloc (Nat.le_refl _) _).grown hgrow (by simp) (by intro k hk; simp [Value.ownBlock] at hk; omega), hown2⟩
set_option maxHeartbeats 2000000 in
theorem inclone_c (ao : Option Addr) (l : List Nat) (cap : Nat) (w : World) (hi : InAt w ao l) (hl : l.length ≤ 200000) :
    Calls Tryz.prog 83 #[.slice ao l.length cap] w (ClnPost (fun W a => InAt W a l) 38 1 (l.map fun y : Nat => Value.int .u8 (y : Int)) l.length w) := by
  obtain ⟨i0, hi0, hz0, hz1, hz2⟩ := Go.info_parts (P := Tryz.prog) (e := 38) (z := (.int .u8 0)) (size := 1) (bytes := 1) (by kernel_rfl)
  have q22 : ∀ (w : World) (a : Option Addr) (n c n' c' : Nat), (binOp .eql 47 (.slice a n c) (.slice none n' c')).run Tryz.prog w = .ok (.bool a.isNone) w := fun w a n c n' c' => Lib.run_eql_slice_nil w _ _ a n c n' c' Tryz.underlying47
  have HI := Lib.hid hi
  have HL := Lib.hid hl
  cases ao with
  | none =>
    have h0 : l = [] := hi.nilOf
    subst h0
    clear hi hl
    go_enter Tryz.func83, Tryz.ntmps83
    go_wp2
    go_ret
    exact ⟨none, 0, rfl, InAt.nil _ _, fun a e => (by cases e), Nat.le_refl _, Nat.zero_le _, Below.refl _ w, World.ownsRow_nil _ _ _ _⟩
  | some ad =>
    have hcells : ∀ j u, (l.map fun y : Nat => Value.int .u8 (y : Int))[j]? = some u → w.cell? (ad.add j) = some u := fun j u hj => by
      have h0 : l ≠ [] := fun e => by subst e; cases hj
      exact hi.news j u hj
    have HC := Lib.hid hcells
    clear hi hl hcells
    go_enter Tryz.func83, Tryz.ntmps83
    go_wp2_with (at_builtin; refine wpList_append_own _ rfl _ _ 47 rfl w.heap.size 38 i0 (.int .u8 0) 1 1 Tryz.underlying47 hi0 hz0 hz1 hz2 rfl (by decide) _ _ _ rfl (World.ownsRow_made w #[] 0 (Nat.le_refl _) (Nat.zero_le _) rfl) ad l.length cap (l.map fun y : Nat => Value.int .u8 (y : Int)) rfl ?qc1 ?qc2 ?qc3 ?qc4 ?qc5 ?qc6 ?_)
    case qc1 => simp
    case qc2 => intro j u hj; exact Lib.cell?_alloc_some _ (HC.out j u hj)
    case qc3 => intro u hu; obtain ⟨x, _, rfl⟩ := List.mem_map.1 hu; rfl
    case qc4 => have := HL.out; unfold maxLen; omega
    case qc5 => have := HL.out; omega
    case qc6 => simp
    intro v' w1 hown hgrow _
    go_wp2
    go_ret
    have hown2 : w1.ownsRow w.heap.size 38 1 v' l.length (l.map fun y : Nat => Value.int .u8 (y : Int)) := by simpa using hown
    obtain ⟨ao2, n2, ac2, rfl⟩ : ∃ a n c, v' = .slice a n c := by
      rcases hown2.2 with ⟨e, _⟩ | ⟨g, cp, cur, e, _⟩
      · exact ⟨_, _, _, e⟩
      · exact ⟨_, _, _, e⟩
    obtain rfl : n2 = l.length := by
      rcases hown2.2 with ⟨e, h0⟩ | ⟨g, cp, cur, e, _⟩
      · cases e; omega
      · cases e; rfl
    obtain ⟨h1, h2, h3, h4, _⟩ := told_ins hown2 rfl
    exact ⟨ao2, ac2, rfl, h1, h2, h3, h4, ((Below.refl _ w).alloc (Nat.le_refl _) _).grown hgrow (by simp) (by intro k hk; simp [Value.ownBlock] at hk; omega), hown2⟩
end Go.Proofs.YtgeaacabpnepmaaGreatDoor
/- A region that asks the tape for its order, some of whose operations write what others read: what is asked of the world (S) is asked only as long as one of K is still to come up. Nothing of the program. -/
namespace Go.Proofs.YtgeaacabpnepmaaGreatDoor
open Go.RowKit
set_option linter.unusedVariables false

def dOf (K : List Nat) (l : Array Bool) : Bool := K.any fun k => !l.getD k true
section
variable {P : Program} {ops : Array Oper} {Q : Exit → Act → World → Prop} {md : Region.Mode} {S : World → Prop} {K : List Nat}
def wpTo (P : Program) (md : Region.Mode) (ops : Array Oper) (Q : Exit → Act → World → Prop) (S : World → Prop) (K : List Nat) : Nat → Array Bool → Act → World → Prop
  | 0, listed, a, w => Region.ready md ops listed = [] ∧ Q .normal a w
  | n + 1, listed, a, w =>
    (Region.ready md ops listed = [] → Q .normal a w) ∧ (dOf K listed = true → S w) ∧
      ∀ i, i ∈ Region.ready md ops listed → wpOp P ops Q i (fun a' w' => wpTo P md ops Q S K n (listed.setIfInBounds i true) a' w') a w
theorem wpTo_any : ∀ (n : Nat) (listed : Array Bool) (a : Act) (w : World), wpTo P md ops Q S K n listed a w → wpAny P md ops Q n listed a w
  | 0, _, _, _, h => h
  | n + 1, _, _, _, h => ⟨h.1, fun i hi => wpOp_mono (fun a' w' k => wpTo_any n _ a' w' k) (h.2.2 i hi)⟩
theorem wp_region_to {id : Nat} {a : Act} {w : World} (hm : P.follows .mixedOrders = true)
    (h : wpTo P .any ops Q S K ops.size (Array.replicate ops.size false) a w.drew) : (Code.region id ops true).wp P Q a w :=
  wp_region_any hm (wpTo_any _ _ _ _ h)
theorem wpTo_done {n : Nat} {listed : Array Bool} {a : Act} {w : World} (hr : Region.ready md ops listed = []) (hd : dOf K listed = false) (h : Q .normal a w) : wpTo P md ops Q S K n listed a w := by
  cases n with
  | zero => exact ⟨hr, h⟩
  | succ n => exact ⟨fun _ => h, fun k => (by rw [hd] at k; cases k), fun i hi => by rw [hr] at hi; cases hi⟩
theorem wpTo_off {b : Bool} {p : Prop} (h : b = false) : b = true → p := fun k => by rw [h] at k; cases k
theorem wpTo_run {i n : Nat} {o : Oper} {listed : Array Bool} {a : Act} {w : World} (hr : Region.ready md ops listed = [i]) (ho : ops[i]? = some o) (hS : dOf K listed = true → S w)
    (h : ∀ K' : Act → World → Prop, (∀ a' w', wpTo P md ops Q S K n (listed.setIfInBounds i true) a' w' → K' a' w') → if Region.wanted o (yielded ops a.tmps) = true then Oper.wp P o a w K' Q else K' (a.put o.dst undef) w) :
    wpTo P md ops Q S K (n + 1) listed a w :=
  ⟨fun k => (by rw [hr] at k; cases k), hS, fun j hj => by
    rw [hr, List.mem_singleton] at hj
    subst hj
    exact wpOp_step ho h⟩
def takeK (md : Region.Mode) (ops : Array Oper) (K : List Nat) (listed : Array Bool) (i : Nat) : Bool :=
  Region.noSelect ops && orderedB md ops && decide (listed.size = ops.size) && (Region.free md ops listed i && (Region.ready md ops listed).contains i) &&
    K.any fun k => Region.waitsFor md ops k i && !listed.getD k true && decide (k < ops.size)
theorem takeK_first {i k : Nat} {oi : Oper} {v : Value} (hi : ops[i]? = some oi) (hsel : Region.noSelect ops = true) (hord : orderedB md ops = true)
    (hQ : ∀ c a w, Q (.panic c) (a.put oi.dst v) w → Q (.panic c) a w) (hwk : Region.waitsFor md ops k i = true) (hki : k ≠ i) (hks : k < ops.size) (hkK : k ∈ K) :
    ∀ (n : Nat) (listed : Array Bool) (a : Act) (w : World), listed.size = ops.size → listed.getD k true = false →
      (∀ j oj, ops[j]? = some oj → j ≠ i → listed.getD j true = false → (∀ e ∈ oj.after, Region.binds md e = true → e.on ≠ i) → oi.apart ops oj = true) →
      i ∈ Region.ready md ops listed → YieldsIf P ops S oi v a → S w →
      wpTo P md ops Q S K n (listed.setIfInBounds i true) (a.put oi.dst v) w → wpTo P md ops Q S K (n + 1) listed a w
  | n, listed, a, w, hz, hku, hfree, hr, hy, hS, H => by
    have hiu := (mem_ready.1 hr).1
    refine ⟨fun h0 => (by rw [h0] at hr; cases hr), fun _ => hS, fun j hj => ?_⟩
    by_cases hji : j = i
    · subst hji
      exact hy.wpOp hi hS H
    · have hjr := ready_mono hj hji
      have hjk : j ≠ k := fun e => waits_not_ready hwk hiu (e ▸ hj)
      cases n with
      | zero => rw [H.1] at hjr; cases hjr
      | succ n =>
        obtain ⟨hju, oj, hoj, hall⟩ := mem_ready.1 hj
        have hap := hfree j oj hoj hji hju (fun e he hb heq => by
          have := hall e he hb
          rw [heq, getD_both hiu] at this
          cases this)
        have h2 := wpOp_putIf (S := S) hoj hap (fun cs b => Region.noSelect_spec hsel i oi cs b hi) (fun cs b => Region.noSelect_spec hsel j oj cs b hoj) hQ hy (H.2.2 j hjr)
        have hzj : (listed.setIfInBounds j true).size = ops.size := by simpa using hz
        have hkj : (listed.setIfInBounds j true).getD k true = false := by rw [getD_set_ne true hjk]; exact hku
        refine wpOp_mono (fun a' w' h3 => ?_) h2
        have h4 := h3.2
        rw [Array.setIfInBounds_comm _ _ (Ne.symm hji)] at h4
        have hkz : ((listed.setIfInBounds j true).setIfInBounds i true).getD k true = false := by rw [getD_set_ne true (Ne.symm hki)]; exact hkj
        have hsome := ready_some hord (listed := (listed.setIfInBounds j true).setIfInBounds i true) (by simpa using hz) k hks hkz
        have hS' : S w' := by
          cases n with
          | zero => exact absurd h4.1 hsome
          | succ n => exact h4.2.1 (List.any_eq_true.2 ⟨k, hkK, by rw [hkz]; rfl⟩)
        refine takeK_first hi hsel hord hQ hwk hki hks hkK n _ a' w' hzj hkj (fun l ol hl hli hlu hno => hfree l ol hl hli ?_ hno) (ready_mono hr (Ne.symm hji)) h3.1 hS' h4
        by_cases hjl : j = l
        · subst hjl; exact hju
        · rw [getD_set_ne true hjl] at hlu; exact hlu
theorem wpTo_take {i n : Nat} {oi : Oper} {v : Value} {listed : Array Bool} {a : Act} {w : World} (hi : ops[i]? = some oi) (hB : takeK md ops K listed i = true)
    (hQ : ∀ c a w, Q (.panic c) (a.put oi.dst v) w → Q (.panic c) a w) (hy : YieldsIf P ops S oi v a) (hS : S w)
    (h : wpTo P md ops Q S K n (listed.setIfInBounds i true) (a.put oi.dst v) w) : wpTo P md ops Q S K (n + 1) listed a w := by
  simp only [takeK, Bool.and_eq_true, decide_eq_true_eq, List.any_eq_true, Bool.not_eq_true'] at hB
  obtain ⟨⟨⟨⟨hsel, hord⟩, hz⟩, hf, hr⟩, k, hkK, ⟨hwk, hku⟩, hks⟩ := hB
  have hr' : i ∈ Region.ready md ops listed := by simpa using hr
  have hki : k ≠ i := by
    rintro rfl
    obtain ⟨o, ho, e, he, hb, hon⟩ := Region.waitsFor_spec hwk
    have := ordered_spec hord ho he hb
    omega
  exact takeK_first hi hsel hord hQ hwk hki hks hkK n listed a w hz hku (Region.free_spec hi hf) hr' hy hS h
end
end Go.Proofs.YtgeaacabpnepmaaGreatDoor
