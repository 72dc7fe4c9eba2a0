/- What CheckpointKnown comes upon, in plain words: the disk between its steps; a power and its disk, step by step. -/
import Derived.Test.YtacgmadgkmcmoaaGreatDoorJk
import Derived.Test.YtacgmadgkmcmoaaGreatDoorJe
import Derived.Test.YtacgmadgkmcmoaaGreatDoorJu
namespace Go.Proofs.YtacgmadgkmcmoaaGreatDoor
open Go.RowKit
set_option linter.unusedVariables false
set_option linter.unusedSimpArgs false
set_option maxRecDepth 20000

abbrev c5 : List UInt8 := cN 5
abbrev c6 : List UInt8 := cN 6
abbrev c7 : List UInt8 := cN 7
abbrev c8 : List UInt8 := cN 8
abbrev x8 : List UInt8 := cF 8
theorem v56 : (c5 == c6) = false := by decide
theorem v57 : (c5 == c7) = false := by decide
theorem v58 : (c5 == c8) = false := by decide
theorem v5x : (c5 == x8) = false := by decide
theorem v67 : (c6 == c7) = false := by decide
theorem v6x : (c6 == x8) = false := by decide
theorem v7x : (c7 == x8) = false := by decide
theorem u56 : ¬ c5 = c6 := by decide
theorem u57 : ¬ c5 = c7 := by decide
theorem u65 : ¬ c6 = c5 := by decide
theorem u75 : ¬ c7 = c5 := by decide
theorem u67 : ¬ c6 = c7 := by decide
theorem ux5 : ¬ x8 = c5 := by decide
theorem i65 : bytesBefore c6 c5 = false := by decide
theorem i75 : bytesBefore c7 c5 = false := by decide
theorem i76 : bytesBefore c7 c6 = false := by decide
theorem ix5 : bytesBefore x8 c5 = false := by decide
theorem ix6 : bytesBefore x8 c6 = false := by decide
theorem ix7 : bytesBefore x8 c7 = false := by decide
theorem t5_len : (ktxt (stf 5)).length = 81 := by
  unfold ktxt
  rw [frm_len]
  have h : (ste (stf 5)).length = 59 := by decide +kernel
  simp only [kpay, List.length_append, le_length, h]
theorem cre_eq {E : List Ent} {n : List UInt8} (hn : isNm n = true) (hf : fnd n E = none) (hl : E.length < 64) : aCreate E n = insK Ent.nm ⟨n, [], 0⟩ E := by
  have h0 : eCreate E n = 0 := by
    unfold eCreate
    rw [if_pos hn, hf]
    show (if _ then _ else _) = _
    rw [if_neg (by omega)]
  unfold aCreate
  rw [if_pos h0]
theorem app_eq {q : Nat} {E : List Ent} {n b : List UInt8} {f : Ent} (hn : isNm n = true) (hf : fnd n E = some f) (hl : f.bs.length + b.length ≤ 65536) (hu : used E + b.length ≤ q) : aAppend q E n b = setE ⟨f.nm, f.bs ++ b, f.su⟩ E := by
  have h0 : eAppend q E n b = 0 := by
    unfold eAppend
    rw [if_pos hn, hf]
    show (if _ then _ else _) = _
    rw [if_neg (by omega)]
  unfold aAppend
  rw [if_pos h0, hf]
def E1 (t : List UInt8) : List Ent := [⟨c5, t, t.length⟩]
def E2 (t : List UInt8) : List Ent := [⟨c5, t, t.length⟩, ⟨c6, [], 0⟩]
def E3 (t : List UInt8) : List Ent := [⟨c5, t, t.length⟩, ⟨c6, t, 0⟩]
def E4 (t : List UInt8) : List Ent := [⟨c5, t, t.length⟩, ⟨c6, t, 0⟩, ⟨c7, [], 0⟩]
def E5 (t : List UInt8) : List Ent := [⟨c5, t, t.length⟩, ⟨c6, t, 0⟩, ⟨c7, t.take 80, 0⟩]
def E6 (t : List UInt8) : List Ent := [⟨c5, t, t.length⟩, ⟨c6, t, 0⟩, ⟨c7, t.take 80, 0⟩, ⟨x8, [], 0⟩]
def E7 (t : List UInt8) : List Ent := [⟨c5, t ++ [120], t.length⟩, ⟨c6, t, 0⟩, ⟨c7, t.take 80, 0⟩, ⟨x8, [], 0⟩]
section
variable {t : List UInt8}
theorem s12 : aCreate (E1 t) c6 = E2 t := by
  rw [cre_eq (cN_nm 6) (by simp [E1, fndK, v56]) (by simp [E1])]
  simp [E1, E2, insK, i65]
theorem s23 (h : t.length = 81) : aAppend 1000 (E2 t) c6 t = E3 t := by
  rw [app_eq (f := ⟨c6, [], 0⟩) (cN_nm 6) (by simp [E2, fndK, v56]) (by simp; omega) (by simp [E2, used]; omega)]
  simp [E2, E3, setE, u56]
theorem s34 : aCreate (E3 t) c7 = E4 t := by
  rw [cre_eq (cN_nm 7) (by simp [E3, fndK, v57, v67]) (by simp [E3])]
  simp [E3, E4, insK, i75, i76]
theorem s45 (h : t.length = 81) : aAppend 1000 (E4 t) c7 (t.take 80) = E5 t := by
  rw [app_eq (f := ⟨c7, [], 0⟩) (cN_nm 7) (by simp [E4, fndK, v57, v67]) (by simp; omega) (by simp [E4, used]; omega)]
  simp [E4, E5, setE, u57, u67]
theorem s56 : aCreate (E5 t) x8 = E6 t := by
  rw [cre_eq (cF_nm 8) (by simp [E5, fndK, v5x, v6x, v7x]) (by simp [E5])]
  simp [E5, E6, insK, ix5, ix6, ix7]
theorem s67 (h : t.length = 81) : aAppend 1000 (E6 t) c5 [120] = E7 t := by
  rw [app_eq (f := ⟨c5, t, t.length⟩) (cN_nm 5) (by simp [E6, fndK]) (by simp; omega) (by simp [E6, used]; omega)]
  simp [E6, E7, setE, u65, u75, ux5]
theorem rd_E1 : rd (E1 t) c5 = t ∧ eFind (E1 t) c5 = 0 := by
  have hf : fnd c5 (E1 t) = some ⟨c5, t, t.length⟩ := by simp [E1, fndK]
  unfold rd eFind
  rw [if_pos (cN_nm 5), if_pos (cN_nm 5), hf]
  exact ⟨rfl, rfl⟩
end
theorem kn_75 : knw (pon 4 (E1 (ktxt (stf 5)))) 0 [7, 5] = (stf 5, 1, 0) := by
  have h7 := kl_no (p := pon 4 (E1 (ktxt (stf 5)))) (f := 7) rfl (by show fnd c7 (E1 _) = none; simp [E1, fndK, v57])
  obtain ⟨h5, h5'⟩ : klE (pon 4 (E1 (ktxt (stf 5)))) 5 = 0 ∧ klS (pon 4 (E1 (ktxt (stf 5)))) 5 = stf 5 := one_kl (k := 4) (f := 5) (by decide)
  rw [knw_next (by rw [h7.1]; decide) (by rw [h7.1]; decide), knw_ok h5]
  rw [show klS (pon 4 (E1 (ktxt (stf 5)))) 5 = stf 5 from h5']
theorem kn_7 : knw (pon 4 (E1 (ktxt (stf 5)))) 0 [7] = (.zero, 0, 5) := by
  have h7 := kl_no (p := pon 4 (E1 (ktxt (stf 5)))) (f := 7) rfl (by show fnd c7 (E1 _) = none; simp [E1, fndK, v57])
  rw [knw_next (by rw [h7.1]; decide) (by rw [h7.1]; decide)]
  rfl
theorem kl_E7 (n : Nat) : (klE (pon n (E7 (ktxt (stf 5)))) 5 = 4 ∧ klS (pon n (E7 (ktxt (stf 5)))) 5 = .zero) ∧ (klE (pon n (E7 (ktxt (stf 5)))) 6 = 4 ∧ klS (pon n (E7 (ktxt (stf 5)))) 6 = .zero) ∧ klE (pon n (E7 (ktxt (stf 5)))) 7 = 10 ∧ klS (pon n (E7 (ktxt (stf 5)))) 7 = .zero := by
  have h5 := kl_of (p := pon n (E7 (ktxt (stf 5)))) (f := 5) (c := ktxt (stf 5) ++ [120]) (k := (ktxt (stf 5)).length) rfl (by show fnd c5 (E7 _) = _; simp [E7, fndK])
  have h6 := kl_of (p := pon n (E7 (ktxt (stf 5)))) (f := 6) (c := ktxt (stf 5)) (k := 0) rfl (by show fnd c6 (E7 _) = _; simp [E7, fndK, v56])
  have h7 := kl_of (p := pon n (E7 (ktxt (stf 5)))) (f := 7) (c := (ktxt (stf 5)).take 80) (k := 0) rfl (by show fnd c7 (E7 _) = _; simp [E7, fndK, v57, v67])
  rw [kld_more (s := stf 5) (f := 5) (stf_good 5) 120] at h5
  rw [kld_other (s := stf 5) (f := 6) (stf_fit (by decide)) (stf_good 5) (by decide)] at h6
  rw [kld_cut (s := stf 5) (f := 7) (k := 80) (stf_good 5) (by rw [t5_len]; decide)] at h7
  exact ⟨h5, h6, h7⟩
theorem wr_E7 (hg : DGood 1000 (E7 (ktxt (stf 5)))) : kwE 1000 (stf 8) (pon 4 (E7 (ktxt (stf 5)))) = 0 ∧ (kwP 1000 (stf 8) (pon 4 (E7 (ktxt (stf 5))))).off = false ∧ klE (kwP 1000 (stf 8) (pon 4 (E7 (ktxt (stf 5))))) 8 = 0 ∧ klS (kwP 1000 (stf 8) (pon 4 (E7 (ktxt (stf 5))))) 8 = stf 8 := by
  obtain ⟨k', E', h1, h2, h3⟩ := on_write (q := 1000) (k := 4) (s := stf 8) hg (stf_good 8) (by have := t5_len; simp [E7, used]; omega) (by simp [E7]) (by decide)
  rw [h1, h2]
  obtain ⟨k1, k2⟩ := kl_of (p := pon k' E') (f := 8) (c := ktxt (stf 8)) (k := (ktxt (stf 8)).length) rfl h3
  have h4 : kld (ktxt (stf 8)) 8 = (0, stf 8) := kld_own (stf_fit (by decide)) (stf_good 8)
  rw [h4] at k1 k2
  exact ⟨rfl, rfl, k1, k2⟩
theorem kblow_off {p : Pw} (h : p.off = false) : p.blow.off = true := by unfold Pw.blow; rw [h]; rfl
theorem kblow_n (p : Pw) : p.blow.n = p.n := by unfold Pw.blow; split <;> rfl
theorem off_write {q : Nat} {s : St} {p : Pw} (hs : s.good = true) (ho : p.off = true) : kwE q s p = 8 := by
  have hn : p.names = [] := by unfold Pw.names; rw [ho]; rfl
  obtain ⟨e1, _⟩ := kw_go (q := q) (p := p) hs (by rw [hn]; simp)
  have c0 : kC q (cF s.fr) (cN s.fr) (ktxt s) p 0 = 0 := by simp only [kC]; rw [if_neg (by rw [hn]; simp)]
  have p0 : kP q (cF s.fr) (cN s.fr) (ktxt s) p 0 = p := by simp only [kP]; rw [if_neg (by rw [hn]; simp)]
  have c1 : kC q (cF s.fr) (cN s.fr) (ktxt s) p 1 = 8 := by simp only [kC]; unfold Pw.wrc Pw.code; rw [if_pos ho]
  rw [e1, kR_go c0, p0, kR_no (by rw [c1]; decide), c1]
/-- The bad state of the examples. -/
def bad6 : St := { stf 6 with p := { (stf 6).p with h := 0 } }
theorem bad6_no : bad6.good = false := by rw [Bool.eq_false_iff]; intro h; rw [good_st] at h; revert h; decide
theorem bad6_fit : bad6.fit := ⟨by decide, by decide, ⟨⟨by decide, by decide⟩, ⟨by decide, by decide⟩, ⟨by decide, by decide⟩, ⟨by decide, by decide⟩, by decide, by decide, by decide⟩, start_fit.2.2.2⟩
/-- The power and its disk as the examples go on. -/
structure Kst (w : World) (S : Nat → Prop) (N g gd kc : Nat) (ko : Option Addr) (W : World) (p : Pw) : Prop where
  be : Below w.heap.size w W
  pw : PwC S W g (.pointer (some ⟨gd, 0, none⟩)) 1000 ko kc p
  sz : N ≤ W.heap.size
  sw : ∀ x, S x → w.heap.size ≤ x
  hg : w.heap.size ≤ g
  up : ∀ x, N ≤ x → S x
section
variable {w W W' : World} {S : Nat → Prop} {N g gd kc : Nat} {ko : Option Addr} {p p' : Pw}
theorem Kst.new (h : Kst w S N g gd kc ko W p) (hb : Below W.heap.size W W') : Kst w S N g gd kc ko W' p :=
  ⟨h.be.trans (hb.mono h.be.size), h.pw.new hb, Nat.le_trans h.sz hb.size, h.sw, h.hg, h.up⟩
theorem Kst.step (h : Kst w S N g gd kc ko W p) (hp : PwC S W' g (.pointer (some ⟨gd, 0, none⟩)) 1000 ko kc p') (ht : Tu (fun x => x = g ∨ S x) W W') : Kst w S N g gd kc ko W' p' :=
  ⟨h.be.trans (ht.below (fun x hx hn => by
    rcases hn with rfl | hn
    · have := h.hg; omega
    · have := h.sw x hn; omega) h.be.size), hp, Nat.le_trans h.sz ht.size, h.sw, h.hg, h.up⟩
theorem Kst.disk {E : List Ent} (h : Kst w S N g gd kc ko W p) (hd : DkS S W' (.pointer (some ⟨gd, 0, none⟩)) 1000 E) (ht : Tu S W W') : Kst w S N g gd kc ko W' { p with E := E } :=
  h.step (h.pw.turn rfl ht (fun x _ hx => .inr hx) (h.pw.blk.tu ht h.pw.ng) hd) (ht.mono fun x _ hx => .inr hx)
theorem us_cells {w : World} {g : Nat} {cs : Array Value} (l : List Nat) (h : Cells w g 27 cs) (he : cs = (l.map fun (x : Nat) => Value.int .u64 (x : Int)).toArray) (hl : ∀ x ∈ l, x < 18446744073709551616) : Us w (some ⟨g, 0, none⟩) l := fun k hk => ⟨hl _ (List.getElem_mem hk), g, 0, rfl, by
  subst he
  rw [h.cell, Nat.zero_add]
  simp [hk]⟩
theorem Kst.hS (h : Kst w S N g gd kc ko W p) : ∀ x, W.heap.size ≤ x → S x := fun x hx => h.up x (Nat.le_trans h.sz hx)
theorem Kst.cre {k : Nat} {E E' : List Ent} (h : Kst w S N g gd kc ko W (pon k E)) (n : List UInt8) (hn : n.length ≤ maxLen) (he : aCreate E n = E') :
    Calls Tryz.prog 36 #[.pointer (some ⟨gd, 0, none⟩), .string (str n)] W fun R W' => ∃ c : Int, R = .returned (.int .i64 c) ∧ Kst w S N g gd kc ko W' (pon k E') :=
  (create_c n W h.pw.dk h.hS hn).mono fun R W' h2 => ⟨_, h2.1, he ▸ h.disk h2.2.1 h2.2.2⟩
theorem Kst.app {k : Nat} {E E' : List Ent} (h : Kst w S N g gd kc ko W (pon k E)) (n b : List UInt8) (hn : n.length ≤ maxLen) (hb : b.length ≤ maxLen) (he : aAppend 1000 E n b = E') :
    Calls Tryz.prog 37 #[.pointer (some ⟨gd, 0, none⟩), .string (str n), .string (str b)] W fun R W' => ∃ c : Int, R = .returned (.int .i64 c) ∧ Kst w S N g gd kc ko W' (pon k E') :=
  (append_c n b W h.pw.dk h.hS hn hb).mono fun R W' h2 => ⟨_, h2.1, he ▸ h.disk h2.2.1 h2.2.2⟩
variable (ht : Tab w) (hb : BTab w)
include ht hb
theorem Kst.write (h : Kst w S N g gd kc ko W p) (s : St) (hs : s.ss = []) (hf : s.fit) (hn : p.n + 5 < 1000000) {e : Nat} (he : kwE 1000 s p = e) (hp : kwP 1000 s p = p') :
    Calls Tryz.prog 11 #[.pointer (some ⟨g, 0, none⟩), sv s none 0] W fun R W' => R = .returned (.int .i64 (e : Nat)) ∧ Kst w S N g gd kc ko W' p' := by
  refine (kwrite_c s none 0 W h.pw h.hS (by rw [hs]; exact shs_none _ _) hf hn (ht.lo h.be) (btab_lo hb h.be)).mono ?_
  rintro R W' ⟨rfl, h1, h2⟩
  rw [he]
  rw [hp] at h1
  exact ⟨rfl, h.step h1 h2⟩
theorem Kst.fails (h : Kst w S N g gd kc ko W p) (f : Nat) (c : Int) (hf : f < 18446744073709551616) (he : klE p f = c ∧ klS p f = .zero) :
    Calls Tryz.prog 32 #[.pointer (some ⟨g, 0, none⟩), .int .u64 (f : Int), .int .i64 c] W fun R W' => R = .returned (.bool true) ∧ Kst w S N g gd kc ko W' p := by
  have := fails_c f c W h.pw hf (ht.lo h.be) (btab_lo hb h.be)
  rw [he.1, he.2, sm_self, decide_eq_true rfl] at this
  exact this.mono fun R W' h2 => ⟨h2.1, h.new h2.2⟩
theorem Kst.loads (h : Kst w S N g gd kc ko W p) (f : Nat) (hf : f < 18446744073709551616) (he : klE p f = 0 ∧ klS p f = stf f) :
    Calls Tryz.prog 31 #[.pointer (some ⟨g, 0, none⟩), .int .u64 (f : Int), sv (stf f) none 0] W fun R W' => R = .returned (.bool true) ∧ Kst w S N g gd kc ko W' p := by
  have := loads_c f (stf f) none 0 W h.pw hf (shs_none _ _) (Nat.zero_le _) (ht.lo h.be) (btab_lo hb h.be)
  rw [he.1, he.2, sm_self, decide_eq_true rfl] at this
  exact this.mono fun R W' h2 => ⟨h2.1, h.new h2.2⟩
end
section
attribute [local go_sem ↓] ld_state ld_u64 st_str18 st_strs18 ld_str18 ld_strs18 ld_pp18
/-- Write of a state that may not be: whatever the power. -/
theorem kwrite_bad (o : Option Addr) (s : St) (ao : Option Addr) (cap : Nat) (w : World) (hs : Shs w ao s.ss) (hf : s.fit) (hg : s.good = false) (ht : Tab w) (hb : BTab w) :
    Calls Tryz.prog 11 #[.pointer o, sv s ao cap] w fun R w' => R = .returned (.int .i64 4) ∧ Below w.heap.size w w' := by
  have hmf : ∀ (fn : Fn) (first cap : Array Value) (w : World), (Instr.makeFunc fn first cap).run Tryz.prog w = .ok (.func fn first cap) w := fun _ _ _ _ => rfl
  have HT := Lib.hid ht
  have HB := Lib.hid hb
  have HSH := Lib.hid hs
  have HF := Lib.hid hf
  have H0 := Lib.hid (Loc.two w 38 34 #[.pointer o] (stc s ao cap))
  obtain ⟨Q, hQ⟩ : ∃ Q : Ending → World → Prop, Q = fun R w' => R = .returned (.int .i64 4) ∧ Below w.heap.size w w' := ⟨_, rfl⟩
  rw [← hQ]
  have HQ := Lib.hid hQ
  have HE := Lib.hid (kt_no hg)
  clear ht hb hs hf hg hQ
  go_enter Tryz.func11, Tryz.ntmps11
  go_upto_region 1 with fail
  generalize (w.alloc (.cells #[.pointer o] 38)).alloc (.cells (stc s ao cap) 34) = wa at *
  have l0 := H0.out.ldA ty_state 1 rfl 0 (vs := stc s ao cap) rfl (Nat.le_of_ble_eq_true rfl)
  go_wp2_with fail
  refine (kput_c s ao cap wa (Shs_grown HSH.out (grown_of_below (r := none) H0.out.be) (by simp)) HF.out (HT.out.lo H0.out.be) (btab_lo HB.out H0.out.be)).mono ?_
  rintro E w1 ⟨rfl, hb1⟩
  rw [HE.out.1, HE.out.2]
  have h1 := H0.out.to hb1
  obtain ⟨g5, w5, z5, s5, h5, q5⟩ := h1.newO ty_str18 (.string ⟨#[]⟩) (.string (str [])) rfl rfl
  have H5 := Lib.hid h5.be
  clear hb1 l0 H0 h1 h5 q5
  go_wp2
  rw [HQ.out]
  exact ⟨rfl, H5.out⟩
end
end Go.Proofs.YtacgmadgkmcmoaaGreatDoor
