/- Texts of the walk. -/
import Derived.Test.YtgeaacabpnepmaaGreatDoorLj8
/- The manifest of a disk, and what its segments say. -/
namespace Go.Proofs.YtgeaacabpnepmaaGreatDoor
open Go.RowKit
set_option linter.unusedVariables false
set_option linter.unusedSimpArgs false
set_option maxRecDepth 20000

theorem shut_mc {W : World} {g g' a b c n m : Nat} {cs cs' : Array Value} {T U : TypeId} (tmps : Array Value) (e : Int) (fn : Func) (hr : fn.results = #[.cell a T, .cell b U, .tmp c]) (ty : TyA T n) (ty' : TyA U m) (h : Cells W g T cs) (h' : Cells W g' U cs') (hs : cs.size = n) (hs' : cs'.size = m) (h2 : tmps.getD a undef = .pointer (some ⟨g, 0, none⟩)) (h3 : tmps.getD b undef = .pointer (some ⟨g', 0, none⟩)) (h4 : tmps.getD c undef = .int .i64 e) :
    (results fn tmps).run Tryz.prog W = .ok (.tuple #[.agg cs, .agg cs', .int .i64 e]) W := by
  have hl := run_ldA ty h 0 (by omega)
  have hl' := run_ldA ty' h' 0 (by omega)
  have he : ((cs.toList.drop 0).take n).toArray = cs := by rw [← hs]; simp [List.take_of_length_le]
  have he' : ((cs'.toList.drop 0).take m).toArray = cs' := by rw [← hs']; simp [List.take_of_length_le]
  rw [he] at hl
  rw [he'] at hl'
  have h2' : tmps[a]?.getD undef = .pointer (some ⟨g, 0, none⟩) := by simpa using h2
  have h3' : tmps[b]?.getD undef = .pointer (some ⟨g', 0, none⟩) := by simpa using h3
  have h4' : tmps[c]?.getD undef = .int .i64 e := by simpa using h4
  have k1 : (loadVar T ⟨g, 0, none⟩).run Tryz.prog W = .ok (.agg cs) W := by simpa [ldT, Instr.loadAt, Instr.sureAddr] using hl
  have k2 : (loadVar U ⟨g', 0, none⟩).run Tryz.prog W = .ok (.agg cs') W := by simpa [ldT, Instr.loadAt, Instr.sureAddr] using hl'
  simp [results, hr, h2', h3', h4', asAddr, k1, k2]
theorem jrd_len {q : Nat} {p : Pw} (h : DGood q p.E) (n : List UInt8) : (p.rd n).length ≤ 65536 := by
  unfold Pw.rd
  split
  · exact Nat.zero_le _
  · unfold rd
    (repeat' split) <;> first | exact Nat.zero_le _ | (rename_i f hf; exact h.most _ (fnd_mem hf))
theorem jlM_says (p : Pw) (pl : Nat) : (jlM p pl).fit ∧ (jlM p pl).sg.length ≤ 12 ∧ (jlM p pl).ck.length ≤ 2 ∧ ((jlM p pl).ep = 0 ∨ (jlM p pl).ok = true) ∧ (jlM p pl).ep ≠ 18446744073709551615 ∧ ((jlM p pl).pl = pl ∨ jlM p pl = mz) := by
  unfold jlM
  split
  · rename_i h
    obtain ⟨h1, h2, h3⟩ := h
    have hr : p.rdc nM = 0 := by
      unfold ldC at h1
      split at h1
      · rename_i h0; exact h0
      · rename_i h0; omega
    have hM : ldM p = tkM (p.rd nM) := if_pos hr
    have hC : tkE (p.rd nM) = 0 := by unfold ldC at h1; rwa [if_pos hr] at h1
    have ho := (tk_one hC).1
    rw [hM] at h2 h3 ⊢
    have hl := Mf.ok_len ho
    exact ⟨tkM_fit _, hl.1, hl.2, .inr ho, h3, .inl h2⟩
  · exact ⟨mz_fit, by decide, by decide, .inl rfl, by decide, .inr rfl⟩
theorem rd_bad (p : Pw) : ∀ (l : List (Nat × Nat)) (f : Bool) (x : Cn) (b : Bool), (cnRd p f x b l).1 ≠ 0 → (cnRd p f x b l).2 = cn0
  | [], f, x, b, h => absurd (by rw [rd_nil]) h
  | s :: l, f, x, b, h => by
    by_cases h0 : p.rdc (sgn s.1) = 0
    · rw [rd_cons _ _ _ _ _ _ h0] at h ⊢
      exact rd_bad p l _ _ _ h
    · rw [rd_stop _ _ _ _ _ _ h0]
theorem Loc.rebase {V : Nat → Prop} {B : Nat} {w0 w w1 : World} {L : List (Nat × TypeId × Array Value)} (h : Loc B w0 w L) (k : Tu V w w1) (hL : ∀ e ∈ L, ¬ V e.1) : Loc B w1 w1 L :=
  ⟨Nat.le_trans h.size k.size, Below.refl _ _, h.ge, h.nd, fun e he => (h.cs e he).tu k (hL e he)⟩
theorem JTo.below {V V1 : Nat → Prop} {w w1 w2 : World} (h : JTo V w V1 w1) (hb : Below w.heap.size w1 w2) : JTo V w V1 w2 :=
  ⟨h.more, ⟨hb.os.trans h.tu.os, hb.tape.trans h.tu.tape, hb.output.trans h.tu.output, Nat.le_trans h.tu.size hb.size, fun k hk hv => (hb.block k hk).trans (h.tu.block k hk hv)⟩⟩
theorem PJ.good' {V : Nat → Prop} {w : World} {gp q kc : Nat} {dv : Value} {ko : Option Addr} {p : Pw} (h : PJ V w gp q dv ko kc p) : DGood q p.E := h.names.2.2.2
section
variable {V : Nat → Prop} {w w1 : World} {gp q kc : Nat} {dv : Value} {ko : Option Addr} {p : Pw}
def FnPost (V : Nat → Prop) (w : World) (gp q : Nat) (dv : Value) (ko : Option Addr) (kc : Nat) (r : Fd) (R : Ending) (w' : World) : Prop :=
  ∃ so sc co cc ao ac po pc, R = .returned (.tuple #[.agg (mcs r.m so sc co cc), .agg (cts r.x ao ac po pc), .int .i64 r.e]) ∧ MfAt w' r.m so co ∧ (co = none → cc = 0) ∧ InAt w' ao r.x.ah ∧ PrAt w' po r.x.ps ∧ (r.x.ah.length ≤ ac ∧ ac ≤ maxLen) ∧ (r.x.ps.length ≤ pc ∧ pc ≤ maxLen) ∧
    ∃ V', PJ V' w' gp q dv ko kc r.p ∧ JTo V w V' w' ∧ (∀ x, mbl r.m so co x → w.heap.size ≤ x ∧ ¬ V' x) ∧ (∀ a, ao = some a → r.x.ah ≠ [] → w.heap.size ≤ a.block ∧ ¬ V' a.block) ∧ (∀ a, po = some a → r.x.ps ≠ [] → w.heap.size ≤ a.block ∧ ¬ V' a.block) ∧ (r.x.ah ≠ [] → ∀ a b, ao = some a → po = some b → a.block ≠ b.block) ∧ (∀ a, ao = some a → r.x.ah ≠ [] → ¬ mbl r.m so co a.block) ∧ (∀ a, po = some a → r.x.ps ≠ [] → ¬ mbl r.m so co a.block)
theorem fn_none {V1 : Nat → Prop} (e : Int) (P : Pw) (h : PJ V1 w1 gp q dv ko kc P) (t : JTo V w V1 w1) : FnPost V w gp q dv ko kc ⟨e, P, mz, cn0⟩ (.returned (.tuple #[.agg (mcs mz none 0 none 0), .agg (cts cn0 none 0 none 0), .int .i64 e])) w1 :=
  ⟨none, 0, none, 0, none, 0, none, 0, rfl, mz_at _, fun _ => rfl, InAt.nil _ _, PrAt.nil _ _, ⟨Nat.le_refl _, Nat.zero_le _⟩, ⟨Nat.le_refl _, Nat.zero_le _⟩, V1, h, t, fun x hx => (by rcases hx with ⟨h0, _⟩ | ⟨h0, _⟩ <;> exact absurd rfl h0), fun a e => (by cases e), fun a e => (by cases e), fun h => absurd rfl h, fun a e => (by cases e), fun a e => (by cases e)⟩
attribute [local go_sem ↓] ld_man st_man ld_jcont st_jcont ld_parts' ld_parts
set_option maxHeartbeats 16000000 in
theorem jfind_c (pl : Nat) (w : World) (h : PJ V w gp q dv ko kc p) (hn : p.n + 100 < 1000000) (ht : Tab w) (hV : ¬ V 1) :
    Calls Tryz.prog 78 #[.pointer (some ⟨gp, 0, none⟩), .int .u8 (pl : Int)] w (FnPost V w gp q dv ko kc (fdR q pl p)) := by
  have HN := Lib.hid hn
  have HV := Lib.hid hV
  have HJS := Lib.hid (jlM_says p pl)
  have H0 := Loc.two w 60 133 (mcs mz none 0 none 0) (cts cn0 none 0 none 0)
  have HP := Lib.hid (h.new H0.be)
  have HT := Lib.hid (tab_below ht H0.be)
  have HVL := Lib.hid h.lt
  have hfd : fdR q pl p = if jlE p pl = 0 then (if (clr q (jfs (jlM p pl)) p.names p).1 = 0 then (if (cnRd (clr q (jfs (jlM p pl)) p.names p).2 true cn0 true (jlM p pl).sg).1 = 0 then ⟨0, (clr q (jfs (jlM p pl)) p.names p).2, jlM p pl, (cnRd (clr q (jfs (jlM p pl)) p.names p).2 true cn0 true (jlM p pl).sg).2⟩ else ⟨((cnRd (clr q (jfs (jlM p pl)) p.names p).2 true cn0 true (jlM p pl).sg).1 : Nat), (clr q (jfs (jlM p pl)) p.names p).2, jlM p pl, cn0⟩) else ⟨((clr q (jfs (jlM p pl)) p.names p).1 : Nat), (clr q (jfs (jlM p pl)) p.names p).2, mz, cn0⟩) else ⟨jlE p pl, p, mz, cn0⟩ := rfl
  have HFD := Lib.hid hfd
  obtain ⟨Q, hQ⟩ : ∃ Q : Ending → World → Prop, Q = FnPost V w gp q dv ko kc (fdR q pl p) := ⟨_, rfl⟩
  rw [← hQ]
  have HQ := Lib.hid hQ
  have HCLS := fun m => Lib.hid (clr_says q (jfs m) p.names p)
  clear hQ h hn ht hV hfd
  go_enter Tryz.func78, Tryz.ntmps78
  go_upto_region 1 with fail
  rw [show (#[.int .u64 0, .int .u8 0, .slice none 0 0, .slice none 0 0] : Array Value) = mcs mz none 0 none 0 from rfl, show (#[.int .u64 0, .slice none 0 0, .int .u64 0, .slice none 0 0] : Array Value) = cts cn0 none 0 none 0 from rfl]
  generalize (w.alloc (.cells (mcs mz none 0 none 0) 60)).alloc (.cells (cts cn0 none 0 none 0) 133) = wa at *
  obtain ⟨S0, hp0, _⟩ := HP.out
  have HP0 := Lib.hid hp0
  clear hp0
  go_wp2_with fail
  refine (jload_c pl wa HP0.out HT.out).mono ?_
  rintro R w1 ⟨so, sc, co, cc, rfl, hm1, hb1, hn1, hn2, hn3⟩
  have hz := H0.size
  obtain ⟨g7, w2, z2, s2, H2, q2⟩ := (H0.to hb1).newA ty_man #[.int .u64 0, .int .u8 0, .slice none 0 0, .slice none 0 0] (mcs (jlM p pl) so sc co cc) rfl rfl rfl
  replace H2 : Hid (Loc w.heap.size w w2 [(w.heap.size, 60, mcs mz none 0 none 0), (w.heap.size + 1, 133, cts cn0 none 0 none 0), (g7, 60, mcs (jlM p pl) so sc co cc)]) := H2
  have HM2 := Lib.hid (hm1.to (below_of_grown q2))
  have HP2 := Lib.hid (HP.out.new (hb1.trans ((below_of_grown q2).mono hb1.size)))
  have HLW : Hid (w.heap.size + 1 < w2.heap.size) := (H2.out.get 1 rfl : Cells w2 (w.heap.size + 1) _ _).lt
  have HT2 := Lib.hid (tab_below HT.out (hb1.trans ((below_of_grown q2).mono hb1.size)))
  have HNR : Hid (∀ x, mbl (jlM p pl) so co x → w.heap.size + 1 < x) := fun x hx => by
    have hlt := (H0.get 1 rfl : Cells wa (w.heap.size + 1) _ _).lt
    rcases hx with ⟨_, a, e, rfl⟩ | ⟨_, a, e, rfl⟩
    · have := hn1 a e; omega
    · have := hn2 a e; omega
  have HWW : Hid (w.heap.size ≤ wa.heap.size ∧ wa.heap.size ≤ w2.heap.size) := ⟨hz, (hb1.trans ((below_of_grown q2).mono hb1.size)).size⟩
  have HNW : Hid ((∀ x, mbl (jlM p pl) so co x → w.heap.size ≤ x ∧ x < w2.heap.size) ∧ (co = none → cc = 0)) := ⟨fun x hx => ⟨by
    rcases hx with ⟨_, a, e, rfl⟩ | ⟨_, a, e, rfl⟩
    · have := hn1 a e; omega
    · have := hn2 a e; omega, mbl_lt HM2.out hx⟩, hn3⟩
  obtain ⟨m, hm⟩ : ∃ m, m = jlM p pl := ⟨_, rfl⟩
  obtain ⟨e, he⟩ : ∃ e, e = jlE p pl := ⟨_, rfl⟩
  rw [← hm] at HJS H2 HM2 HNW HNR HFD ⊢
  rw [← he] at HFD ⊢
  rw [← hm] at s2
  clear hm1 hb1 hn1 hn2 hn3 q2 hz hm he HP0 HP HT
  by_cases he0 : e = 0
  case neg =>
    have hq : (e != 0) = true := by rw [bne_iff_ne]; exact he0
    obtain ⟨w3, s3, H3, q3⟩ := H2.out.stA ty_man 0 rfl 0 #[.int .u64 0, .int .u8 0, .slice none 0 0, .slice none 0 0] (cs' := mcs mz none 0 none 0) rfl (L' := [(w.heap.size, 60, mcs mz none 0 none 0), (w.heap.size + 1, 133, cts cn0 none 0 none 0), (g7, 60, mcs m so sc co cc)]) rfl (Nat.le_of_ble_eq_true rfl) rfl rfl
    obtain ⟨w4, s4, H4, q4⟩ := H3.stA ty_jcont 1 rfl 0 #[.int .u64 0, .slice none 0 0, .int .u64 0, .slice none 0 0] (cs' := cts cn0 none 0 none 0) rfl (L' := [(w.heap.size, 60, mcs mz none 0 none 0), (w.heap.size + 1, 133, cts cn0 none 0 none 0), (g7, 60, mcs m so sc co cc)]) rfl (Nat.le_of_ble_eq_true rfl) rfl rfl
    have HFin : Hid (Q (.returned (.tuple #[.agg (mcs mz none 0 none 0), .agg (cts cn0 none 0 none 0), .int .i64 e])) w4) := by
      show Q _ _
      rw [HQ.out, HFD.out, if_neg he0]
      have kt : Tu (fun x => x = w.heap.size ∨ x = w.heap.size + 1) w2 w4 := ((Tu.of_same q3).mono (S' := fun x => x = w.heap.size ∨ x = w.heap.size + 1) fun x _ e => .inl e).trans (Tu.of_same q4) fun x _ e => .inr e
      exact fn_none e p (HP2.out.tu kt fun x hx h => by have := HVL.out x hx; omega) (JTo.new H4.be)
    have HC4 := Lib.hid (And.intro (H4.get 0 rfl : Cells w4 w.heap.size _ _) (H4.get 1 rfl : Cells w4 (w.heap.size + 1) _ _))
    clear H3 q3 H4 q4 he0
    go_wp2
    refine bodyPost_ret (shut_mc _ e _ Tryz.results78 ty_man ty_jcont HC4.out.1 HC4.out.2 rfl rfl rfl rfl rfl) rfl ?_
    exact HFin.out
  case pos =>
  have hq : (e != 0) = false := by rw [he0]; rfl
  rw [if_pos he0] at HFD
  have l7 : (ldT 60 (.pointer (some ⟨g7, 0, none⟩))).run Tryz.prog w2 = .ok (.agg (mcs m so sc co cc)) w2 := H2.out.ldA ty_man 2 rfl 0 rfl (Nat.le_of_ble_eq_true rfl)
  clear he0
  go_wp2_with fail
  clear s2 z2
  refine (clear_c m so sc co cc w2 HP2.out HM2.out (by have := HJS.out; omega) (by have := HJS.out; omega) HN.out).mono ?_
  rintro R w3 ⟨rfl, V3, hp3, ht3⟩
  have HP3 := Lib.hid hp3
  have HTO3 := Lib.hid ((JTo.new (V := V) H2.out.be).trans ht3)
  have HL3 := Lib.hid (H2.out.rebase ht3.tu (fun e he hv => by have := HVL.out _ hv; have := H2.out.ge e he; omega))
  have HNV3 : Hid (∀ x, w.heap.size ≤ x → x < w2.heap.size → ¬ V3 x) := fun x h1 h2 h3 => by
    rcases ht3.more x h3 with h4 | h4
    · have := HVL.out x h4; omega
    · omega
  have HM3 := Lib.hid (HM2.out.tuV ht3.tu (fun x hx hv => by have := HVL.out x hv; have := HNW.out.1 x hx; omega))
  have HT3 := Lib.hid (tab_tu HT2.out ht3.tu HV.out)
  have HVL3 := Lib.hid hp3.lt
  have HSZ3 := Lib.hid ht3.tu.size
  obtain ⟨c1, hc1⟩ : ∃ c1, c1 = (clr q (jfs m) p.names p).1 := ⟨_, rfl⟩
  obtain ⟨P1, hP1⟩ : ∃ P1, P1 = (clr q (jfs m) p.names p).2 := ⟨_, rfl⟩
  rw [← hc1, ← hP1] at HFD
  rw [← hP1] at HP3
  rw [← hc1]
  have hPn : P1.n ≤ p.n + p.names.length := by rw [hP1]; exact (HCLS m).out.2.2
  clear hc1 hP1 hp3 ht3 hPn HP2 H2 HCLS l7
  by_cases hc0 : c1 = 0
  case neg =>
    have hq2 : ((c1 : Int) != 0) = true := by rw [bne_iff_ne]; omega
    rw [if_neg hc0] at HFD
    obtain ⟨w4, s4, H4, q4⟩ := HL3.out.stA ty_man 0 rfl 0 #[.int .u64 0, .int .u8 0, .slice none 0 0, .slice none 0 0] (cs' := mcs mz none 0 none 0) rfl (L' := [(w.heap.size, 60, mcs mz none 0 none 0), (w.heap.size + 1, 133, cts cn0 none 0 none 0), (g7, 60, mcs m so sc co cc)]) rfl (Nat.le_of_ble_eq_true rfl) rfl rfl
    obtain ⟨w5, s5, H5, q5⟩ := H4.stA ty_jcont 1 rfl 0 #[.int .u64 0, .slice none 0 0, .int .u64 0, .slice none 0 0] (cs' := cts cn0 none 0 none 0) rfl (L' := [(w.heap.size, 60, mcs mz none 0 none 0), (w.heap.size + 1, 133, cts cn0 none 0 none 0), (g7, 60, mcs m so sc co cc)]) rfl (Nat.le_of_ble_eq_true rfl) rfl rfl
    have HFin : Hid (Q (.returned (.tuple #[.agg (mcs mz none 0 none 0), .agg (cts cn0 none 0 none 0), .int .i64 (c1 : Int)])) w5) := by
      show Q _ _
      rw [HQ.out, HFD.out]
      have kt : Tu (fun x => x = w.heap.size ∨ x = w.heap.size + 1) w3 w5 := ((Tu.of_same q4).mono (S' := fun x => x = w.heap.size ∨ x = w.heap.size + 1) fun x _ e => .inl e).trans (Tu.of_same q5) fun x _ e => .inr e
      exact fn_none c1 P1 (HP3.out.tu kt fun x hx h => HNV3.out x (by omega) (by have := HWW.out; have := HLW.out; omega) hx) (HTO3.out.below H5.be)
    have HC5 := Lib.hid (And.intro (H5.get 0 rfl : Cells w5 w.heap.size _ _) (H5.get 1 rfl : Cells w5 (w.heap.size + 1) _ _))
    clear H4 q4 H5 q5 hc0
    go_wp2
    refine bodyPost_ret (shut_mc _ _ _ Tryz.results78 ty_man ty_jcont HC5.out.1 HC5.out.2 rfl rfl rfl rfl rfl) rfl ?_
    exact HFin.out
  case pos =>
  have hq2 : ((c1 : Int) != 0) = false := by rw [hc0]; rfl
  rw [if_pos hc0] at HFD
  have l8 := HL3.out.ldO ty_parts 2 rfl 2 (v := .slice so m.sg.length sc) rfl
  obtain ⟨S3, hp4, _⟩ := HP3.out
  have HRC := Lib.hid (jread_c m.sg so sc w3 hp4 HM3.out.ps HM3.out.fit.sg (by have := HJS.out.2.1; omega) (fun n => jrd_len HP3.out.good' (sgn n)) HT3.out)
  obtain ⟨⟨e2, x2⟩, hr⟩ : ∃ r, r = cnRd P1 true cn0 true m.sg := ⟨_, rfl⟩
  have hbad := rd_bad P1 m.sg true cn0 true
  rw [← hr] at HRC HFD hbad
  dsimp only at HRC HFD hbad
  have HFR : Hid (fdR q pl p = ⟨(e2 : Int), P1, m, x2⟩) := by
    show _ = _
    rw [HFD.out]
    by_cases h : e2 = 0
    · rw [if_pos h, h]; rfl
    · rw [if_neg h, hbad h]
  clear hc0 hp4 hr hbad HFD
  go_wp2_with fail
  refine HRC.out.mono ?_
  rintro R w4 ⟨ao, ac, po, pc, rfl, hi4, hr4, hic4, hpc4, hna4, hnp4, hap4, hb4⟩
  have HI4 := Lib.hid (And.intro hi4 (And.intro hr4 (And.intro hic4 (And.intro hpc4 (And.intro hna4 (And.intro hnp4 hap4))))))
  obtain ⟨g10, w5, z5, s5, H5, q5⟩ := (HL3.out.to hb4).newA ty_jcont #[.int .u64 0, .slice none 0 0, .int .u64 0, .slice none 0 0] (cts x2 ao ac po pc) rfl rfl rfl
  replace H5 : Hid (Loc w.heap.size w3 w5 [(w.heap.size, 60, mcs mz none 0 none 0), (w.heap.size + 1, 133, cts cn0 none 0 none 0), (g7, 60, mcs m so sc co cc), (g10, 133, cts x2 ao ac po pc)]) := H5
  have HB5 := Lib.hid (hb4.trans ((below_of_grown q5).mono hb4.size))
  have HB45 := Lib.hid (below_of_grown q5)
  clear hi4 hr4 hic4 hpc4 hna4 hnp4 hap4 hb4 q5 HRC l8
  go_upto_region 8 with fail
  clear s5 z5
  have HLd := Lib.hid H5.out.drew
  have HBd := Lib.hid (HB5.out.drew)
  have HB4d := Lib.hid (HB45.out.drew)
  generalize hwd : w5.drew = wd at *
  have hs0 : (ldT 60 (.pointer (some ⟨g7, 0, none⟩))).run Tryz.prog wd = .ok (.agg (mcs m so sc co cc)) wd ∧ (ldT 133 (.pointer (some ⟨g10, 0, none⟩))).run Tryz.prog wd = .ok (.agg (cts x2 ao ac po pc)) wd := ⟨HLd.out.ldA ty_man 2 rfl 0 rfl (Nat.le_of_ble_eq_true rfl), HLd.out.ldA ty_jcont 3 rfl 0 rfl (Nat.le_of_ble_eq_true rfl)⟩
  refine wp_region_to (K := [3, 4, 5]) (S := fun W => (ldT 60 (.pointer (some ⟨g7, 0, none⟩))).run Tryz.prog W = .ok (.agg (mcs m so sc co cc)) W ∧ (ldT 133 (.pointer (some ⟨g10, 0, none⟩))).run Tryz.prog W = .ok (.agg (cts x2 ao ac po pc)) W) (by kernel_rfl) ?_
  rw [hwd]
  clear hwd H5 HB5 HB45
  refine wpTo_take (i := 0) (v := ?va0) rfl (by kernel_rfl) (fun _ _ _ h => h) (Or.inl ⟨by rfl, ?hya0⟩) hs0 ?resta0
  case hya0 => (rintro W ⟨hW1, hW2⟩; go_simp; try with_reducible rfl)
  simp only [Act.put, List.setIfInBounds_toArray, List.set_cons_zero, List.set_cons_succ, List.getElem_toArray, List.getElem_cons_succ, List.getElem_cons_zero]
  refine wpTo_take (i := 1) (v := ?va1) rfl (by kernel_rfl) (fun _ _ _ h => h) (Or.inl ⟨by rfl, ?hya1⟩) hs0 ?resta1
  case hya1 => (rintro W ⟨hW1, hW2⟩; go_simp; try with_reducible rfl)
  simp only [Act.put, List.setIfInBounds_toArray, List.set_cons_zero, List.set_cons_succ, List.getElem_toArray, List.getElem_cons_succ, List.getElem_cons_zero]
  refine wpTo_take (i := 2) (v := ?va2) rfl (by kernel_rfl) (fun _ _ _ h => h) (Or.inl ⟨by rfl, ?hya2⟩) hs0 ?resta2
  case hya2 => (rintro W ⟨hW1, hW2⟩; go_simp; try with_reducible rfl)
  simp only [Act.put, List.setIfInBounds_toArray, List.set_cons_zero, List.set_cons_succ, List.getElem_toArray, List.getElem_cons_succ, List.getElem_cons_zero]
  refine wpTo_run (i := 3) (by kernel_rfl) rfl (fun _ => hs0) (fun K hK => ?_)
  obtain ⟨w6, s6, H6, q6⟩ := HLd.out.stA ty_man 0 rfl 0 (mcs m so sc co cc) (cs' := mcs m so sc co cc) rfl (L' := [(w.heap.size, 60, mcs m so sc co cc), (w.heap.size + 1, 133, cts cn0 none 0 none 0), (g7, 60, mcs m so sc co cc), (g10, 133, cts x2 ao ac po pc)]) rfl (Nat.le_of_ble_eq_true rfl) rfl (mcs_one _ _ _ _ _)
  have hs6 : (ldT 60 (.pointer (some ⟨g7, 0, none⟩))).run Tryz.prog w6 = .ok (.agg (mcs m so sc co cc)) w6 ∧ (ldT 133 (.pointer (some ⟨g10, 0, none⟩))).run Tryz.prog w6 = .ok (.agg (cts x2 ao ac po pc)) w6 := ⟨H6.ldA ty_man 2 rfl 0 rfl (Nat.le_of_ble_eq_true rfl), H6.ldA ty_jcont 3 rfl 0 rfl (Nat.le_of_ble_eq_true rfl)⟩
  obtain ⟨w7, s7, H7, q7⟩ := H6.stA ty_jcont 1 rfl 0 (cts x2 ao ac po pc) (cs' := cts x2 ao ac po pc) rfl (L' := [(w.heap.size, 60, mcs m so sc co cc), (w.heap.size + 1, 133, cts x2 ao ac po pc), (g7, 60, mcs m so sc co cc), (g10, 133, cts x2 ao ac po pc)]) rfl (Nat.le_of_ble_eq_true rfl) rfl rfl
  have hs7 : (ldT 60 (.pointer (some ⟨g7, 0, none⟩))).run Tryz.prog w7 = .ok (.agg (mcs m so sc co cc)) w7 ∧ (ldT 133 (.pointer (some ⟨g10, 0, none⟩))).run Tryz.prog w7 = .ok (.agg (cts x2 ao ac po pc)) w7 := ⟨H7.ldA ty_man 2 rfl 0 rfl (Nat.le_of_ble_eq_true rfl), H7.ldA ty_jcont 3 rfl 0 rfl (Nat.le_of_ble_eq_true rfl)⟩
  have HL7 := Lib.hid H7
  have HKT : Hid (Tu (fun x => x = w.heap.size ∨ x = w.heap.size + 1) wd w7) := ((Tu.of_same q6).mono (S' := fun x => x = w.heap.size ∨ x = w.heap.size + 1) fun x _ e => .inl e).trans (Tu.of_same q7) fun x _ e => .inr e
  clear H6 q6 H7 q7
  go_simp
  refine hK _ _ ?_
  clear hK K
  refine wpTo_run (i := 4) (by kernel_rfl) rfl (fun _ => hs6) (fun K hK => ?_)
  go_simp
  refine hK _ _ ?_
  clear hK K
  refine wpTo_run (i := 5) (by kernel_rfl) rfl (fun _ => hs7) (fun K hK => ?_)
  go_simp
  refine hK _ _ ?_
  clear hK K
  refine wpTo_done (by kernel_rfl) (by kernel_rfl) ?_
  clear hs0 hs6 hs7 s6 s7
  have HFin : Hid (Q (.returned (.tuple #[.agg (mcs m so sc co cc), .agg (cts x2 ao ac po pc), .int .i64 (e2 : Int)])) w7) := by
    show Q _ _
    rw [HQ.out, HFR.out]
    have h4 := HI4.out
    have hsz := HSZ3.out
    have hww := HWW.out
    have hlw := HLW.out
    have hv3 := HVL3.out
    have hk := HKT.out
    refine ⟨so, sc, co, cc, ao, ac, po, pc, rfl, (HM3.out.to HBd.out).tuV hk fun x hx h => ?_, HNW.out.2, (h4.1.to HB4d.out).tu hk fun h0 a e h => ?_, (h4.2.1.to HB4d.out).tu hk fun h0 a e h => ?_, h4.2.2.1, h4.2.2.2.1, V3, (HP3.out.new HBd.out).tu hk fun x hx h => HNV3.out x (by omega) (by omega) hx, HTO3.out.below HL7.out.be, fun x hx => ⟨(HNW.out.1 x hx).1, HNV3.out x (HNW.out.1 x hx).1 (HNW.out.1 x hx).2⟩, fun a e h0 => ?_, fun a e h0 => ?_, h4.2.2.2.2.2.2, fun a e h0 hx => ?_, fun a e h0 hx => ?_⟩
    · have := HNR.out x hx; omega
    · have := h4.2.2.2.2.1 a e h0; omega
    · have := h4.2.2.2.2.2.1 a e h0; omega
    · have := h4.2.2.2.2.1 a e h0
      exact ⟨by omega, fun hv => by have := hv3 _ hv; omega⟩
    · have := h4.2.2.2.2.2.1 a e h0
      exact ⟨by omega, fun hv => by have := hv3 _ hv; omega⟩
    · have h1 := h4.2.2.2.2.1 a e h0
      have h2 := (HNW.out.1 _ hx).2
      omega
    · have h1 := h4.2.2.2.2.2.1 a e h0
      have h2 := (HNW.out.1 _ hx).2
      omega
  have HC7 := Lib.hid (And.intro (HL7.out.get 0 rfl : Cells w7 w.heap.size _ _) (HL7.out.get 1 rfl : Cells w7 (w.heap.size + 1) _ _))
  clear HL7 HKT HLd
  go_wp2
  refine bodyPost_ret (shut_mc _ _ _ Tryz.results78 ty_man ty_jcont HC7.out.1 HC7.out.2 rfl rfl rfl rfl rfl) rfl ?_
  exact HFin.out
end
end Go.Proofs.YtgeaacabpnepmaaGreatDoor
