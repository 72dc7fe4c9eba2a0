/- Texts of the walk. -/
import Derived.Test.YtgeaacabpnepmaaGreatDoorKj8
/- An opening, step by step, wherever the power goes off. Nothing of the program. -/
namespace Go.Proofs.YtgeaacabpnepmaaGreatDoor
open Go.RowKit
set_option linter.unusedVariables false
set_option linter.unusedSimpArgs false
set_option maxRecDepth 20000

def SvX (Z : Nat) (U : List Nat) (P : List (Nat × Nat)) (s o K : Nat) (m : Mf) (E : List Ent) : Prop := (m = mz ∧ fnd nM E = none ∧ s = 0 ∧ o = 0) ∨ SvM Z U P s o K m E
def SvXQ (Z : Nat) (U : List Nat) (P : List (Nat × Nat)) (s o K : Nat) (m : Mf) (E : List Ent) : Prop := SvX Z U P s o K m E ∧ E.length ≤ 15 ∧ ∀ f, fnd (ckn f) E = none
section
variable {Z : Nat} {U : List Nat} {P : List (Nat × Nat)} {s o K q : Nat} {m : Mf} {E E' : List Ent}
theorem svx_q (h : SvXQ Z U P s o K m E) : SvQ Z U P s o K E := ⟨h.1.elim (fun h => .inl h.2) fun h => .inr ⟨m, h⟩, h.2⟩
theorem svx_crash : CrQ (SvXQ Z U P s o K m) q := fun ks E hg h => by
  refine ⟨?_, by rw [crash_len]; exact h.2.1, fun f => (fnd_crash hg _ ks).1 (h.2.2 f)⟩
  rcases h.1 with ⟨h0, h1, h2⟩ | h1
  · exact .inl ⟨h0, (fnd_crash hg _ ks).1 h1, h2⟩
  · exact .inr (svm_crash ks hg h1)
theorem svx_ext (h : SvXQ Z U P s o K m E) (hM : fnd nM E' = fnd nM E) (hS : ∀ x ∈ m.sg, fnd (sgn x.1) E' = fnd (sgn x.1) E) (hl : E'.length ≤ 15) (hk : ∀ f, fnd (ckn f) E' = none) : SvXQ Z U P s o K m E' := by
  refine ⟨?_, hl, hk⟩
  rcases h.1 with ⟨h0, h1, h2⟩ | h1
  · exact .inl ⟨h0, hM.trans h1, h2⟩
  · exact .inr (svm_ext h1 hM hS)
def mzOk (m : Mf) : Prop := m = mz ∨ m.ok = true
theorem svx_ok (h : SvX Z U P s o K m E) : mzOk m ∧ m.fit ∧ (lastS m.sg).1 ≤ K ∧ m.ep ≤ K ∧ m.sg.length ≤ 12 ∧ cksB m.ck = true ∧ m.ck.length ≤ Z := by
  rcases h with ⟨rfl, _⟩ | h
  · exact ⟨.inl rfl, mz_fit, Nat.zero_le _, Nat.zero_le _, by decide, by decide, Nat.zero_le _⟩
  · exact ⟨.inr h.ok, h.fit, h.bN, h.bE, (Mf.ok_len h.ok).1, (Mf.ok_iff.1 h.ok).2.2.2, h.z⟩
theorem mz_far (h : mzOk m) : ∀ x ∈ m.sg, x.1 ≤ (lastS m.sg).1 := fun x hx => by
  rcases h with rfl | h
  · cases hx
  · have h1 := (segsB_iff.1 (Mf.ok_iff.1 h).2.2.1).2.2
    cases hl : m.sg.getLast? with
    | none => rw [List.getLast?_eq_none_iff] at hl; rw [hl] at hx; cases hx
    | some z => rw [lastS_of hl]; exact ((sgOk_last h1 hl).2 x hx).1
theorem jfs_nM (m : Mf) : nM ∈ jfs m := by unfold jfs; simp
theorem jfs_sg {x : Nat × Nat} (h : x ∈ m.sg) : sgn x.1 ∈ jfs m := by
  unfold jfs
  exact List.mem_append.2 (.inl (List.mem_cons_of_mem _ (List.mem_map.2 ⟨x, h, rfl⟩)))
theorem jfs_mem {n : List UInt8} (h : n ∈ jfs m) : n = nM ∨ (∃ x ∈ m.sg, n = sgn x.1) ∨ ∃ f, n = ckn f := by
  unfold jfs at h
  rcases List.mem_append.1 h with h | h
  · rcases List.mem_cons.1 h with h | h
    · exact .inl h
    · obtain ⟨x, hx, rfl⟩ := List.mem_map.1 h
      exact .inr (.inl ⟨x, hx, rfl⟩)
  · obtain ⟨f, _, rfl⟩ := List.mem_map.1 h
    exact .inr (.inr ⟨f, rfl⟩)
theorem clear_any {p : Pw} (ho : p.off = false) (hg : DGood q p.E) (h0 : SvXQ Z U P s o K m p.E) :
    ((clr q (jfs m) p.names p).1 = 8 ∧ OffQ (SvXQ Z U P s o K m) q (clr q (jfs m) p.names p).2) ∨
    ((clr q (jfs m) p.names p).1 = 0 ∧ OnF q (clr q (jfs m) p.names p).2 (fun n => if n ∈ jfs m then fnd n p.E else none) ∧ SvXQ Z U P s o K m (clr q (jfs m) p.names p).2.E ∧ (∀ e ∈ (clr q (jfs m) p.names p).2.E, e.nm = nM ∨ ∃ x ∈ m.sg, e.nm = sgn x.1)) := by
  have hn : p.names = p.E.map Ent.nm := by unfold Pw.names; rw [ho]; rfl
  have hR : ∀ E E', DGood q E → DGood q E' → (∀ n ∈ jfs m, fnd n E' = fnd n E) → (∀ n, fnd n E = none → fnd n E' = none) → E'.length ≤ E.length → SvXQ Z U P s o K m E → SvXQ Z U P s o K m E' := fun E E' _ _ ha hz hl h =>
    svx_ext h (ha _ (jfs_nM m)) (fun x hx => ha _ (jfs_sg hx)) (by have := h.2.1; omega) fun f => hz _ (h.2.2 f)
  rcases q_clr svx_crash (jfs m) hR p.names (by rw [hn]; exact srt_nodup hg.srt) (fun n h => by rw [hn] at h; exact fnd_names.1 h) ho hg h0 with h | ⟨a1, a2, a3, a4⟩
  · exact .inl h
  · have hfs : ∀ n, fnd n (clr q (jfs m) p.names p).2.E = if n ∈ jfs m then fnd n p.E else none := fun n => by
      rw [a2.fs]
      by_cases hj : n ∈ jfs m
      · rw [if_pos hj, if_neg (fun h => h.2 hj)]
      · rw [if_neg hj]
        by_cases hp : n ∈ p.names
        · rw [if_pos ⟨hp, hj⟩]
        · rw [if_neg (fun h => hp h.1)]
          cases hf : fnd n p.E with
          | none => rfl
          | some x => exact absurd (by rw [hn]; exact fnd_names.2 ⟨x, hf⟩) hp
    refine .inr ⟨a1, ⟨a2.off, a2.good, hfs⟩, a4, fun e he => ?_⟩
    have h1 := fnd_get a2.good.srt he
    rw [hfs] at h1
    split at h1
    · rename_i hj
      rcases jfs_mem hj with h2 | h2 | ⟨f, h2⟩
      · exact .inl h2
      · exact .inr h2
      · rw [h2, h0.2.2 f] at h1; cases h1
    · cases h1
theorem few_files (hg : DGood q E) (h : ∀ e ∈ E, e.nm = nM ∨ ∃ x ∈ m.sg, e.nm = sgn x.1) : E.length ≤ 1 + m.sg.length := by
  have := nodup_sub (a := E.map Ent.nm) (b := nM :: m.sg.map fun x => sgn x.1) (srt_nodup hg.srt) fun n hn => by
    obtain ⟨e, he, rfl⟩ := List.mem_map.1 hn
    rcases h e he with h1 | ⟨x, hx, h1⟩
    · rw [h1]; simp
    · rw [h1]; exact List.mem_cons_of_mem _ (List.mem_map.2 ⟨x, hx, rfl⟩)
  simp at this
  omega
theorem read_any {p : Pw} (ho : p.off = false) (hg : DGood q p.E) (hU : Fol U P) (hK : K < 1000000) (hs : s ≤ P.length) (hPU : P.length ≤ U.length) (h : SvX Z U P s o K m p.E) :
    ∃ F n b, cnRd p true cn0 true m.sg = (0, ⟨F, n, sl U n b, sl P F n⟩) ∧ s ≤ n ∧ o ≤ b ∧ n ≤ b ∧ n ≤ P.length ∧ b ≤ U.length ∧ b ≤ n + 12 ∧ F ≤ n ∧ (m.ck.length < 2 → F ≤ s) ∧ (∀ N0 F0 r, m.sg = (N0, F0) :: r → F = F0) := by
  rcases h with ⟨rfl, h1, rfl, rfl⟩ | h
  · exact ⟨0, 0, 0, by rw [sl_nil, sl_nil]; exact rd_nil _ _ _ _, Nat.le_refl _, Nat.le_refl _, Nat.le_refl _, Nat.zero_le _, Nat.zero_le _, by omega, Nat.le_refl _, fun _ => Nat.le_refl _, fun _ _ _ e => by cases e⟩
  · obtain ⟨N, F, r, e, hFP, hF⟩ := h.fs
    obtain ⟨n, b, x1, x2, x3, x4, x5, x6, x7, x8⟩ := chn_first (s := s) (o := o) (by have := h.bE; omega) hU ho hg e h.ch h.fit.sg (by omega) (by omega)
    exact ⟨F, n, b, x1, x2, x3, x4, x5, x6, x7, x8, hF, fun _ _ _ e2 => by rw [e] at e2; cases e2; rfl⟩
end
end Go.Proofs.YtgeaacabpnepmaaGreatDoor
/- An opening, whole: what it finds, and the journal that it leaves, or a disk that still says all. Nothing of the program. -/
namespace Go.Proofs.YtgeaacabpnepmaaGreatDoor
open Go.RowKit
set_option linter.unusedVariables false
set_option linter.unusedSimpArgs false
set_option maxRecDepth 20000

section
variable {Z : Nat} {P : List (Nat × Nat)} {O : List Nat} {s o K q : Nat} {p : Pw}
structure OpAs (Z : Nat) (P : List (Nat × Nat)) (O : List Nat) (s o K q : Nat) (p : Pw) (rows : Nat) (r : Op) (F n b : Nat) : Prop where
  e : r.e = 0
  fd : Found P O s o (jlM p 0).ck r.x F n b
  on : OnJ Z q r.p (opJ rows r) (P.take n) (sl (alls P O) n b) (K + 1)
  m : r.m = opM 0 (jlM p 0) r.x
  f : r.f = decide ((jlM p 0).ep = 0)
  hd : ∀ N0 F0 r, (jlM p 0).sg = (N0, F0) :: r → F = F0
  z : (jlM p 0).ck.length ≤ Z
def OpAny (Z : Nat) (P : List (Nat × Nat)) (O : List Nat) (s o K q : Nat) (p : Pw) (rows : Nat) (r : Op) : Prop := (r.e = 8 ∧ OffQ (SvQ Z (alls P O) P s o (K + 1)) q r.p) ∨ ∃ F n b, OpAs Z P O s o K q p rows r F n b
set_option maxHeartbeats 4000000 in
theorem open_any (hq : 1048576 ≤ q) (ho : p.off = false) (hg : DGood q p.E) (hv : SvQ Z (alls P O) P s o K p.E) (hU : Fol (alls P O) P) (hs : s ≤ P.length) (hK : K < 1000000) {rows : Nat} (h4 : 4 ≤ rows) (h32 : rows ≤ 32) : OpAny Z P O s o K q p rows (opR q 0 (rows : Int) p) := by
  have hPU : P.length ≤ (alls P O).length := by rw [alls_len]; omega
  obtain ⟨m, hm, hje, hjm⟩ : ∃ m, SvXQ Z (alls P O) P s o K m p.E ∧ jlE p 0 = 0 ∧ jlM p 0 = m := by
    have hl := sv_load (Z := Z) (U := alls P O) (P := P) (s := s) (o := o) (K := K) ho hg
    rcases hv.1 with ⟨h1, h2⟩ | ⟨m, h1⟩
    · exact ⟨mz, ⟨.inl ⟨rfl, h1, h2⟩, hv.2⟩, hl.1 h1⟩
    · exact ⟨m, ⟨.inr h1, hv.2⟩, hl.2 m h1 (by have := h1.bE; omega)⟩
  obtain ⟨k1, k2, k3, k4, k5, k6, k7⟩ := svx_ok hm.1
  have hR0 : opR q 0 (rows : Int) p = if (fdR q 0 p).e = 0 then opB q 0 (fdR q 0 p).p (opM 0 (fdR q 0 p).m (cnOut (fdR q 0 p).m.ck (fdR q 0 p).x)) (cnOut (fdR q 0 p).m.ck (fdR q 0 p).x) (cnRecs 0 (cnOut (fdR q 0 p).m.ck (fdR q 0 p).x)) (decide ((fdR q 0 p).m.ep = 0)) else ⟨(fdR q 0 p).e, (fdR q 0 p).p, mz, cn0, false⟩ := by
    unfold opR
    rw [if_pos ⟨by decide, by omega, by omega⟩]
  rcases clear_any ho hg hm with ⟨c1, c2⟩ | ⟨c1, c2, c3, c4⟩
  · left
    have e : fdR q 0 p = ⟨8, (clr q (jfs m) p.names p).2, mz, cn0⟩ := by
      unfold fdR
      rw [if_pos hje, hjm, if_neg (by rw [c1]; decide), c1]; rfl
    rw [hR0, e, if_neg (show ¬ (8 : Int) = 0 by decide)]
    exact ⟨rfl, c2.1, c2.2.1, svq_mono (svx_q c2.2.2) (List.prefix_refl _) (List.prefix_refl _) (Nat.le_succ _)⟩
  · obtain ⟨F, n, b, x1, x2, x3, x4, x5, x6, x7, x8, x9, x10⟩ := read_any c2.off c2.good hU hK hs hPU c3.1
    generalize hp1 : (clr q (jfs m) p.names p).2 = p1 at *
    have e : fdR q 0 p = ⟨0, p1, m, ⟨F, n, sl (alls P O) n b, sl P F n⟩⟩ := by
      unfold fdR
      rw [if_pos hje, hjm, if_pos c1, hp1, x1]; rfl
    obtain ⟨F', f1, f2, f3, f4⟩ := out_as (U := alls P O) (P := P) (b := b) m.ck x8 x5
    rw [hR0, e, if_pos rfl]
    dsimp only
    rw [f3]
    -- the new manifest
    have hN : inc (lastS m.sg).1 = (lastS m.sg).1 + 1 := inc_of (by omega)
    have hE : inc m.ep = m.ep + 1 := inc_of (by omega)
    have hul := hU.2.2
    generalize hm' : opM 0 m ⟨F', n, sl (alls P O) n b, sl P F' n⟩ = m'
    have hme : m' = ⟨m.ep + 1, 0, [((lastS m.sg).1 + 1, F')], m.ck⟩ := by rw [← hm']; unfold opM; rw [hN, hE]
    have hok : m'.ok = true := by
      rw [hme, Mf.ok_iff]
      refine ⟨Nat.succ_pos _, Nat.zero_le _, segsB_iff.2 ⟨by simp, by simp, ?_⟩, k6⟩
      simp [sgOk]
    have hfit : m'.fit := by
      rw [hme]
      exact ⟨by show m.ep + 1 < _; omega, by show 0 < 256; decide, fun x hx => by rw [List.mem_singleton] at hx; subst hx; exact ⟨by show (lastS m.sg).1 + 1 < _; omega, by show F' < _; omega⟩, k2.ck⟩
    have hhd : hdM m' = rHd ((lastS m.sg).1 + 1) F' (m.ep + 1) 0 := by rw [hme]; rfl
    have hbd := bd_recs (F := F') f2 x4 x5 x6 x7 hU
    generalize hl : cnRecs 0 ⟨F', n, sl (alls P O) n b, sl P F' n⟩ = l at *
    have hll := bd_le hbd
    have hwok : wok (hdM m') l = true := by
      unfold wok
      rw [hhd, hd_okB (by omega) (by omega) (by omega), recs_ok hU hbd]; rfl
    have hsz : (bys (hdM m' :: l)).length ≤ 65536 := by
      have := bys_len (hdM m' :: l)
      simp only [List.length_cons] at this
      omega
    have hl1 : p1.E.length ≤ 13 := by have := few_files c2.good c4; omega
    have hfar : ∀ x ∈ m.sg, sgn x.1 ≠ sgn ((lastS m.sg).1 + 1) := fun x hx e => by
      have h1 := mz_far k1 x hx
      have := sgn_inj (by have := (k2.sg x hx).1; exact this) (by omega) e
      omega
    have hno : fnd (sgn (hdM m').s) p1.E = none := by
      rw [hhd]
      refine fnd_no.2 fun e he hn => ?_
      rcases c4 e he with h1 | ⟨x, hx, h1⟩
      · exact (sgn_nM _).1 (hn.symm.trans h1)
      · exact hfar x hx (h1.symm.trans hn)
    have hsn : sgn (hdM m').s = sgn ((lastS m.sg).1 + 1) := by rw [hhd]; rfl
    have hRb : ∀ E', DGood q E' → (∀ n, n ≠ sgn (hdM m').s → fnd n E' = fnd n p1.E) → E'.length ≤ p1.E.length + 1 → SvXQ Z (alls P O) P s o K m E' := fun E' _ ha hle => by
      rw [hsn] at ha
      exact svx_ext c3 (ha _ (sgn_nM _).1.symm) (fun x hx => ha _ (hfar x hx)) (by omega) fun f => by rw [ha _ (ckn_sgn f _).1]; exact c3.2.2 f
    rcases q_begin svx_crash hwok hno (by omega) hq hsz hRb c2.off c2.good c3 with ⟨d1, d2⟩ | ⟨d1, d2, d3⟩
    · left
      have e2 : opB q 0 p1 m' ⟨F', n, sl (alls P O) n b, sl P F' n⟩ l (decide (m.ep = 0)) = ⟨8, SBP p1 q (hdM m') l, mz, cn0, false⟩ := by
        unfold opB
        rw [if_neg (by rw [d1]; decide), d1]
      rw [e2]
      exact ⟨rfl, d2.1, d2.2.1, svq_mono (svx_q d2.2.2) (List.prefix_refl _) (List.prefix_refl _) (Nat.le_succ _)⟩
    · have hx2 := hRb _ d2.good (fun n hn => by rw [d2.fs, if_neg hn]) d3
      generalize hp2 : SBP p1 q (hdM m') l = p2 at *
      have hxq : ∀ E, SvXQ Z (alls P O) P s o K m E → SvQ Z (alls P O) P s o (K + 1) E := fun E h => svq_mono (svx_q h) (List.prefix_refl _) (List.prefix_refl _) (Nat.le_succ _)
      have hnn : ∀ x : Nat, sgn x ≠ nN := fun x => (sgn_nM x).2
      have fin : ∀ E', DGood q E' → (∀ n, fnd n E' = swF (enc m') (fun n => fnd n p2.E) n) → E'.length ≤ 15 → SvXQ Z (alls P O) P s o (K + 1) m' E' ∧ fnd (sgn ((lastS m.sg).1 + 1)) E' = some ⟨sgn ((lastS m.sg).1 + 1), bys (hdM m' :: l), (bys (hdM m' :: l)).length⟩ := fun E' g' ha hle => by
        have h1 : fnd nM E' = some ⟨nM, enc m', (enc m').length⟩ := by rw [ha]; exact if_pos rfl
        have h2 : fnd (sgn ((lastS m.sg).1 + 1)) E' = some ⟨sgn ((lastS m.sg).1 + 1), bys (hdM m' :: l), (bys (hdM m' :: l)).length⟩ := by
          rw [ha]
          unfold swF
          rw [if_neg (sgn_nM _).1, if_neg (hnn _)]
          dsimp only
          rw [d2.fs, hsn, if_pos rfl]
        refine ⟨⟨.inr ⟨h1, hok, hfit, by rw [hme], ?_, ⟨(lastS m.sg).1 + 1, F', [], by rw [hme], by omega, fun hc => by rw [hme] at hc; rw [f4 hc]; exact x9 hc⟩, by rw [hme]; show (lastS m.sg).1 + 1 ≤ _; omega, by rw [hme]; show m.ep + 1 ≤ _; omega, by rw [hme]; exact k7⟩, hle, fun f => ?_⟩, h2⟩
        · rw [hme]
          show LOff _ _ _ _ _ _ _ _
          rw [hhd] at h2
          exact ⟨l, _, _, l.length, _, _, _, _, by rw [List.take_length]; exact h2, hbd, by rw [List.take_length]; exact hbd, Nat.le_refl _, x2, x3, by rw [List.take_length]; exact Nat.le_refl _, Nat.le_refl _, Nat.le_refl _⟩
        · rw [ha]
          unfold swF
          rw [if_neg (ckn_sgn f 0).2.1, if_neg (ckn_sgn f 0).2.2]
          exact hx2.2.2 f
      have hd3 : p2.E.length ≤ 14 := by omega
      have hsw := q_swap (Q := SvQ Z (alls P O) P s o (K + 1)) (t := enc m') (p := p2) svq_crash (enc_len hok) hd3 hq d2.off d2.good (hxq _ hx2)
        (fun E' _ ha hle => hxq _ (svx_ext hx2 (ha _ (by decide)) (fun x _ => ha _ (hnn _)) (by omega) fun f => by rw [ha _ (ckn_sgn f 0).2.2]; exact hx2.2.2 f))
        (fun E' g' ha hle => svx_q (fin E' g' ha (by omega)).1)
      obtain ⟨y1, y2⟩ := sw_yes (q := q) (p := p2) hok
      unfold SwR at hsw
      rw [← y1, ← y2] at hsw
      rcases hsw with ⟨g1, g2⟩ | ⟨g1, g2, g3, g4⟩
      · left
        have e2 : opB q 0 p1 m' ⟨F', n, sl (alls P O) n b, sl P F' n⟩ l (decide (m.ep = 0)) = ⟨8, swP q m' p2, mz, cn0, false⟩ := by
          unfold opB
          rw [if_pos d1, hp2]
          have j1 : jsE q p2 m' = 8 := by unfold jsE; rw [if_neg (by rw [g1]; decide), g1]; rfl
          have j2 : jsP q p2 m' = swP q m' p2 := by unfold jsP; rw [if_neg (by rw [g1]; decide)]
          rw [j1, j2, if_neg (by decide)]
        rw [e2]
        exact ⟨rfl, g2⟩
      · have hx3 := fin _ g2.good g2.fs (by omega)
        have j1 : jsE q p2 m' = (((clr q (jfs m') (swP q m' p2).names (swP q m' p2)).1 : Nat) : Int) := by unfold jsE; rw [if_pos g1]
        have j2 : jsP q p2 m' = (clr q (jfs m') (swP q m' p2).names (swP q m' p2)).2 := by unfold jsP; rw [if_pos g1]
        generalize hp3 : swP q m' p2 = p3 at *
        rcases clear_any g2.off g2.good hx3.1 with ⟨z1, z2⟩ | ⟨z1, z2, z3, z4⟩
        · left
          have e2 : opB q 0 p1 m' ⟨F', n, sl (alls P O) n b, sl P F' n⟩ l (decide (m.ep = 0)) = ⟨8, (clr q (jfs m') p3.names p3).2, mz, cn0, false⟩ := by
            unfold opB
            rw [if_pos d1, hp2, j1, j2, z1, if_neg (by decide)]; rfl
          rw [e2]
          exact ⟨rfl, z2.1, z2.2.1, svx_q z2.2.2⟩
        · right
          have e2 : opB q 0 p1 m' ⟨F', n, sl (alls P O) n b, sl P F' n⟩ l (decide (m.ep = 0)) = ⟨0, (clr q (jfs m') p3.names p3).2, m', ⟨F', n, sl (alls P O) n b, sl P F' n⟩, decide (m.ep = 0)⟩ := by
            unfold opB
            rw [if_pos d1, hp2, j1, j2, z1]; rfl
          rw [e2]
          generalize hp4 : (clr q (jfs m') p3.names p3).2 = p4 at *
          have hsl : (sl (alls P O) n b).length = b - n := sl_len x6
          have hin : ∀ x, x ∈ m'.sg ↔ x = ((lastS m.sg).1 + 1, F') := fun x => by rw [hme]; simp
          refine ⟨F, n, b, rfl, ⟨by rw [hjm]; exact f3.symm, x2, x3, x4, x5, x6, x8, x7, by rw [hjm]; exact x9⟩, ?_, by rw [hjm]; exact hm'.symm, by rw [hjm], by rw [hjm]; exact x10, by rw [hjm]; exact k7⟩
          have hac : alls (P.take n) (sl (alls P O) n b) = (alls P O).take b := alls_cut x4 x5
          have hPl : (P.take n).length = n := by rw [List.length_take]; omega
          have hUl : ((alls P O).take b).length = b := by rw [List.length_take]; omega
          have hmem : sgn ((lastS m.sg).1 + 1) ∈ jfs m' := jfs_sg (m := m') (x := ((lastS m.sg).1 + 1, F')) ((hin _).2 rfl)
          refine ⟨z2.off, hq, z2.good, ?_, hok, hfit, by show m'.pl = 0; rw [hme], ?_, z4, hPl.symm, rfl, rfl, fun x hx => ?_, by show n ≤ _; rw [hPl]; exact Nat.le_refl _, ?_, by rw [hsl]; omega, ?_, ?_, ?_, ?_, by show m'.ck.length ≤ Z; rw [hme]; exact k7⟩
          · show fnd nM p4.E = some ⟨nM, enc m', _⟩
            rw [z2.fs, if_pos (jfs_nM m'), g2.fs]; exact if_pos rfl
          · show Chn _ _ m'.ep p4.E (LOn _ _ m'.ep p4.E n (n + (sl (alls P O) n b).length)) m'.sg
            rw [hac, hsl, show n + (b - n) = b by omega, hme]
            show LOn _ _ _ _ _ _ _ _
            refine ⟨l, _, l.length, ?_, ?_, ?_, Nat.le_refl _, rfl⟩
            · rw [List.take_length, z2.fs, if_pos hmem, hx3.2, hhd]
            · rw [hPl, hUl]; exact bd_less hbd (Nat.le_refl _) (Nat.le_refl _)
            · rw [List.take_length]; exact bd_less hbd (Nat.le_refl _) (Nat.le_refl _)
          · have := (hin x).1 hx
            subst this
            exact f2
          · show n + (sl (alls P O) n b).length ≤ _
            rw [hac, hsl, hUl]; omega
          · show n ≤ n + (sl (alls P O) n b).length; omega
          · rw [hac]; exact fol_cut hU x4
          · show (lastS m'.sg).1 ≤ _; rw [hme]; show (lastS m.sg).1 + 1 ≤ _; omega
          · show m'.ep ≤ _; rw [hme]; show m.ep + 1 ≤ _; omega
end
end Go.Proofs.YtgeaacabpnepmaaGreatDoor
/- What each call makes of a journal whose power may go off. Nothing of the program. -/
namespace Go.Proofs.YtgeaacabpnepmaaGreatDoor
open Go.RowKit
set_option linter.unusedVariables false
set_option linter.unusedSimpArgs false
set_option maxRecDepth 20000

section
variable {Z q : Nat} {p : Pw} {j : Jn} {P : List (Nat × Nat)} {O : List Nat} {K : Nat}
theorem OnJ.last (h : OnJ Z q p j P O K) : ∃ N F l su i, j.m.sg.getLast? = some (N, F) ∧ lastS j.m.sg = (N, F) ∧ fnd (sgn N) p.E = some ⟨sgn N, bys (rHd N F j.m.ep 0 :: l), su⟩ ∧ Bd (alls P O) P F F l P.length (alls P O).length ∧ Bd (alls P O) P F F (l.take i) j.sy j.os ∧ i ≤ l.length ∧ su = (bys (rHd N F j.m.ep 0 :: l.take i)).length ∧
    N < 18446744073709551616 ∧ F < 18446744073709551616 ∧ (∀ x ∈ j.m.sg.dropLast, sgn x.1 ≠ sgn N) ∧ (∀ x ∈ j.m.sg, x.1 ≤ N ∧ x.2 ≤ F) ∧ F ≤ j.sy ∧ (bys (rHd N F j.m.ep 0 :: l)).length ≤ 64096 := by
  obtain ⟨⟨N, F⟩, h1, l, su, i, h2, h3, h4, h5, h6⟩ := chn_last h.ch
  have hm := last_mem h1
  have hf := h.fit.sg _ hm
  obtain ⟨k1, k2⟩ := sgOk_last h.sgs.2.2 h1
  have hle := bd_le h3
  have hul := h.U.2.2
  have hal := alls_len P O
  refine ⟨N, F, l, su, i, h1, lastS_of h1, h2, h3, h4, h5, h6, hf.1, hf.2, fun x hx e => ?_, k2, h.fs _ hm, ?_⟩
  · have h7 := k1 x hx
    have := sgn_inj (h.fit.sg x (drop_mem hx)).1 hf.1 e
    dsimp only at h7
    omega
  · have := bys_len (rHd N F j.m.ep 0 :: l)
    simp only [List.length_cons] at this
    omega
theorem app_any (h : OnJ Z q p j P O K) {r : Rc} {P' : List (Nat × Nat)} {O' : List Nat} (hu : alls P O <+: alls P' O') (hp : P <+: P') (hr : Bd (alls P' O') P' P.length (alls P O).length [r] P'.length (alls P' O').length) (hU : Fol (alls P' O') P') (hol : O'.length ≤ 12) :
    (wrE' q p j r = 8 ∧ OffQ (SvQ Z (alls P' O') P' j.sy j.os K) q (wrP q p j r)) ∨
    (wrE' q p j r = 0 ∧ ∀ j' : Jn, j'.m = j.m → j'.c = P'.length → j'.ah = O' → j'.br = false → j'.sy = j.sy → j'.os = j.os → OnJ Z q (wrP q p j r) j' P' O' K) := by
  obtain ⟨N, F, l, su, i, a1, a2, a3, a4, a5, a6, a7, aN, aF, a8, a9, a10, a11⟩ := h.last
  have hok : okB r false = true := by have := recs_ok hU hr; simpa using this
  have e1 : wrE' q p j r = ((p.wrc 1 q (sgn N) (byR r) : Nat) : Int) := by unfold wrE' SAE; rw [if_pos hok, a2]
  have e2 : wrP q p j r = p.wr 1 q (sgn N) (byR r) := by unfold wrP SAP; rw [if_pos hok, a2]
  rw [e1, e2]
  have hrl := byR_hi r
  have hlen := h.len
  have hsg := h.sgs
  have hu1 := used_but h.good a3
  have hq := h.hq
  dsimp only at hu1
  have hap := fun n => fnd_append h.good n (t := byR r) a3 (by dsimp only; omega) (by omega)
  have hb' : Bd (alls P' O') P' F F (l ++ [r]) P'.length (alls P' O').length := bd_app (bd_mono hu hp a4) hr
  have hby : bys (rHd N F j.m.ep 0 :: (l ++ [r])) = bys (rHd N F j.m.ep 0 :: l) ++ byR r := by rw [← List.cons_append, bys_app, bys_one]
  have hti : (l ++ [r]).take i = l.take i := by rw [List.take_append_of_le_length a6]
  have hne : ∀ n, n ≠ sgn N → fnd n (aAppend q p.E (sgn N) (byR r)) = fnd n p.E := fun n hn => by rw [(hap n).2, if_neg hn]
  have hE' : fnd (sgn N) (aAppend q p.E (sgn N) (byR r)) = some ⟨sgn N, bys (rHd N F j.m.ep 0 :: (l ++ [r])), su⟩ := by rw [(hap _).2, if_pos rfl, hby]
  have hon : ∀ p' : Pw, p'.off = false → DGood q p'.E → p'.E = aAppend q p.E (sgn N) (byR r) → ∀ j' : Jn, j'.m = j.m → j'.c = P'.length → j'.ah = O' → j'.br = false → j'.sy = j.sy → j'.os = j.os → OnJ Z q p' j' P' O' K := fun p' o' g' hpE j' m1 m2 m3 m4 m5 m6 => by
    refine ⟨o', hq, g', ?_, by rw [m1]; exact h.ok, by rw [m1]; exact h.fit, by rw [m1]; exact h.pl, ?_, fun e he => ?_, m2, m3, m4, by rw [m1, m5]; exact h.fs, by rw [m5]; exact Nat.le_trans h.sy hp.length_le, by rw [m6]; exact Nat.le_trans h.os hu.length_le, hol, by rw [m5, m6]; exact h.so, hU, by rw [m1]; exact h.bN, by rw [m1]; exact h.bE, by rw [m1]; exact h.z⟩
    · rw [m1, hpE, hne _ (sgn_nM N).1.symm]; exact h.man
    · rw [m1, m5, m6, hpE]
      refine chn_turn hu hp h.ch (fun x hx => hne _ (a8 x hx)) fun x hx _ => ?_
      rw [a1] at hx
      cases hx
      exact ⟨l ++ [r], su, i, hE', hb', by rw [hti]; exact bd_mono hu hp a5, by simp; omega, by rw [hti]; exact a7⟩
    · rw [m1]
      have h1 := fnd_get g'.srt he
      by_cases hn : e.nm = sgn N
      · exact .inr ⟨(N, F), last_mem a1, hn⟩
      · rw [hpE, hne _ hn] at h1
        exact h.nms e (fnd_mem h1)
  have q0 : SvQ Z (alls P' O') P' j.sy j.os K p.E := svq_mono h.svq hu hp (Nat.le_refl _)
  have q1 : SvQ Z (alls P' O') P' j.sy j.os K (aAppend q p.E (sgn N) (byR r)) :=
    (hon ⟨0, [], 0, false, aAppend q p.E (sgn N) (byR r)⟩ rfl (good_append h.good _ _) rfl { j with c := P'.length, ah := O', br := false } rfl rfl rfl rfl rfl rfl).svq
  rcases q_wr svq_crash 1 (sgn N) (byR r) h.off h.good q0 q1 with ⟨c1, c2⟩ | ⟨c1, c2, c3, c4⟩
  · exact .inl ⟨by rw [c1]; rfl, c2⟩
  · refine .inr ⟨?_, hon _ c2 c4 c3⟩
    rw [c1]
    show ((eAppend q p.E (sgn N) (byR r) : Nat) : Int) = 0
    rw [(hap (sgn N)).1]; rfl
theorem alls_snoc (P : List (Nat × Nat)) (O : List Nat) (i : Nat) : alls P (O ++ [i]) = alls P O ++ [i] := by simp [alls]
theorem alls_sure {P : List (Nat × Nat)} {O : List Nat} {a b : Nat} : alls (P ++ [(a, b)]) O = alls P (a :: O) := by simp [alls]
theorem fol_snoc {P : List (Nat × Nat)} {U : List Nat} {i : Nat} (h : Fol U P) (hi : i < 64) (hl : U.length < 1000) : Fol (U ++ [i]) P := by
  refine ⟨fun c q hq => ?_, fun c x hx => ?_, by simp; omega⟩
  · have := h.1 c q hq
    exact ⟨pre_get (List.prefix_append _ _) this.1, this.2⟩
  · rw [List.getElem?_append] at hx
    split at hx
    · exact h.2.1 c x hx
    · rw [List.getElem?_singleton] at hx
      split at hx
      · cases hx; exact hi
      · cases hx
theorem own_any (h : OnJ Z q p j P O K) {i : Nat} (hi : i < 64) (hl : (alls P O).length < 1000) :
    (O.length = 12 ∧ jOwn q p j j.ow i = ⟨7, p, j⟩) ∨ ((jOwn q p j j.ow i).e = 8 ∧ OffQ (SvQ Z (alls P (O ++ [i])) P j.sy j.os K) q (jOwn q p j j.ow i).p) ∨ ((jOwn q p j j.ow i).e = 0 ∧ OnJ Z q (jOwn q p j j.ow i).p (jOwn q p j j.ow i).j P (O ++ [i]) K ∧ (jOwn q p j j.ow i).j.sy = j.sy ∧ (jOwn q p j j.ow i).j.os = j.os ∧ (jOwn q p j j.ow i).j.m = j.m) := by
  have hal := alls_len P O
  have how : j.ow = (alls P O).length := by unfold Jn.ow; rw [h.c, h.ah, hal]
  have h0 : jOwn q p j j.ow i = if 12 ≤ j.ah.length then ⟨7, p, j⟩ else if wrE' q p j (rO j.ow i) = 0 then ⟨0, wrP q p j (rO j.ow i), { j.wrote 0 with ah := j.ah ++ [i] }⟩ else ⟨wrE' q p j (rO j.ow i), wrP q p j (rO j.ow i), j.wrote (wrE' q p j (rO j.ow i))⟩ := by
    unfold jOwn
    rw [if_neg (by rw [h.br]; decide), if_neg (by omega), if_neg (by omega)]
  rw [h0]
  by_cases h12 : 12 ≤ j.ah.length
  · left
    rw [if_pos h12]
    exact ⟨by have := h.ol; rw [h.ah] at h12; omega, rfl⟩
  · right
    rw [if_neg h12]
    rw [h.ah] at h12
    have hr : Bd (alls P (O ++ [i])) P P.length (alls P O).length [rO j.ow i] P.length (alls P (O ++ [i])).length := by
      refine .inl ⟨i, by rw [how], ?_, by omega, rfl, ?_⟩
      · rw [alls_snoc, List.getElem?_append_right (Nat.le_refl _), Nat.sub_self]; rfl
      · rw [alls_snoc]; simp
    rcases app_any h (P' := P) (O' := O ++ [i]) (by rw [alls_snoc]; exact List.prefix_append _ _) (List.prefix_refl _) hr (by rw [alls_snoc]; exact fol_snoc h.U hi hl) (by simp; omega) with ⟨e, k⟩ | ⟨e, k⟩
    · left
      rw [e, if_neg (by decide)]
      exact ⟨rfl, k⟩
    · right
      rw [if_pos e]
      exact ⟨rfl, k _ rfl h.c (by show j.ah ++ [i] = _; rw [h.ah]) rfl rfl rfl, rfl, rfl, rfl⟩
theorem sure_any {a b : Nat} {O' : List Nat} (h : OnJ Z q p j P (a :: O') K) (hb : b < 64) :
    ((jSure q p j j.c a b).e = 8 ∧ OffQ (SvQ Z (alls (P ++ [(a, b)]) O') (P ++ [(a, b)]) j.sy j.os K) q (jSure q p j j.c a b).p) ∨ ((jSure q p j j.c a b).e = 0 ∧ OnJ Z q (jSure q p j j.c a b).p (jSure q p j j.c a b).j (P ++ [(a, b)]) O' K ∧ (jSure q p j j.c a b).j.sy = j.sy ∧ (jSure q p j j.c a b).j.os = j.os ∧ (jSure q p j j.c a b).j.m = j.m) := by
  have hal := alls_len P (a :: O')
  have hUa : (alls P (a :: O'))[P.length]? = some a := by unfold alls; rw [List.getElem?_append_right (by simp)]; simp
  have ha : a < 64 := h.U.2.1 _ _ hUa
  have h0 : jSure q p j j.c a b = if wrE' q p j (rS j.c a b) = 0 then ⟨0, wrP q p j (rS j.c a b), { j.wrote 0 with c := j.c + 1, ah := j.ah.tail }⟩ else ⟨wrE' q p j (rS j.c a b), wrP q p j (rS j.c a b), j.wrote (wrE' q p j (rS j.c a b))⟩ := by
    unfold jSure
    rw [if_neg (by rw [h.br]; decide), if_neg (by omega), if_neg (by rw [h.ah]; simp), if_neg (by rw [h.ah, h.pl]; simp [sid])]
  rw [h0]
  have hPl : (P ++ [(a, b)]).length = P.length + 1 := by simp
  have hU2 : Fol (alls P (a :: O')) (P ++ [(a, b)]) := by
    refine ⟨fun c q hq => ?_, h.U.2⟩
    rw [List.getElem?_append] at hq
    split at hq
    · exact h.U.1 c q hq
    · rename_i hc
      rw [List.getElem?_singleton] at hq
      split at hq
      · cases hq
        have : c = P.length := by omega
        subst this
        exact ⟨hUa, ha, hb⟩
      · cases hq
  have hr : Bd (alls (P ++ [(a, b)]) O') (P ++ [(a, b)]) P.length (alls P (a :: O')).length [rS j.c a b] (P ++ [(a, b)]).length (alls (P ++ [(a, b)]) O').length := by
    refine .inr ⟨(a, b), by rw [h.c], ?_, by rw [hal, List.length_cons]; omega, hPl.symm, by rw [alls_sure]⟩
    rw [List.getElem?_append_right (Nat.le_refl _), Nat.sub_self]; rfl
  rcases app_any h (P' := P ++ [(a, b)]) (O' := O') (by rw [alls_sure]; exact List.prefix_refl _) (List.prefix_append _ _) hr (by rw [alls_sure]; exact hU2) (by have := h.ol; rw [List.length_cons] at this; omega) with ⟨e, k⟩ | ⟨e, k⟩
  · left
    rw [e, if_neg (by decide)]
    exact ⟨rfl, k⟩
  · right
    rw [if_pos e]
    exact ⟨rfl, k _ rfl (by show j.c + 1 = _; rw [h.c, hPl]) (by show j.ah.tail = _; rw [h.ah]; rfl) rfl rfl rfl, rfl, rfl, rfl⟩
theorem svq_less {U : List Nat} {P : List (Nat × Nat)} {s o s' o' K : Nat} {E : List Ent} (h : SvQ Z U P s o K E) (h1 : s' ≤ s) (h2 : o' ≤ o) (hF : ∀ m, fnd nM E = some ⟨nM, enc m, (enc m).length⟩ → m.ok = true → m.fit → m.ck.length < 2 → ∀ N F r, m.sg = (N, F) :: r → F ≤ s') : SvQ Z U P s' o' K E := by
  refine ⟨?_, h.2⟩
  rcases h.1 with ⟨a, b, c⟩ | ⟨m, a⟩
  · exact .inl ⟨a, by omega, by omega⟩
  · refine .inr ⟨m, a.man, a.ok, a.fit, a.pl, chn_imp a.ch fun x _ ⟨l, su, k, j, c', o', c1, o1, g1, g2, g3, g4, g5, g6, g⟩ => ⟨l, su, k, j, c', o', c1, o1, g1, g2, g3, g4, by omega, by omega, g⟩, ?_, a.bN, a.bE, a.z⟩
    obtain ⟨N, F, r, e, f1, f2⟩ := a.fs
    exact ⟨N, F, r, e, f1, fun hc => hF m a.man a.ok a.fit hc N F r e⟩
theorem sync_any (h : OnJ Z q p j P O K) :
    ((jSync q p j).e = 8 ∧ OffQ (SvQ Z (alls P O) P j.sy j.os K) q (jSync q p j).p) ∨ ((jSync q p j).e = 0 ∧ OnJ Z q (jSync q p j).p (jSync q p j).j P O K ∧ (jSync q p j).j = { j with sy := j.c, os := j.ow, br := false }) := by
  obtain ⟨N, F, l, su, i, a1, a2, a3, a4, a5, a6, a7, aN, aF, a8, a9, a10, a11⟩ := h.last
  have hal := alls_len P O
  have how : j.ow = (alls P O).length := by unfold Jn.ow; rw [h.c, h.ah, hal]
  have h0 : jSync q p j = if p.wrc 2 q (sgn N) [] = 0 then ⟨0, p.wr 2 q (sgn N) [], { j.hold 0 with sy := j.c, os := j.ow }⟩ else ⟨(p.wrc 2 q (sgn N) [] : Nat), p.wr 2 q (sgn N) [], j.hold (p.wrc 2 q (sgn N) [] : Nat)⟩ := by
    unfold jSync
    rw [if_neg (by rw [h.br]; decide), a2]
  rw [h0]
  have hsy := fun n => fnd_sync h.good n a3
  have hne : ∀ n, n ≠ sgn N → fnd n (aSync p.E (sgn N)) = fnd n p.E := fun n hn => by rw [(hsy n).2, if_neg hn]
  have hE' : fnd (sgn N) (aSync p.E (sgn N)) = some ⟨sgn N, bys (rHd N F j.m.ep 0 :: l), (bys (rHd N F j.m.ep 0 :: l)).length⟩ := by rw [(hsy _).2, if_pos rfl]
  have hon : ∀ p' : Pw, p'.off = false → DGood q p'.E → p'.E = aSync p.E (sgn N) → OnJ Z q p' { j.hold 0 with sy := j.c, os := j.ow } P O K := fun p' o' g' hpE => by
    refine ⟨o', h.hq, g', ?_, h.ok, h.fit, h.pl, ?_, fun e he => ?_, h.c, h.ah, rfl, fun x hx => ?_, by show j.c ≤ _; rw [h.c]; exact Nat.le_refl _, by show j.ow ≤ _; rw [how]; exact Nat.le_refl _, h.ol, by show j.c ≤ j.ow; unfold Jn.ow; omega, h.U, h.bN, h.bE, h.z⟩
    · show fnd nM p'.E = _
      rw [hpE, hne _ (sgn_nM N).1.symm]; exact h.man
    · show Chn _ _ _ _ (LOn _ _ _ _ j.c j.ow) j.m.sg
      rw [hpE, h.c, how]
      refine chn_turn (List.prefix_refl _) (List.prefix_refl _) h.ch (fun x hx => hne _ (a8 x hx)) fun x hx _ => ?_
      rw [a1] at hx
      cases hx
      exact ⟨l, _, l.length, hE', a4, by rw [List.take_length]; exact a4, Nat.le_refl _, by rw [List.take_length]; rfl⟩
    · have h1 := fnd_get g'.srt he
      by_cases hn : e.nm = sgn N
      · exact .inr ⟨(N, F), last_mem a1, hn⟩
      · rw [hpE, hne _ hn] at h1
        exact h.nms e (fnd_mem h1)
    · have := h.fs x hx
      have := h.sy
      show x.2 ≤ j.c
      rw [h.c]; omega
  have q1 : SvQ Z (alls P O) P j.sy j.os K (aSync p.E (sgn N)) := by
    have h1 := hon ⟨0, [], 0, false, aSync p.E (sgn N)⟩ rfl (good_sync h.good _) rfl
    have hm := h1.man
    refine svq_less h1.svq (by show j.sy ≤ j.c; rw [h.c]; exact h.sy) (by show j.os ≤ j.ow; rw [how]; exact h.os) fun m hm2 k1 k2 hc N F r e => ?_
    have hm : fnd nM (aSync p.E (sgn _)) = some ⟨nM, enc j.m, (enc j.m).length⟩ := hm
    rw [hm] at hm2
    have : j.m = m := enc_inj h.fit k2 h.ok k1 (by injection hm2 with hm2; injection hm2)
    subst this
    exact h.fs (N, F) (by rw [e]; simp)
  rcases q_wr svq_crash 2 (sgn N) [] h.off h.good h.svq q1 with ⟨c1, c2⟩ | ⟨c1, c2, c3, c4⟩
  · left
    rw [c1, if_neg (by decide)]
    exact ⟨rfl, c2⟩
  · right
    have z : p.wrc 2 q (sgn N) [] = 0 := by rw [c1]; exact (hsy (sgn N)).1
    rw [if_pos z]
    exact ⟨rfl, hon _ c2 c4 c3, rfl⟩
end
end Go.Proofs.YtgeaacabpnepmaaGreatDoor
/- Roll and Keep, of a journal whose power may go off. Nothing of the program. -/
namespace Go.Proofs.YtgeaacabpnepmaaGreatDoor
open Go.RowKit
set_option linter.unusedVariables false
set_option linter.unusedSimpArgs false
set_option maxRecDepth 20000

section
variable {Z q : Nat} {p : Pw} {j : Jn} {P : List (Nat × Nat)} {O : List Nat} {K : Nat}
theorem swap_any {P : List (Nat × Nat)} {U : List Nat} {s o K : Nat} {m m' : Mf} (hq : 1048576 ≤ q) (ho : p.off = false) (hg : DGood q p.E) (hx : SvXQ Z U P s o K m p.E) (hl : p.E.length ≤ 14) (hok : m'.ok = true) (hN : ∀ x ∈ m'.sg, x.1 < 18446744073709551616)
    (hs : ∀ E', (∀ n, n ≠ nM → n ≠ nN → fnd n E' = fnd n p.E) → fnd nM E' = some ⟨nM, enc m', (enc m').length⟩ → SvM Z U P s o (K + 1) m' E') :
    (swE q m' p = 8 ∧ OffQ (SvQ Z U P s o (K + 1)) q (swP q m' p)) ∨ (swE q m' p = 0 ∧ OnF q (swP q m' p) (swF (enc m') (fun n => fnd n p.E)) ∧ SvXQ Z U P s o (K + 1) m' (swP q m' p).E) := by
  have hxq : ∀ E, SvXQ Z U P s o K m E → SvQ Z U P s o (K + 1) E := fun E h => svq_mono (svx_q h) (List.prefix_refl _) (List.prefix_refl _) (Nat.le_succ _)
  have fin : ∀ E', DGood q E' → (∀ n, fnd n E' = swF (enc m') (fun n => fnd n p.E) n) → E'.length ≤ 15 → SvXQ Z U P s o (K + 1) m' E' := fun E' g' ha hle => by
    refine ⟨.inr (hs E' (fun n h1 h2 => by rw [ha]; unfold swF; rw [if_neg h1, if_neg h2]) (by rw [ha]; exact if_pos rfl)), hle, fun f => ?_⟩
    rw [ha]
    unfold swF
    rw [if_neg (ckn_sgn f 0).2.1, if_neg (ckn_sgn f 0).2.2]
    exact hx.2.2 f
  have hsw := q_swap (Q := SvQ Z U P s o (K + 1)) (t := enc m') (p := p) svq_crash (enc_len hok) hl hq ho hg (hxq _ hx)
    (fun E' _ ha hle => hxq _ (svx_ext hx (ha _ (by decide)) (fun x _ => ha _ (sgn_nM _).2) (by omega) fun f => by rw [ha _ (ckn_sgn f 0).2.2]; exact hx.2.2 f))
    (fun E' g' ha hle => svx_q (fin E' g' ha (by omega)))
  obtain ⟨y1, y2⟩ := sw_yes (q := q) (p := p) hok
  unfold SwR at hsw
  rw [← y1, ← y2] at hsw
  rcases hsw with ⟨g1, g2⟩ | ⟨g1, g2, g3, g4⟩
  · exact .inl ⟨g1, g2⟩
  · exact .inr ⟨g1, g2, fin _ g2.good g2.fs (by omega)⟩
theorem OnJ.svx (h : OnJ Z q p j P O K) : SvXQ Z (alls P O) P j.sy j.os K j.m p.E :=
  ⟨.inr ⟨h.man, h.ok, h.fit, h.pl, chn_imp h.ch fun x _ hx => lon_off hx, h.first, h.bN, h.bE, h.z⟩, h.svq.2⟩
end
end Go.Proofs.YtgeaacabpnepmaaGreatDoor
