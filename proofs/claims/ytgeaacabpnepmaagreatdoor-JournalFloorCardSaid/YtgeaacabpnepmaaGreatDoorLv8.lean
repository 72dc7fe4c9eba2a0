/- Texts of the walk. -/
import Derived.Test.YtgeaacabpnepmaaGreatDoorKn8
/- Keep, of a journal whose power may go off. Nothing of the program. -/
namespace Go.Proofs.YtgeaacabpnepmaaGreatDoor
open Go.RowKit
set_option linter.unusedVariables false
set_option linter.unusedSimpArgs false
set_option maxRecDepth 20000

theorem dropS_says (b : Nat) : ∀ (l : List (Nat × Nat)), l ≠ [] → (∃ a, l = a ++ dropS b l) ∧ dropS b l ≠ [] ∧ (∀ x, l.head? = some x → (dropS b l).head? = some x ∨ ∃ y, (dropS b l).head? = some y ∧ y.2 ≤ b)
  | [], h => absurd rfl h
  | [s], _ => ⟨⟨[], rfl⟩, by simp [dropS], fun x hx => .inl hx⟩
  | s :: t :: l, _ => by
    unfold dropS
    split
    · rename_i ht
      obtain ⟨⟨a, h1⟩, h2, h3⟩ := dropS_says b (t :: l) (by simp)
      refine ⟨⟨s :: a, by rw [List.cons_append, ← h1]⟩, h2, fun x _ => ?_⟩
      rcases h3 t rfl with h4 | h4
      · exact .inr ⟨t, h4, ht⟩
      · exact .inr h4
    · exact ⟨⟨[], rfl⟩, by simp, fun x hx => .inl hx⟩
theorem sgOk_suf : ∀ {a l : List (Nat × Nat)} {x y : Nat}, sgOk x y (a ++ l) = true → sgOk x y l = true
  | [], _, _, _, h => h
  | p :: a, l, x, y, h => by
    simp only [List.cons_append, sgOk, Bool.and_eq_true, decide_eq_true_eq] at h
    exact sgOk_weak (sgOk_suf h.2.2) (by omega) h.2.1
theorem getLast_suf {a l : List (Nat × Nat)} (h : l ≠ []) : (a ++ l).getLast? = l.getLast? := by
  rw [List.getLast?_append]
  cases hl : l.getLast? with
  | none => rw [List.getLast?_eq_none_iff] at hl; exact absurd hl h
  | some x => rfl
section
variable {Z q : Nat} {p : Pw} {j : Jn} {P : List (Nat × Nat)} {O : List Nat} {K : Nat}
theorem keep_ok (h : OnJ Z q p j P O K) (b : Nat) (ck : List Nat) : (⟨j.m.ep, j.m.pl, j.m.sg, ck⟩ : Mf).ok = cksB ck ∧ (kpM j b ck).ok = cksB ck := by
  have ho := Mf.ok_iff.1 h.ok
  have hs := segsB_iff.1 ho.2.2.1
  obtain ⟨⟨a, h1⟩, h2, _⟩ := dropS_says b j.m.sg (by intro e; rw [e] at hs; exact absurd hs.1 (by decide))
  have hd : segsB (dropS b j.m.sg) = true := by
    refine segsB_iff.2 ⟨List.length_pos_iff.2 h2, ?_, ?_⟩
    · have := congrArg List.length h1; rw [List.length_append] at this; omega
    · have := hs.2.2; rw [h1] at this; exact sgOk_suf this
  constructor
  · rw [Bool.eq_iff_iff, Mf.ok_iff]; exact ⟨fun h => h.2.2.2, fun h => ⟨ho.1, ho.2.1, ho.2.2.1, h⟩⟩
  · rw [Bool.eq_iff_iff, Mf.ok_iff]; exact ⟨fun h => h.2.2.2, fun h => ⟨ho.1, ho.2.1, hd, h⟩⟩
set_option maxHeartbeats 2000000 in
theorem keep_any (h : OnJ Z q p j P O K) (b : Nat) {ck : List Nat} (hck : cksB ck = true) (hcf : ckFit ck) (hz : ck.length ≤ Z) :
    ((jKeep q p j b ck).e = 8 ∧ OffQ (SvQ Z (alls P O) P j.sy j.os (K + 1)) q (jKeep q p j b ck).p) ∨ ((jKeep q p j b ck).e = 0 ∧ OnJ Z q (jKeep q p j b ck).p (jKeep q p j b ck).j P O (K + 1) ∧ (jKeep q p j b ck).j.sy = j.sy ∧ (jKeep q p j b ck).j.os = j.os ∧ (jKeep q p j b ck).j.m = kpM j b ck) := by
  obtain ⟨k1, k2⟩ := keep_ok h b ck
  rw [hck] at k1 k2
  have ho := Mf.ok_iff.1 h.ok
  have hs := h.sgs
  have hne : j.m.sg ≠ [] := fun e => by rw [e] at hs; exact absurd hs.1 (by decide)
  obtain ⟨⟨a, h1⟩, h2, _⟩ := dropS_says b j.m.sg hne
  have hsub : ∀ x ∈ dropS b j.m.sg, x ∈ j.m.sg := fun x hx => by rw [h1]; exact List.mem_append.2 (.inr hx)
  have hls : lastS (dropS b j.m.sg) = lastS j.m.sg := by
    unfold lastS
    rw [List.getLastD_eq_getLast?, List.getLastD_eq_getLast?]
    conv => rhs; rw [h1]
    rw [getLast_suf h2]
  have hR0 : jKeep q p j b ck = if swE q (kpM j b ck) p = 0 then ⟨jsE q p (kpM j b ck), jsP q p (kpM j b ck), { j.hold (jsE q p (kpM j b ck)) with m := kpM j b ck }⟩ else ⟨jsE q p (kpM j b ck), jsP q p (kpM j b ck), j.hold (jsE q p (kpM j b ck))⟩ := by
    unfold jKeep
    rw [if_neg (by rw [h.br]; decide), if_neg (by rw [k1]; decide)]
  rw [hR0]
  have hfit : (kpM j b ck).fit := ⟨h.fit.ep, h.fit.pl, fun x hx => h.fit.sg x (hsub x hx), hcf⟩
  have hch : ∀ E', (∀ n, n ≠ nM → n ≠ nN → fnd n E' = fnd n p.E) → Chn (alls P O) P j.m.ep E' (LOn (alls P O) P j.m.ep E' j.sy j.os) (dropS b j.m.sg) := fun E' ha => by
    refine chn_drop b (chn_turn (List.prefix_refl _) (List.prefix_refl _) h.ch (fun x hx => ha _ (sgn_nM _).1 (sgn_nM _).2) fun x hx ⟨l, su, i, x1, x⟩ => ⟨l, su, i, ?_, x⟩)
    rw [ha _ (sgn_nM _).1 (sgn_nM _).2]; exact x1
  have hsw := swap_any (m' := kpM j b ck) h.hq h.off h.good h.svx (by have := h.len; omega) k2 (fun x hx => (hfit.sg x hx).1) (fun E' ha hM => by
    refine ⟨hM, k2, hfit, h.pl, chn_imp (hch E' ha) fun x _ hx => lon_off hx, ?_, by show (lastS (dropS b j.m.sg)).1 ≤ _; rw [hls]; exact Nat.le_succ_of_le h.bN, Nat.le_succ_of_le h.bE, hz⟩
    match hd : dropS b j.m.sg, h2 with
    | (N, F) :: r, _ =>
      have := h.fs (N, F) (hsub _ (by rw [hd]; simp))
      exact ⟨N, F, r, hd, Nat.le_trans this h.sy, fun _ => this⟩)
  rcases hsw with ⟨g1, g2⟩ | ⟨g1, g2, g3⟩
  · left
    have j1 : jsE q p (kpM j b ck) = 8 := by unfold jsE; rw [if_neg (by rw [g1]; decide), g1]; rfl
    have j2 : jsP q p (kpM j b ck) = swP q (kpM j b ck) p := by unfold jsP; rw [if_neg (by rw [g1]; decide)]
    rw [if_neg (by rw [g1]; decide)]
    exact ⟨j1, by show OffQ _ _ (jsP q p (kpM j b ck)); rw [j2]; exact g2⟩
  · rw [if_pos g1]
    have j1 : jsE q p (kpM j b ck) = (((clr q (jfs (kpM j b ck)) (swP q (kpM j b ck) p).names (swP q (kpM j b ck) p)).1 : Nat) : Int) := by unfold jsE; rw [if_pos g1]
    have j2 : jsP q p (kpM j b ck) = (clr q (jfs (kpM j b ck)) (swP q (kpM j b ck) p).names (swP q (kpM j b ck) p)).2 := by unfold jsP; rw [if_pos g1]
    rw [j1, j2]
    generalize hp3 : swP q (kpM j b ck) p = p3 at *
    rcases clear_any g2.off g2.good g3 with ⟨z1, z2⟩ | ⟨z1, z2, z3, z4⟩
    · left
      rw [z1]
      exact ⟨rfl, z2.1, z2.2.1, svx_q z2.2.2⟩
    · right
      rw [z1]
      generalize hp4 : (clr q (jfs (kpM j b ck)) p3.names p3).2 = p4 at *
      refine ⟨rfl, ⟨z2.off, h.hq, z2.good, ?_, k2, hfit, h.pl, ?_, z4, h.c, h.ah, rfl, fun x hx => h.fs x (hsub x hx), h.sy, h.os, h.ol, h.so, h.U, by show (lastS (dropS b j.m.sg)).1 ≤ _; rw [hls]; exact Nat.le_succ_of_le h.bN, Nat.le_succ_of_le h.bE, hz⟩, rfl, rfl, rfl⟩
      · show fnd nM p4.E = some ⟨nM, enc (kpM j b ck), _⟩
        rw [z2.fs, if_pos (jfs_nM _), g2.fs]; exact if_pos rfl
      · show Chn _ _ j.m.ep p4.E (LOn _ _ j.m.ep p4.E j.sy j.os) (dropS b j.m.sg)
        have hc3 := hch p3.E fun n h1 h2 => by rw [g2.fs]; unfold swF; rw [if_neg h1, if_neg h2]
        have hin : ∀ x ∈ dropS b j.m.sg, fnd (sgn x.1) p4.E = fnd (sgn x.1) p3.E := fun x hx => by rw [z2.fs, if_pos (jfs_sg (m := kpM j b ck) hx)]
        refine chn_turn (List.prefix_refl _) (List.prefix_refl _) hc3 (fun x hx => hin x (drop_mem hx)) fun x hx ⟨l, su, i, x1, x2⟩ => ⟨l, su, i, ?_, x2⟩
        rw [hin x (last_mem hx)]; exact x1
end
end Go.Proofs.YtgeaacabpnepmaaGreatDoor
/- A fuse that never comes: openings, calls; an opening once more; the chapter's floor. -/
namespace Go.Proofs.YtgeaacabpnepmaaGreatDoor
set_option linter.unusedVariables false
set_option linter.unusedSimpArgs false

theorem nv_jsP {p : Pw} (h : Nv p) (q : Nat) (m : Mf) : Nv (jsP q p m) := by
  unfold jsP
  split
  · exact nv_clr _ _ _ (nv_swP h _ _)
  · exact nv_swP h _ _
theorem nv_fdR {p : Pw} (h : Nv p) (q pl : Nat) : Nv (fdR q pl p).p := by
  unfold fdR
  (repeat' split) <;> first | exact nv_clr _ _ _ h | exact h
theorem nv_opB {p : Pw} (h : Nv p) (q pl : Nat) (m : Mf) (x : Cn) (l : List Rc) (f : Bool) : Nv (opB q pl p m x l f).p := by
  unfold opB
  (repeat' split) <;> first | exact nv_jsP (nv_SBP h _ _ _) _ _ | exact nv_SBP h _ _ _
theorem nv_opR {p : Pw} (h : Nv p) (q pl : Nat) (rows : Int) : Nv (opR q pl rows p).p := by
  unfold opR
  (repeat' split) <;> first | exact nv_opB (nv_fdR h _ _) _ _ _ _ _ _ | exact nv_fdR h _ _ | exact h
theorem nv_jOwn {p : Pw} (h : Nv p) (q : Nat) (j : Jn) (f i : Nat) : Nv (jOwn q p j f i).p := by
  unfold jOwn
  (repeat' split) <;> first | exact h | exact nv_SAP h _ _ _
theorem nv_jSure {p : Pw} (h : Nv p) (q : Nat) (j : Jn) (f a b : Nat) : Nv (jSure q p j f a b).p := by
  unfold jSure
  (repeat' split) <;> first | exact h | exact nv_SAP h _ _ _
theorem nv_jSync {p : Pw} (h : Nv p) (q : Nat) (j : Jn) : Nv (jSync q p j).p := by
  unfold jSync
  (repeat' split) <;> first | exact h | exact nv_wr h _ _ _ _
theorem nv_jKeep {p : Pw} (h : Nv p) (q : Nat) (j : Jn) (b : Nat) (ck : List Nat) : Nv (jKeep q p j b ck).p := by
  unfold jKeep
  (repeat' split) <;> first | exact h | exact nv_jsP h _ _
theorem n_jOwn (p : Pw) (q : Nat) (j : Jn) (f i : Nat) : (jOwn q p j f i).p.n ≤ p.n + 1 ∧ (jOwn q p j f i).j.ap ≤ j.ap + 1 := by
  have := (SAP_says p q (lastS j.m.sg).1 (rO f i)).2.2
  unfold jOwn Jn.wrote
  (repeat' split) <;> first | exact ⟨Nat.le_succ _, Nat.le_succ _⟩ | (refine ⟨this, ?_⟩; dsimp only; (try split) <;> omega)
theorem n_jSure (p : Pw) (q : Nat) (j : Jn) (f a b : Nat) : (jSure q p j f a b).p.n ≤ p.n + 1 ∧ (jSure q p j f a b).j.ap ≤ j.ap + 1 := by
  have := (SAP_says p q (lastS j.m.sg).1 (rS f a b)).2.2
  unfold jSure Jn.wrote
  (repeat' split) <;> first | exact ⟨Nat.le_succ _, Nat.le_succ _⟩ | (refine ⟨this, ?_⟩; dsimp only; (try split) <;> omega)
theorem jSync_n (q : Nat) (p : Pw) (j : Jn) : (jSync q p j).p.n ≤ p.n + 1 := by
  unfold jSync
  (repeat' split) <;> first | exact Nat.le_succ _ | exact wr_n _ _ _ _ _
section
variable {Z q : Nat} {p : Pw} {j : Jn} {P : List (Nat × Nat)} {O : List Nat} {K : Nat}
theorem OnJ.svm (h : OnJ Z q p j P O K) : SvM Z (alls P O) P j.sy j.os K j.m p.E := ⟨h.man, h.ok, h.fit, h.pl, chn_imp h.ch fun x _ hx => lon_off hx, h.first, h.bN, h.bE, h.z⟩
theorem open_re (h : OnJ Z q p j P [] K) (hs : j.sy = P.length) (hK : K < 1000000) {N F : Nat} {r : List (Nat × Nat)} (hsg : j.m.sg = (N, F) :: r) {rows : Nat} (h4 : 4 ≤ rows) (h32 : rows ≤ 32) {R : Op} (hR : opR q 0 (rows : Int) ⟨-1, [], 0, false, p.E⟩ = R) :
    R.e = 0 ∧ R.x = cnOut j.m.ck ⟨F, P.length, [], sl P F P.length⟩ ∧ OnJ Z q R.p (opJ rows R) P [] (K + 1) ∧ R.m = opM 0 j.m R.x ∧ F ≤ P.length := by
  subst hR
  rcases open_any (p := ⟨-1, [], 0, false, p.E⟩) h.hq rfl h.good h.svq h.U h.sy hK h4 h32 with ⟨_, ho, _⟩ | ⟨F', n, b, A⟩
  · have := (nv_opR (p := ⟨-1, [], 0, false, p.E⟩) ⟨rfl, show (-1 : Int) < 0 from by decide⟩ q 0 (rows : Int)).1
    rw [ho] at this
    cases this
  · have hbE := h.bE
    have hjm : jlM ⟨-1, [], 0, false, p.E⟩ 0 = j.m := ((sv_load (p := ⟨-1, [], 0, false, p.E⟩) rfl h.good).2 j.m h.svm (by omega)).2
    have e1 := A.fd.hs
    have e2 := A.fd.hn
    have e3 := A.fd.nb
    have e4 := A.fd.hb
    rw [alls_len] at e4
    have hn : n = P.length := by omega
    have hb : b = P.length := by simp at e4; omega
    have hF : F' = F := A.hd N F r (by rw [hjm]; exact hsg)
    subst hF hn
    have hx := A.fd.hx
    have hon := A.on
    rw [hb, sl_nil] at hx hon
    rw [List.take_length] at hon
    refine ⟨A.e, by rw [hx, hjm], hon, by rw [A.m, hjm], A.fd.fn⟩
def flr (ck : List Nat) (c : Nat) : Nat := if ck.length < 2 ∨ c < 12 then 0 else min (ck.getD 1 0) (c - 12)
theorem flr_le (ck : List Nat) (c : Nat) : flr ck c ≤ c := by unfold flr; split <;> omega
theorem out_fl (ck : List Nat) {F : Nat} (hF : F ≤ P.length) : (cnOut ck ⟨F, P.length, [], sl P F P.length⟩).fr = max F (flr ck P.length) ∧ (cnOut ck ⟨F, P.length, [], sl P F P.length⟩).ps.length = P.length - max F (flr ck P.length) ∧ (cnOut ck ⟨F, P.length, [], sl P F P.length⟩).ah = [] := by
  have hl : (sl P F P.length).length = P.length - F := sl_len (Nat.le_refl _)
  unfold cnOut flr
  split
  · exact ⟨by simp, by dsimp only; omega, rfl⟩
  · split
    · rename_i h1 h2
      dsimp only at h2
      refine ⟨by dsimp only; omega, ?_, rfl⟩
      dsimp only
      rw [List.length_drop, hl]
      omega
    · rename_i h1 h2
      dsimp only at h2
      exact ⟨by dsimp only; omega, by dsimp only; omega, rfl⟩
theorem fl_step {f : Nat} (h : OnJ Z q p j (List.replicate f (5, 6)) [] K) (hn : Nv p) (hf : f < 70) {A S : Ans} (hA : jOwn q p j f 5 = A) (hS : jSure q A.p A.j f 5 6 = S) :
    A.e = 0 ∧ S.e = 0 ∧ OnJ Z q S.p S.j (List.replicate (f + 1) (5, 6)) [] K ∧ Nv S.p ∧ S.j.m = j.m ∧ A.p.n ≤ p.n + 1 ∧ S.p.n ≤ p.n + 2 ∧ A.j.ap ≤ j.ap + 1 ∧ S.j.ap ≤ j.ap + 2 := by
  have how : j.ow = f := by unfold Jn.ow; rw [h.c, h.ah]; simp
  have a1 := n_jOwn p q j f 5
  have a2 := nv_jOwn hn q j f 5
  rw [hA] at a1 a2
  have s1 := n_jSure A.p q A.j f 5 6
  have s2 := nv_jSure a2 q A.j f 5 6
  rw [hS] at s1 s2
  have ho := own_any h (i := 5) (by decide) (by rw [alls_len]; simp; omega)
  rw [how, hA] at ho
  rcases ho with ⟨h0, _⟩ | ⟨_, h0, _⟩ | ⟨e1, on1, _, _, m1⟩
  · cases h0
  · have := a2.1; rw [h0] at this; cases this
  have hs := sure_any (a := 5) (b := 6) (O' := []) on1 (by decide)
  have hc : A.j.c = f := by rw [on1.c]; simp
  rw [hc, hS] at hs
  rcases hs with ⟨_, h0, _⟩ | ⟨e2, on2, _, _, m2⟩
  · have := s2.1; rw [h0] at this; cases this
  rw [← List.replicate_succ'] at on2
  exact ⟨e1, e2, on2, s2, by rw [m2, m1], a1.1, by omega, a1.2, by omega⟩
theorem fl_end (h : OnJ Z q p j P [] K) (hn : Nv p) (hK : K < 999990) {N : Nat} (hsg : j.m.sg = [(N, 0)]) {ck : List Nat} (hck : cksB ck = true) (hcf : ckFit ck) (hz : ck.length ≤ Z) {Y A : Ans} (hY : jSync q p j = Y) (hA : jKeep q Y.p Y.j 0 ck = A) :
    Y.e = 0 ∧ A.e = 0 ∧ Y.p.n ≤ p.n + 1 ∧ ∀ R1, opR q 0 4 ⟨-1, [], 0, false, A.p.E⟩ = R1 → R1.e = 0 ∧ R1.x.fr = flr ck P.length ∧ R1.x.ps.length = P.length - flr ck P.length ∧ R1.x.ah = [] ∧
      ∀ R2, opR q 0 4 ⟨-1, [], 0, false, R1.p.E⟩ = R2 → R2.e = 0 ∧ R2.x.fr = flr ck P.length ∧ R2.x.ps.length = P.length - flr ck P.length := by
  have y2 := nv_jSync hn q j
  have hy := sync_any h
  have y3 := (jSync_n q p j)
  rw [hY] at y2 hy y3
  rcases hy with ⟨_, h0, _⟩ | ⟨e1, on1, j1⟩
  · have := y2.1; rw [h0] at this; cases this
  have k2 := nv_jKeep y2 q Y.j 0 ck
  have hk := keep_any on1 0 hck hcf hz
  rw [hA] at k2 hk
  rcases hk with ⟨_, h0, _⟩ | ⟨e2, on2, s2, _, m2⟩
  · have := k2.1; rw [h0] at this; cases this
  have hs : A.j.sy = P.length := by rw [s2, j1]; exact h.c
  have hm : A.j.m.sg = [(N, 0)] := by rw [m2, j1]; show dropS 0 j.m.sg = _; rw [hsg]; rfl
  have hmc : A.j.m.ck = ck := by rw [m2]; rfl
  refine ⟨e1, e2, y3, fun R1 hR1 => ?_⟩
  obtain ⟨f1, f2, f3, f4, f5⟩ := open_re on2 hs (by omega) hm (rows := 4) (by decide) (by decide) hR1
  obtain ⟨g1, g2, g3⟩ := out_fl (P := P) ck f5
  rw [hmc] at f2
  rw [← f2] at g1 g2 g3
  rw [Nat.zero_max] at g1 g2
  refine ⟨f1, g1, g2, g3, fun R2 hR2 => ?_⟩
  have hc1 : (opJ 4 R1).c = P.length := f3.c
  have hm1 : (opJ 4 R1).m.sg = [(inc (lastS A.j.m.sg).1, R1.x.fr)] := by show R1.m.sg = _; rw [f4]; rfl
  have hck1 : (opJ 4 R1).m.ck = ck := by show R1.m.ck = _; rw [f4]; exact hmc
  obtain ⟨i1, i2, i3, i4, i5⟩ := open_re f3 hc1 (by omega) hm1 (rows := 4) (by decide) (by decide) hR2
  obtain ⟨l1, l2, _⟩ := out_fl (P := P) ck i5
  rw [hck1] at i2
  rw [← i2, g1, Nat.max_self] at l1 l2
  exact ⟨i1, l1, l2⟩
end
end Go.Proofs.YtgeaacabpnepmaaGreatDoor
