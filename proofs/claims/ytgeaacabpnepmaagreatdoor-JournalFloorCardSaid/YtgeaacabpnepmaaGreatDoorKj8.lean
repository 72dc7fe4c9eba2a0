/- Texts of the walk. -/
import Derived.Test.YtgeaacabpnepmaaGreatDoorKg8
/- What clearing, beginning a segment and a swap make of a disk, as a map; what stays true of it wherever the power goes off. Nothing of the program. -/
namespace Go.Proofs.YtgeaacabpnepmaaGreatDoor
open Go.RowKit
set_option linter.unusedVariables false
set_option linter.unusedSimpArgs false
set_option maxRecDepth 20000

/-! The keeps, the fuse and the count of a power. -/
theorem clr_says (q : Nat) (ks : List (List UInt8)) : ∀ (l : List (List UInt8)) (p : Pw), (clr q ks l p).2.ks = p.ks ∧ (clr q ks l p).2.fu = p.fu ∧ (clr q ks l p).2.n ≤ p.n + l.length
  | [], p => ⟨rfl, rfl, Nat.le_refl _⟩
  | n :: l, p => by
    rw [List.length_cons]
    unfold clr
    split
    · obtain ⟨h1, h2, h3⟩ := clr_says q ks l p
      exact ⟨h1, h2, by omega⟩
    · have hn := wr_n 4 q n [] p
      split
      · obtain ⟨h1, h2, h3⟩ := clr_says q ks l (p.wr 4 q n [])
        exact ⟨h1.trans (wr_ks _ _ _ _ _), h2.trans (wr_fu _ _ _ _ _), by omega⟩
      · exact ⟨wr_ks _ _ _ _ _, wr_fu _ _ _ _ _, by show (p.wr 4 q n []).n ≤ _; omega⟩
theorem bP_fu (q : Nat) (m t : List UInt8) (p : Pw) : ∀ j, (bP q m t p j).fu = p.fu
  | 0 => rfl
  | j + 1 => (wr_fu _ _ _ _ _).trans (bP_fu q m t p j)
theorem bPow_fu (q : Nat) (m t : List UInt8) (p : Pw) : (bPow q m t p).fu = p.fu ∧ (bPow q m t p).n ≤ p.n + 3 := by
  have h1 := bP_n q m t p 1
  have h2 := bP_n q m t p 2
  have h3 := bP_n q m t p 3
  unfold bPow
  split
  · exact ⟨bP_fu _ _ _ _ _, by omega⟩
  · split
    · exact ⟨bP_fu _ _ _ _ _, by omega⟩
    · exact ⟨bP_fu _ _ _ _ _, by omega⟩
theorem SBP_says (p : Pw) (q : Nat) (h : Rc) (l : List Rc) : (SBP p q h l).ks = p.ks ∧ (SBP p q h l).fu = p.fu ∧ (SBP p q h l).n ≤ p.n + 3 := by
  unfold SBP
  split
  · exact ⟨bPow_ks _ _ _ _, bPow_fu _ _ _ _⟩
  · exact ⟨rfl, rfl, by omega⟩
theorem stP_fu (q : Nat) (t : List UInt8) (p : Pw) (j : Nat) : (stP q t p j).fu = p.fu := by
  unfold stP
  (repeat' split) <;> first | exact wr_fu _ _ _ _ _ | rfl
theorem swR_fu (q : Nat) (t : List UInt8) : ∀ (f j : Nat) (p : Pw), (swR q t f j p).2.fu = p.fu
  | 0, _, _ => rfl
  | f + 1, j, p => by
    unfold swR
    split
    · rw [swR_fu q t f, stP_fu]
    · exact stP_fu _ _ _ _
theorem swP_says (q : Nat) (m : Mf) (p : Pw) : (swP q m p).ks = p.ks ∧ (swP q m p).fu = p.fu ∧ (swP q m p).n ≤ p.n + 5 := by
  refine ⟨swP_ks _ _ _, ?_, swP_n _ _ _⟩
  unfold swP
  split
  · exact swR_fu _ _ _ _ _
  · rfl
theorem SAP_says (p : Pw) (q n : Nat) (r : Rc) : (SAP p q n r).ks = p.ks ∧ (SAP p q n r).fu = p.fu ∧ (SAP p q n r).n ≤ p.n + 1 := by
  unfold SAP
  split
  · exact ⟨wr_ks _ _ _ _ _, wr_fu _ _ _ _ _, wr_n _ _ _ _ _⟩
  · exact ⟨rfl, rfl, by omega⟩
def Nv (p : Pw) : Prop := p.off = false ∧ p.fu < 0
theorem nv_wr {p : Pw} (h : Nv p) (k q : Nat) (n t : List UInt8) : Nv (p.wr k q n t) := ⟨(wr_never k q n t p h.1 h.2).2, by rw [wr_fu]; exact h.2⟩
theorem nv_clr (q : Nat) (ks : List (List UInt8)) : ∀ (l : List (List UInt8)) {p : Pw}, Nv p → Nv (clr q ks l p).2
  | [], _, h => h
  | n :: l, p, h => by
    unfold clr
    split
    · exact nv_clr q ks l h
    · split
      · exact nv_clr q ks l (nv_wr h _ _ _ _)
      · exact nv_wr h _ _ _ _
theorem nv_bP {p : Pw} (h : Nv p) (q : Nat) (m t : List UInt8) : ∀ j, Nv (bP q m t p j)
  | 0 => h
  | j + 1 => nv_wr (nv_bP h q m t j) _ _ _ _
theorem nv_SBP {p : Pw} (h : Nv p) (q : Nat) (hd : Rc) (l : List Rc) : Nv (SBP p q hd l) := by
  unfold SBP
  split
  · unfold bPow
    (repeat' split) <;> exact nv_bP h _ _ _ _
  · exact h
theorem nv_st {p : Pw} (h : Nv p) (q : Nat) (t : List UInt8) (j : Nat) : Nv (stP q t p j) := by
  unfold stP
  (repeat' split) <;> first | exact nv_wr h _ _ _ _ | exact h
theorem nv_swR (q : Nat) (t : List UInt8) : ∀ (f j : Nat) {p : Pw}, Nv p → Nv (swR q t f j p).2
  | 0, _, _, h => h
  | f + 1, j, p, h => by
    unfold swR
    split
    · exact nv_swR q t f _ (nv_st h _ _ _)
    · exact nv_st h _ _ _
theorem nv_swP {p : Pw} (h : Nv p) (q : Nat) (m : Mf) : Nv (swP q m p) := by
  unfold swP
  split
  · exact nv_swR _ _ _ _ h
  · exact h
theorem nv_SAP {p : Pw} (h : Nv p) (q n : Nat) (r : Rc) : Nv (SAP p q n r) := by
  unfold SAP
  split
  · exact nv_wr h _ _ _ _
  · exact h

/-! What stays true. -/
def OffQ (Q : List Ent → Prop) (q : Nat) (p : Pw) : Prop := p.off = true ∧ DGood q p.E ∧ Q p.E
structure OnF (q : Nat) (p : Pw) (f : List UInt8 → Option Ent) : Prop where
  off : p.off = false
  good : DGood q p.E
  fs : ∀ n, fnd n p.E = f n
section
variable {Q : List Ent → Prop} {q : Nat} {p : Pw}
def CrQ (Q : List Ent → Prop) (q : Nat) : Prop := ∀ ks E, DGood q E → Q E → Q (aCrash ks E)
theorem q_wr (hC : CrQ Q q) (k : Nat) (n t : List UInt8) (ho : p.off = false) (hg : DGood q p.E) (h0 : Q p.E) (h1 : Q (wrE k q p.E n t)) :
    (p.wrc k q n t = 8 ∧ OffQ Q q (p.wr k q n t)) ∨ (p.wrc k q n t = wrR k q p.E n t ∧ (p.wr k q n t).off = false ∧ (p.wr k q n t).E = wrE k q p.E n t ∧ DGood q (p.wr k q n t).E) := by
  have hg' := good_wr_p k hg n t
  rcases wr_cases k q n t p ho with ⟨e1, e2, E0, e3, e4⟩ | ⟨e1, e2, e3⟩
  · left
    refine ⟨e1, e2, hg', ?_⟩
    rw [e4]
    rcases e3 with rfl | rfl
    · exact hC _ _ hg h0
    · exact hC _ _ (good_wr k hg n t) h1
  · exact .inr ⟨e1, e2, e3, hg'⟩
theorem q_clr (hC : CrQ Q q) (ks : List (List UInt8)) (hR : ∀ E E', DGood q E → DGood q E' → (∀ n ∈ ks, fnd n E' = fnd n E) → (∀ n, fnd n E = none → fnd n E' = none) → E'.length ≤ E.length → Q E → Q E') : ∀ (l : List (List UInt8)) {p : Pw}, l.Nodup → (∀ n ∈ l, ∃ e, fnd n p.E = some e) → p.off = false → DGood q p.E → Q p.E →
    ((clr q ks l p).1 = 8 ∧ OffQ Q q (clr q ks l p).2) ∨ ((clr q ks l p).1 = 0 ∧ OnF q (clr q ks l p).2 (fun n => if n ∈ l ∧ n ∉ ks then none else fnd n p.E) ∧ (clr q ks l p).2.E.length ≤ p.E.length ∧ Q (clr q ks l p).2.E)
  | [], p, _, _, ho, hg, h0 => .inr ⟨rfl, ⟨ho, hg, fun n => by simp [clr]⟩, Nat.le_refl _, h0⟩
  | n :: l, p, hd, hl, ho, hg, h0 => by
    obtain ⟨hnl, hd'⟩ := List.nodup_cons.1 hd
    by_cases hn : n ∈ ks
    · have e : clr q ks (n :: l) p = clr q ks l p := if_pos hn
      rw [e]
      rcases q_clr hC ks hR l hd' (fun x hx => hl x (by simp [hx])) ho hg h0 with h | ⟨a1, a2, a3, a4⟩
      · exact .inl h
      · refine .inr ⟨a1, ⟨a2.off, a2.good, fun x => ?_⟩, a3, a4⟩
        rw [a2.fs]
        by_cases hx : x = n
        · subst hx
          rw [if_neg (fun h => h.2 hn), if_neg (fun h => h.2 hn)]
        · simp [hx]
    · obtain ⟨f, hf⟩ := hl n (by simp)
      have hrm := fnd_remove hg
      have e1 : wrR 4 q p.E n [] = 0 := (hrm n hf).1
      have eE : wrE 4 q p.E n [] = aRemove p.E n := rfl
      have hlen : (aRemove p.E n).length ≤ p.E.length := by rw [(hrm n hf).2.1]; exact del_len _ _
      have h1 : Q (wrE 4 q p.E n []) := hR p.E _ hg (good_remove hg n) (fun x hx => by rw [eE, (hrm x hf).2.2, if_neg (show ¬ x = n from fun e => hn (by rw [← e]; exact hx))]) (fun x hx => by rw [eE, (hrm x hf).2.2]; split; rfl; exact hx) hlen h0
      have e : clr q ks (n :: l) p = if p.wrc 4 q n [] = 0 then clr q ks l (p.wr 4 q n []) else (p.wrc 4 q n [], p.wr 4 q n []) := if_neg hn
      rw [e]
      rcases q_wr hC 4 n [] ho hg h0 h1 with ⟨c1, c2⟩ | ⟨c1, c2, c3, c4⟩
      · rw [c1, if_neg (by decide)]
        exact .inl ⟨rfl, c2⟩
      · rw [c1, e1, if_pos rfl]
        have hfs : ∀ x, fnd x (p.wr 4 q n []).E = if x = n then none else fnd x p.E := fun x => by rw [c3, eE]; exact (hrm x hf).2.2
        rcases q_clr hC ks hR l hd' (fun x hx => by rw [hfs, if_neg (show ¬ x = n from fun e => hnl (by rw [← e]; exact hx))]; exact hl x (by simp [hx])) c2 c4 (by rw [c3]; exact h1) with h | ⟨a1, a2, a3, a4⟩
        · exact .inl h
        · refine .inr ⟨a1, ⟨a2.off, a2.good, fun x => ?_⟩, Nat.le_trans a3 (by rw [c3]; exact hlen), a4⟩
          rw [a2.fs, hfs]
          by_cases hx : x = n
          · subst hx
            simp [hn]
          · rw [if_neg hx]
            simp [hx]
theorem q_begin (hC : CrQ Q q) {h : Rc} {l : List Rc} (hw : wok h l = true) (hf : fnd (sgn h.s) p.E = none) (hl : p.E.length ≤ 14) (hq : 1048576 ≤ q) (ht : (bys (h :: l)).length ≤ 65536)
    (hR : ∀ E', DGood q E' → (∀ n, n ≠ sgn h.s → fnd n E' = fnd n p.E) → E'.length ≤ p.E.length + 1 → Q E') (ho : p.off = false) (hg : DGood q p.E) (h0 : Q p.E) :
    (SBE p q h l = 8 ∧ OffQ Q q (SBP p q h l)) ∨ (SBE p q h l = 0 ∧ OnF q (SBP p q h l) (fun n => if n = sgn h.s then some ⟨sgn h.s, bys (h :: l), (bys (h :: l)).length⟩ else fnd n p.E) ∧ (SBP p q h l).E.length ≤ p.E.length + 1) := by
  have hnm := sgn_is h.s
  generalize hN : sgn h.s = N at *
  generalize hT : bys (h :: l) = t at *
  have eE : SBE p q h l = ((bErr q N t p : Nat) : Int) := by unfold SBE; rw [if_pos hw, hN, hT]
  have eP : SBP p q h l = bPow q N t p := by unfold SBP; rw [if_pos hw, hN, hT]
  rw [eE, eP]
  -- create
  have k1 := fun n => fnd_create hg n hnm hf (by omega)
  have l1 : (aCreate p.E N).length = p.E.length + 1 := by rw [(k1 N).2.1, insK_len]
  have g1 := good_create hg N
  have Q1 : Q (aCreate p.E N) := hR _ g1 (fun n hn => by rw [(k1 n).2.2, if_neg hn]) (by omega)
  have b0 : bC q N t p 0 = p.wrc 0 q N t := rfl
  have b1 : bP q N t p 1 = p.wr 0 q N t := rfl
  rcases q_wr hC 0 N t ho hg h0 Q1 with ⟨c1, c2⟩ | ⟨c1, c2, c3, c4⟩
  · left
    unfold bErr bPow
    rw [b0, c1, if_pos (by decide), if_pos (by decide), b1]
    exact ⟨rfl, c2⟩
  · have z0 : bC q N t p 0 = 0 := by rw [b0, c1]; exact (k1 N).1
    have c3 : (p.wr 0 q N t).E = aCreate p.E N := c3
    -- append
    have f1 : fnd N (aCreate p.E N) = some ⟨N, [], 0⟩ := by rw [(k1 N).2.2, if_pos rfl]
    have u1 := used_but g1 f1
    have k2 := fun n => fnd_append g1 n (t := t) f1 (by simpa using ht) (by simp at u1; omega)
    have g2 := good_append g1 N t
    have l2 : (aAppend q (aCreate p.E N) N t).length = p.E.length + 1 := by
      have e : aAppend q (aCreate p.E N) N t = setE ⟨N, [] ++ t, 0⟩ (aCreate p.E N) := by unfold aAppend; rw [if_pos (k2 N).1, f1]
      rw [e]; simp [setE, l1]
    have Q2 : Q (aAppend q (aCreate p.E N) N t) := hR _ g2 (fun n hn => by rw [(k2 n).2, if_neg hn, (k1 n).2.2, if_neg hn]) (by omega)
    have b2 : bC q N t p 1 = (p.wr 0 q N t).wrc 1 q N t := rfl
    have b3 : bP q N t p 2 = (p.wr 0 q N t).wr 1 q N t := rfl
    rcases q_wr hC 1 N t c2 c4 (by rw [c3]; exact Q1) (show Q (aAppend q (p.wr 0 q N t).E N t) by rw [c3]; exact Q2) with ⟨d1, d2⟩ | ⟨d1, d2, d3, d4⟩
    · left
      have n1 : bC q N t p 1 ≠ 0 := by rw [b2, d1]; decide
      have e1 : bErr q N t p = bC q N t p 1 := by unfold bErr; rw [if_neg (fun h => h z0), if_pos n1]
      have e2 : bPow q N t p = bP q N t p 2 := by unfold bPow; rw [if_neg (fun h => h z0), if_pos n1]
      rw [e1, e2, b2, b3, d1]
      exact ⟨rfl, d2⟩
    · have z1 : bC q N t p 1 = 0 := by
        rw [b2, d1]
        show eAppend q (p.wr 0 q N t).E N t = 0
        rw [c3]; exact (k2 N).1
      have d3 : ((p.wr 0 q N t).wr 1 q N t).E = aAppend q (aCreate p.E N) N t := by
        have d3 : ((p.wr 0 q N t).wr 1 q N t).E = aAppend q (p.wr 0 q N t).E N t := d3
        rw [d3, c3]
      -- sync
      have f2 : fnd N (aAppend q (aCreate p.E N) N t) = some ⟨N, t, 0⟩ := by rw [(k2 N).2, if_pos rfl]; rfl
      have k3 := fun n => fnd_sync g2 n f2
      have g3 := good_sync g2 N
      have l3 : (aSync (aAppend q (aCreate p.E N) N t) N).length = p.E.length + 1 := by
        have e : aSync (aAppend q (aCreate p.E N) N t) N = setE ⟨N, t, t.length⟩ (aAppend q (aCreate p.E N) N t) := by unfold aSync; rw [if_pos hnm, f2]
        rw [e]; simp [setE, l2]
      have Q3 : Q (aSync (aAppend q (aCreate p.E N) N t) N) := hR _ g3 (fun n hn => by rw [(k3 n).2, if_neg hn, (k2 n).2, if_neg hn, (k1 n).2.2, if_neg hn]) (by omega)
      have b4 : bC q N t p 2 = ((p.wr 0 q N t).wr 1 q N t).wrc 2 q N t := rfl
      have b5 : bP q N t p 3 = ((p.wr 0 q N t).wr 1 q N t).wr 2 q N t := rfl
      have e1 : bErr q N t p = bC q N t p 2 := by unfold bErr; rw [if_neg (fun h => h z0), if_neg (fun h => h z1)]
      have e2 : bPow q N t p = bP q N t p 3 := by unfold bPow; rw [if_neg (fun h => h z0), if_neg (fun h => h z1)]
      rw [e1, e2, b4, b5]
      rcases q_wr hC 2 N t d2 d4 (by rw [d3]; exact Q2) (show Q (aSync ((p.wr 0 q N t).wr 1 q N t).E N) by rw [d3]; exact Q3) with ⟨x1, x2⟩ | ⟨x1, x2, x3, x4⟩
      · left
        rw [x1]
        exact ⟨rfl, x2⟩
      · right
        have x3 : (((p.wr 0 q N t).wr 1 q N t).wr 2 q N t).E = aSync (aAppend q (aCreate p.E N) N t) N := by
          have x3 : (((p.wr 0 q N t).wr 1 q N t).wr 2 q N t).E = aSync ((p.wr 0 q N t).wr 1 q N t).E N := x3
          rw [x3, d3]
        refine ⟨?_, ⟨x2, x4, fun n => ?_⟩, by rw [x3, l3]; exact Nat.le_refl _⟩
        · rw [x1]
          show ((eFind ((p.wr 0 q N t).wr 1 q N t).E N : Nat) : Int) = 0
          rw [d3, (k3 N).1]; rfl
        · rw [x3, (k3 n).2]
          by_cases hn : n = N
          · rw [if_pos hn, if_pos hn]
          · rw [if_neg hn, if_neg hn, (k2 n).2, if_neg hn, (k1 n).2.2, if_neg hn]
end
end Go.Proofs.YtgeaacabpnepmaaGreatDoor
/- A swap on a disk, as a map; what survives: the manifest, and the segments that it names. Nothing of the program. -/
namespace Go.Proofs.YtgeaacabpnepmaaGreatDoor
open Go.RowKit
set_option linter.unusedVariables false
set_option linter.unusedSimpArgs false
set_option maxRecDepth 20000

theorem nodup_sub {α : Type} [DecidableEq α] : ∀ {a b : List α}, a.Nodup → (∀ x ∈ a, x ∈ b) → a.length ≤ b.length
  | [], b, _, _ => Nat.zero_le _
  | x :: a, b, hd, hs => by
    obtain ⟨h1, h2⟩ := List.nodup_cons.1 hd
    have hx := hs x (by simp)
    have := nodup_sub (a := a) (b := b.erase x) h2 fun y hy => (List.mem_erase_of_ne (fun e => h1 (by rw [← e]; exact hy))).2 (hs y (by simp [hy]))
    rw [List.length_erase_of_mem hx] at this
    have := List.length_pos_of_mem hx
    rw [List.length_cons]; omega
theorem srt_nodup {E : List Ent} (h : Srt Ent.nm E) : (E.map Ent.nm).Nodup := by
  unfold Srt at h
  rw [List.nodup_iff_pairwise_ne, List.pairwise_map]
  exact h.imp fun hab => nm_lt_ne hab
section
variable {Q : List Ent → Prop} {q : Nat} {p : Pw}
theorem q_step (hC : CrQ Q q) {t : List UInt8} {f j k : Nat} {n u : List UInt8} (ho : p.off = false) (hg : DGood q p.E) (h0 : Q p.E) (hs : stP q t p j = p.wr k q n u) (hc : stC q t p j = p.wrc k q n u) (hr : wrR k q p.E n u = 0) (h1 : Q (wrE k q p.E n u))
    {R : Nat × Pw → Prop} (hoff : ∀ p', OffQ Q q p' → R (8, p')) (hon : ∀ p' : Pw, p'.off = false → p'.E = wrE k q p.E n u → DGood q p'.E → R (swR q t f (j + 1) p')) : R (swR q t (f + 1) j p) := by
  unfold swR
  rw [hs, hc]
  rcases q_wr hC k n u ho hg h0 h1 with ⟨c1, c2⟩ | ⟨c1, c2, c3, c4⟩
  · rw [c1, if_neg (by decide)]
    exact hoff _ c2
  · rw [c1, hr, if_pos rfl]
    exact hon _ c2 c3 c4
def swF (t : List UInt8) (f : List UInt8 → Option Ent) (n : List UInt8) : Option Ent := if n = nM then some ⟨nM, t, t.length⟩ else if n = nN then none else f n
def SwR (Q : List Ent → Prop) (q : Nat) (t : List UInt8) (E : List Ent) (r : Nat × Pw) : Prop := (r.1 = 8 ∧ OffQ Q q r.2) ∨ (r.1 = 0 ∧ OnF q r.2 (swF t (fun n => fnd n E)) ∧ r.2.E.length ≤ E.length + 1 ∧ Q r.2.E)
theorem q_swap (hC : CrQ Q q) {t : List UInt8} (ht : t.length ≤ 225) (hl : p.E.length ≤ 14) (hq : 1048576 ≤ q) (ho : p.off = false) (hg : DGood q p.E) (h0 : Q p.E)
    (hR : ∀ E', DGood q E' → (∀ n, n ≠ nN → fnd n E' = fnd n p.E) → E'.length ≤ p.E.length + 1 → Q E') (hR2 : ∀ E', DGood q E' → (∀ n, fnd n E' = swF t (fun n => fnd n p.E) n) → E'.length ≤ p.E.length + 1 → Q E') : SwR Q q t p.E (swR q t 5 0 p) := by
  have off : ∀ p' : Pw, OffQ Q q p' → SwR Q q t p.E (8, p') := fun p' h => .inl ⟨rfl, h⟩
  -- behind clearing
  have tail : ∀ p1 : Pw, p1.off = false → DGood q p1.E → (∀ n, fnd n p1.E = if n = nN then none else fnd n p.E) → p1.E.length ≤ p.E.length → SwR Q q t p.E (swR q t 4 1 p1) := fun p1 o1 g1 f1 l1 => by
    have a1 := fun n => fnd_create g1 n nmN (by rw [f1, if_pos rfl]) (by omega)
    have ag := good_create g1 nN
    have al : (aCreate p1.E nN).length ≤ p.E.length + 1 := by rw [(a1 nN).2.1, insK_len]; omega
    have af : ∀ n, fnd n (aCreate p1.E nN) = if n = nN then some ⟨nN, [], 0⟩ else fnd n p.E := fun n => by
      rw [(a1 n).2.2]
      by_cases hn : n = nN
      · rw [if_pos hn, if_pos hn]
      · rw [if_neg hn, if_neg hn, f1, if_neg hn]
    have q1 : Q p1.E := hR _ g1 (fun n hn => by rw [f1, if_neg hn]) (by omega)
    refine q_step hC (k := 0) (n := nN) (u := []) o1 g1 q1 rfl rfl (a1 nN).1 (hR _ ag (fun n hn => by rw [show wrE 0 q p1.E nN [] = aCreate p1.E nN from rfl, af, if_neg hn]) al) off fun p2 o2 e2 g2 => ?_
    have e2 : p2.E = aCreate p1.E nN := e2
    have bf0 : fnd nN p2.E = some ⟨nN, [], 0⟩ := by rw [e2, af, if_pos rfl]
    have bu := used_but g2 bf0
    have bl : p2.E.length ≤ p.E.length + 1 := by rw [e2]; exact al
    have b1 := fun n => fnd_append g2 n (t := t) bf0 (by show 0 + t.length ≤ _; omega) (by simp at bu; omega)
    have bg := good_append g2 nN t
    have bE : aAppend q p2.E nN t = setE ⟨nN, [] ++ t, 0⟩ p2.E := by unfold aAppend; rw [if_pos (b1 nN).1, bf0]
    have bl2 : (aAppend q p2.E nN t).length ≤ p.E.length + 1 := by rw [bE]; simpa [setE] using bl
    have bf : ∀ n, fnd n (aAppend q p2.E nN t) = if n = nN then some ⟨nN, t, 0⟩ else fnd n p.E := fun n => by
      rw [(b1 n).2]
      by_cases hn : n = nN
      · rw [if_pos hn, if_pos hn]; rfl
      · rw [if_neg hn, if_neg hn, e2, af, if_neg hn]
    refine q_step hC (k := 1) (n := nN) (u := t) o2 g2 (hR _ g2 (fun n hn => by rw [e2, af, if_neg hn]) bl) rfl rfl (b1 nN).1 (hR _ bg (fun n hn => by rw [show wrE 1 q p2.E nN t = aAppend q p2.E nN t from rfl, bf, if_neg hn]) bl2) off fun p3 o3 e3 g3 => ?_
    have e3 : p3.E = aAppend q p2.E nN t := e3
    have cf0 : fnd nN p3.E = some ⟨nN, t, 0⟩ := by rw [e3, bf, if_pos rfl]
    have c1 := fun n => fnd_sync g3 n cf0
    have cg := good_sync g3 nN
    have cl : p3.E.length ≤ p.E.length + 1 := by rw [e3]; exact bl2
    have cE : aSync p3.E nN = setE ⟨nN, t, t.length⟩ p3.E := by unfold aSync; rw [if_pos nmN, cf0]
    have cl2 : (aSync p3.E nN).length ≤ p.E.length + 1 := by rw [cE]; simpa [setE] using cl
    have cf : ∀ n, fnd n (aSync p3.E nN) = if n = nN then some ⟨nN, t, t.length⟩ else fnd n p.E := fun n => by
      rw [(c1 n).2]
      by_cases hn : n = nN
      · rw [if_pos hn, if_pos hn]
      · rw [if_neg hn, if_neg hn, e3, bf, if_neg hn]
    refine q_step hC (k := 2) (n := nN) (u := []) o3 g3 (hR _ g3 (fun n hn => by rw [e3, bf, if_neg hn]) cl) rfl rfl (c1 nN).1 (hR _ cg (fun n hn => by rw [show wrE 2 q p3.E nN [] = aSync p3.E nN from rfl, cf, if_neg hn]) cl2) off fun p4 o4 e4 g4 => ?_
    have e4 : p4.E = aSync p3.E nN := e4
    have df0 : fnd nN p4.E = some ⟨nN, t, t.length⟩ := by rw [e4, cf, if_pos rfl]
    have dne : nN ≠ nM := by decide
    have d1 := fun n => fnd_rename g4 n df0 nmM dne
    have dg := good_rename g4 nN nM
    have dl : p4.E.length ≤ p.E.length + 1 := by rw [e4]; exact cl2
    have dl2 : (aRename p4.E nN nM).length ≤ p.E.length + 1 := by
      rw [(d1 nN).2.1, insK_len]
      have h1 := del_len_some g4.srt df0
      have h2 := del_len nM (delK Ent.nm nN p4.E)
      omega
    have df : ∀ n, fnd n (aRename p4.E nN nM) = swF t (fun n => fnd n p.E) n := fun n => by
      rw [(d1 n).2.2]
      unfold swF
      by_cases hn : n = nM
      · rw [if_pos hn, if_pos hn]
      · rw [if_neg hn, if_neg hn]
        by_cases hn2 : n = nN
        · rw [if_pos hn2, if_pos hn2]
        · rw [if_neg hn2, if_neg hn2, e4, cf, if_neg hn2]
    have dQ : Q (aRename p4.E nN nM) := hR2 _ dg df dl2
    refine q_step hC (k := 3) (n := nN) (u := nM) o4 g4 (hR _ g4 (fun n hn => by rw [e4, cf, if_neg hn]) dl) rfl rfl (d1 nN).1 dQ off fun p5 o5 e5 g5 => ?_
    have e5 : p5.E = aRename p4.E nN nM := e5
    exact .inr ⟨rfl, ⟨o5, g5, fun n => by rw [show (swR q t 0 5 p5).2 = p5 from rfl, e5]; exact df n⟩, by show p5.E.length ≤ _; rw [e5]; exact dl2, by show Q p5.E; rw [e5]; exact dQ⟩
  have hnm : nN ∈ p.names ↔ ∃ e, fnd nN p.E = some e := by
    unfold Pw.names
    rw [ho]
    exact fnd_names
  by_cases hn : nN ∈ p.names
  · obtain ⟨e, he⟩ := hnm.1 hn
    have r1 := fun n => fnd_remove hg n he
    have rg := good_remove hg nN
    have rl : (aRemove p.E nN).length ≤ p.E.length := by rw [(r1 nN).2.1]; exact del_len _ _
    refine q_step hC (k := 4) (n := nN) (u := []) ho hg h0 (show stP q t p 0 = p.wr 4 q nN [] from if_pos hn) (show stC q t p 0 = p.wrc 4 q nN [] from if_pos hn) (r1 nN).1 (hR _ rg (fun n hn => by rw [show wrE 4 q p.E nN [] = aRemove p.E nN from rfl, (r1 n).2.2, if_neg hn]) (by show (aRemove p.E nN).length ≤ _; omega)) off fun p1 o1 e1 g1 => ?_
    have e1 : p1.E = aRemove p.E nN := e1
    exact tail p1 o1 g1 (fun n => by rw [e1]; exact (r1 n).2.2) (by rw [e1]; exact rl)
  · have e : swR q t 5 0 p = swR q t 4 1 p := by
      show (if stC q t p 0 = 0 then _ else _) = _
      have c0 : stC q t p 0 = 0 := if_neg hn
      have s0 : stP q t p 0 = p := if_neg hn
      rw [if_pos c0, s0]
    rw [e]
    refine tail p ho hg (fun n => ?_) (Nat.le_refl _)
    by_cases h : n = nN
    · rw [if_pos h, h]
      cases hf : fnd nN p.E with
      | none => rfl
      | some x => exact absurd (hnm.2 ⟨x, hf⟩) hn
    · rw [if_neg h]
end
/-! What survives. -/
structure SvM (Z : Nat) (U : List Nat) (P : List (Nat × Nat)) (s o K : Nat) (m : Mf) (E : List Ent) : Prop where
  man : fnd nM E = some ⟨nM, enc m, (enc m).length⟩
  ok : m.ok = true
  fit : m.fit
  pl : m.pl = 0
  ch : Chn U P m.ep E (LOff U P m.ep E s o) m.sg
  fs : ∃ N F r, m.sg = (N, F) :: r ∧ F ≤ P.length ∧ (m.ck.length < 2 → F ≤ s)
  bN : (lastS m.sg).1 ≤ K
  bE : m.ep ≤ K
  z : m.ck.length ≤ Z
def Sv (Z : Nat) (U : List Nat) (P : List (Nat × Nat)) (s o K : Nat) (E : List Ent) : Prop := (fnd nM E = none ∧ s = 0 ∧ o = 0) ∨ ∃ m, SvM Z U P s o K m E
def SvQ (Z : Nat) (U : List Nat) (P : List (Nat × Nat)) (s o K : Nat) (E : List Ent) : Prop := Sv Z U P s o K E ∧ E.length ≤ 15 ∧ ∀ f, fnd (ckn f) E = none
section
variable {Z : Nat} {U U' : List Nat} {P P' : List (Nat × Nat)} {s o K q : Nat} {m : Mf} {E E' : List Ent}
theorem chn_last {ep : Nat} {L : Nat → Nat → Prop} : ∀ {sg : List (Nat × Nat)}, Chn U P ep E L sg → ∃ x, sg.getLast? = some x ∧ L x.1 x.2
  | [], h => h.elim
  | [x], h => ⟨x, rfl, h⟩
  | x :: y :: r, h => by
    obtain ⟨z, h1, h2⟩ := chn_last (sg := y :: r) h.2
    exact ⟨z, by rw [List.getLast?_cons_cons]; exact h1, h2⟩
theorem last_mem {sg : List (Nat × Nat)} {x : Nat × Nat} (h : sg.getLast? = some x) : x ∈ sg := List.mem_of_getLast? h
theorem lastS_of {sg : List (Nat × Nat)} {x : Nat × Nat} (h : sg.getLast? = some x) : lastS sg = x := by
  unfold lastS
  rw [List.getLastD_eq_getLast?, h]; rfl
theorem drop_mem {sg : List (Nat × Nat)} {x : Nat × Nat} (h : x ∈ sg.dropLast) : x ∈ sg := (List.dropLast_sublist sg).subset h
theorem svm_ext (h : SvM Z U P s o K m E) (hM : fnd nM E' = fnd nM E) (hS : ∀ x ∈ m.sg, fnd (sgn x.1) E' = fnd (sgn x.1) E) : SvM Z U P s o K m E' :=
  ⟨hM.trans h.man, h.ok, h.fit, h.pl, chn_turn (List.prefix_refl _) (List.prefix_refl _) h.ch (fun x hx => hS x (drop_mem hx)) fun x hx ⟨l, su, k, j, c', o', c1, o1, g1, g⟩ => ⟨l, su, k, j, c', o', c1, o1, by rw [hS x (last_mem hx)]; exact g1, g⟩, h.fs, h.bN, h.bE, h.z⟩
theorem svm_mono (h : SvM Z U P s o K m E) (hu : U <+: U') (hp : P <+: P') {K' : Nat} (hK : K ≤ K') : SvM Z U' P' s o K' m E :=
  ⟨h.man, h.ok, h.fit, h.pl, chn_turn hu hp h.ch (fun x hx => rfl) fun x hx ⟨l, su, k, j, c', o', c1, o1, g1, g2, g3, g⟩ => ⟨l, su, k, j, c', o', c1, o1, g1, bd_mono hu hp g2, bd_mono hu hp g3, g⟩, (by obtain ⟨N, F, r, e, h1, h2⟩ := h.fs; exact ⟨N, F, r, e, Nat.le_trans h1 hp.length_le, h2⟩), Nat.le_trans h.bN hK, Nat.le_trans h.bE hK, h.z⟩
theorem svq_mono (h : SvQ Z U P s o K E) (hu : U <+: U') (hp : P <+: P') {K' : Nat} (hK : K ≤ K') : SvQ Z U' P' s o K' E :=
  ⟨h.1.imp id fun ⟨m, h⟩ => ⟨m, svm_mono h hu hp hK⟩, h.2⟩
theorem full_crash (ks : List Int) (hg : DGood q E) {n b : List UInt8} (h : fnd n E = some ⟨n, b, b.length⟩) : fnd n (aCrash ks E) = some ⟨n, b, b.length⟩ := by
  obtain ⟨k, hk⟩ := (fnd_crash hg n ks).2 _ h
  rw [hk, tear_full]
theorem chn_crash (ks : List Int) (hg : DGood q E) {ep : Nat} : ∀ {sg : List (Nat × Nat)}, Chn U P ep E (LOff U P ep E s o) sg → Chn U P ep (aCrash ks E) (LOff U P ep (aCrash ks E) s o) sg
  | [], h => h
  | [x], ⟨l, su, k, j, c', o', c1, o1, g1, g2, g3, g4, g5, g6, g7, g8, g9⟩ => by
    obtain ⟨y, hy⟩ := (fnd_crash hg (sgn x.1) ks).2 _ g1
    have hl : ((bys (rHd x.1 x.2 ep 0 :: l)).take k).length = k := by rw [List.length_take]; omega
    obtain ⟨i, i1, i2, i3⟩ := tear_says y (e := ⟨sgn x.1, (bys (rHd x.1 x.2 ep 0 :: l)).take k, su⟩) (by show su ≤ _; rw [hl]; exact g8)
    rw [i1] at hy
    dsimp only at hy i2 i3
    rw [hl] at i3
    rw [List.take_take, Nat.min_eq_left i3] at hy
    exact ⟨l, i, i, j, c', o', c1, o1, hy, g2, g3, g4, g5, g6, by omega, Nat.le_refl _, by omega⟩
  | x :: y :: r, ⟨⟨l, o2, g1, g2⟩, h⟩ => ⟨⟨l, o2, full_crash ks hg g1, g2⟩, chn_crash ks hg (sg := y :: r) h⟩
theorem svm_crash (ks : List Int) (hg : DGood q E) (h : SvM Z U P s o K m E) : SvM Z U P s o K m (aCrash ks E) :=
  ⟨full_crash ks hg h.man, h.ok, h.fit, h.pl, chn_crash ks hg h.ch, h.fs, h.bN, h.bE, h.z⟩
theorem svq_crash : CrQ (SvQ Z U P s o K) q := fun ks E hg h => by
  refine ⟨?_, by rw [crash_len]; exact h.2.1, fun f => (fnd_crash hg _ ks).1 (h.2.2 f)⟩
  rcases h.1 with ⟨h1, h2⟩ | ⟨m, h1⟩
  · exact .inl ⟨(fnd_crash hg _ ks).1 h1, h2⟩
  · exact .inr ⟨m, svm_crash ks hg h1⟩
theorem sv_load {p : Pw} (ho : p.off = false) (hg : DGood q p.E) : (fnd nM p.E = none → jlE p 0 = 0 ∧ jlM p 0 = mz) ∧ (∀ m, SvM Z U P s o K m p.E → m.ep < 18446744073709551615 → jlE p 0 = 0 ∧ jlM p 0 = m) := by
  constructor
  · intro hf
    have h : p.rdc nM = 5 := by
      unfold Pw.rdc eFind
      rw [ho, nmM, hf]; rfl
    have hc : ldC p = 5 := by unfold ldC; rw [h]; rfl
    unfold jlE jlM
    rw [hc]
    exact ⟨rfl, if_neg (fun h => by cases h.1)⟩
  · intro m h he
    obtain ⟨r1, r2⟩ := p_read ho hg h.man
    obtain ⟨t1, t2⟩ := tk_enc h.fit h.ok
    have hc : ldC p = 0 := by unfold ldC; rw [r2, if_pos rfl, r1]; exact t1
    have hm : ldM p = m := by unfold ldM; rw [r2, if_pos rfl, r1]; exact t2
    unfold jlE jlM
    rw [hc, hm, h.pl]
    refine ⟨?_, if_pos ⟨rfl, rfl, by omega⟩⟩
    rw [if_neg (by decide), if_pos rfl, if_pos rfl, if_neg (by omega)]
end
end Go.Proofs.YtgeaacabpnepmaaGreatDoor
/- An opening, wherever the power goes off: what it finds, what it leaves. Nothing of the program. -/
namespace Go.Proofs.YtgeaacabpnepmaaGreatDoor
open Go.RowKit
set_option linter.unusedVariables false
set_option linter.unusedSimpArgs false
set_option maxRecDepth 20000

theorem sgOk_mem : ∀ {l : List (Nat × Nat)} {a b : Nat}, sgOk a b l = true → ∀ x ∈ l, a < x.1 ∧ b ≤ x.2
  | [], _, _, _, x, hx => by cases hx
  | p :: l, a, b, h, x, hx => by
    simp only [sgOk, Bool.and_eq_true, decide_eq_true_eq] at h
    obtain ⟨h1, h2, h3⟩ := h
    rcases List.mem_cons.1 hx with rfl | hx
    · exact ⟨h1, h2⟩
    · have := sgOk_mem h3 x hx
      omega
theorem sgOk_last : ∀ {l : List (Nat × Nat)} {a b : Nat} {z : Nat × Nat}, sgOk a b l = true → l.getLast? = some z → (∀ x ∈ l.dropLast, x.1 < z.1) ∧ (∀ x ∈ l, x.1 ≤ z.1 ∧ x.2 ≤ z.2)
  | [p], a, b, z, h, hz => by
    cases hz
    exact ⟨fun x hx => (by simp at hx), fun x hx => (by rw [List.mem_singleton] at hx; subst hx; exact ⟨Nat.le_refl _, Nat.le_refl _⟩)⟩
  | p :: r :: l, a, b, z, h, hz => by
    simp only [sgOk, Bool.and_eq_true, decide_eq_true_eq] at h
    obtain ⟨h1, h2, h3, h4, h5⟩ := h
    rw [List.getLast?_cons_cons] at hz
    have hk : sgOk p.1 p.2 (r :: l) = true := by simp only [sgOk, Bool.and_eq_true, decide_eq_true_eq]; exact ⟨h3, h4, h5⟩
    obtain ⟨k1, k2⟩ := sgOk_last hk hz
    have hm := sgOk_mem hk z (List.mem_of_getLast? hz)
    refine ⟨fun x hx => ?_, fun x hx => ?_⟩
    · rw [List.dropLast_cons_cons] at hx
      rcases List.mem_cons.1 hx with rfl | hx
      · exact hm.1
      · exact k1 x hx
    · rcases List.mem_cons.1 hx with rfl | hx
      · exact ⟨Nat.le_of_lt hm.1, hm.2⟩
      · exact k2 x hx
theorem sgOk_weak : ∀ {l : List (Nat × Nat)} {a b a' b' : Nat}, sgOk a b l = true → a' ≤ a → b' ≤ b → sgOk a' b' l = true
  | [], _, _, _, _, _, _, _ => rfl
  | p :: l, a, b, a', b', h, h1, h2 => by
    simp only [sgOk, Bool.and_eq_true, decide_eq_true_eq] at h ⊢
    exact ⟨by omega, by omega, h.2.2⟩
theorem bd_recs {U : List Nat} {P : List (Nat × Nat)} {F n b : Nat} (h1 : F ≤ n) (h2 : n ≤ b) (h3 : n ≤ P.length) (h4 : b ≤ U.length) (h5 : b ≤ n + 12) (hU : Fol U P) : Bd U P F F (cnRecs 0 ⟨F, n, sl U n b, sl P F n⟩) n b := by
  have hp := bd_pairs (U := U) (P := P) (Q := sl P F n) (c := F) (fun i q hq => by
    have hi : i < n - F := by have := (List.getElem?_eq_some_iff.1 hq).1; rwa [sl_len h3] at this
    rw [sl_get hi] at hq
    exact ⟨hq, (hU.1 _ _ hq).1⟩)
  rw [sl_len h3, show F + (n - F) = n by omega] at hp
  have ho := bd_own (U := U) (P := P) (O := sl U n b) (c := n) (o := n) (fun i hi => by
    rw [sl_len h4] at hi
    exact (sl_get hi).symm) (by rw [sl_len h4]; omega)
  rw [sl_len h4, show n + (b - n) = b by omega] at ho
  exact bd_app hp ho
theorem recs_ok {U : List Nat} {P : List (Nat × Nat)} : ∀ {l : List Rc} {c o c' o' : Nat}, Fol U P → Bd U P c o l c' o' → l.all (okB · false) = true
  | [], _, _, _, _, _, _ => rfl
  | r :: l, c, o, c', o', hU, h => by
    have hul := hU.2.2
    rw [List.all_cons, Bool.and_eq_true]
    rcases h with ⟨i, rfl, h2, h3, hb⟩ | ⟨q, rfl, h2, h3, hb⟩
    · have := (List.getElem?_eq_some_iff.1 h2).1
      exact ⟨okB_iff.2 ⟨(rO_ok (by omega) (hU.2.1 _ _ h2)).2, rfl⟩, recs_ok hU hb⟩
    · have hq := hU.1 c q h2
      have := (List.getElem?_eq_some_iff.1 hq.1).1
      exact ⟨okB_iff.2 ⟨(rS_ok (by omega) hq.2.1 hq.2.2).2, rfl⟩, recs_ok hU hb⟩
structure OnJ (Z : Nat) (q : Nat) (p : Pw) (j : Jn) (P : List (Nat × Nat)) (O : List Nat) (K : Nat) : Prop where
  off : p.off = false
  hq : 1048576 ≤ q
  good : DGood q p.E
  man : fnd nM p.E = some ⟨nM, enc j.m, (enc j.m).length⟩
  ok : j.m.ok = true
  fit : j.m.fit
  pl : j.m.pl = 0
  ch : Chn (alls P O) P j.m.ep p.E (LOn (alls P O) P j.m.ep p.E j.sy j.os) j.m.sg
  nms : ∀ e ∈ p.E, e.nm = nM ∨ ∃ x ∈ j.m.sg, e.nm = sgn x.1
  c : j.c = P.length
  ah : j.ah = O
  br : j.br = false
  fs : ∀ x ∈ j.m.sg, x.2 ≤ j.sy
  sy : j.sy ≤ P.length
  os : j.os ≤ (alls P O).length
  ol : O.length ≤ 12
  so : j.sy ≤ j.os
  U : Fol (alls P O) P
  bN : (lastS j.m.sg).1 ≤ K
  bE : j.m.ep ≤ K
  z : j.m.ck.length ≤ Z
section
variable {Z q : Nat} {p : Pw} {j : Jn} {P : List (Nat × Nat)} {O : List Nat} {K : Nat}
theorem OnJ.sgs (h : OnJ Z q p j P O K) : 0 < j.m.sg.length ∧ j.m.sg.length ≤ 12 ∧ sgOk 0 0 j.m.sg = true := segsB_iff.1 (Mf.ok_iff.1 h.ok).2.2.1
theorem OnJ.len (h : OnJ Z q p j P O K) : p.E.length ≤ 1 + j.m.sg.length := by
  have := nodup_sub (a := p.E.map Ent.nm) (b := nM :: j.m.sg.map fun x => sgn x.1) (srt_nodup h.good.srt) fun n hn => by
    obtain ⟨e, he, rfl⟩ := List.mem_map.1 hn
    rcases h.nms e he with h1 | ⟨x, hx, h1⟩
    · rw [h1]; simp
    · rw [h1]; exact List.mem_cons_of_mem _ (List.mem_map.2 ⟨x, hx, rfl⟩)
  simp at this
  omega
theorem OnJ.nock (h : OnJ Z q p j P O K) (f : Nat) : fnd (ckn f) p.E = none := fnd_no.2 fun e he hn => by
  have := ckn_sgn f
  rcases h.nms e he with h1 | ⟨x, hx, h1⟩
  · exact (this 0).2.1 (hn.symm.trans h1)
  · exact (this x.1).1 (hn.symm.trans h1)
theorem OnJ.first (h : OnJ Z q p j P O K) : ∃ N F r, j.m.sg = (N, F) :: r ∧ F ≤ P.length ∧ (j.m.ck.length < 2 → F ≤ j.sy) := by
  have h1 := h.sgs.1
  match hs : j.m.sg, h1 with
  | (N, F) :: r, _ => have := h.fs (N, F) (by rw [hs]; simp); exact ⟨N, F, r, rfl, Nat.le_trans this h.sy, fun _ => this⟩
theorem OnJ.svq (h : OnJ Z q p j P O K) : SvQ Z (alls P O) P j.sy j.os K p.E :=
  ⟨.inr ⟨j.m, h.man, h.ok, h.fit, h.pl, chn_imp h.ch fun x _ hx => lon_off hx, h.first, h.bN, h.bE, h.z⟩, by have := h.len; have := h.sgs; omega, h.nock⟩
end
structure Found (P : List (Nat × Nat)) (O : List Nat) (s o : Nat) (ck : List Nat) (x : Cn) (F n b : Nat) : Prop where
  hx : x = cnOut ck ⟨F, n, sl (alls P O) n b, sl P F n⟩
  hs : s ≤ n
  ho : o ≤ b
  nb : n ≤ b
  hn : n ≤ P.length
  hb : b ≤ (alls P O).length
  fn : F ≤ n
  b12 : b ≤ n + 12
  fs : ck.length < 2 → F ≤ s
theorem out_as {U : List Nat} {P : List (Nat × Nat)} (ck : List Nat) {F n b : Nat} (h1 : F ≤ n) (h3 : n ≤ P.length) : ∃ F', F ≤ F' ∧ F' ≤ n ∧ cnOut ck ⟨F, n, sl U n b, sl P F n⟩ = ⟨F', n, sl U n b, sl P F' n⟩ ∧ (ck.length < 2 → F' = F) := by
  unfold cnOut
  split
  · exact ⟨F, Nat.le_refl _, h1, rfl, fun _ => rfl⟩
  · rename_i hc
    split
    · rename_i hl
      dsimp only at hl hc ⊢
      refine ⟨min (ck.getD 1 0) (n - 12), by omega, by omega, ?_, fun h => absurd (.inl h) hc⟩
      congr 1
      unfold sl
      rw [List.drop_take, List.drop_drop]
      congr 1
      · omega
      · congr 1; omega
    · exact ⟨F, Nat.le_refl _, h1, rfl, fun _ => rfl⟩
theorem alls_cut {P : List (Nat × Nat)} {O : List Nat} {n b : Nat} (h1 : n ≤ b) (h2 : n ≤ P.length) : alls (P.take n) (sl (alls P O) n b) = (alls P O).take b := by
  unfold alls sl
  have e : (P.take n).map Prod.fst = (P.map Prod.fst ++ O).take n := by
    rw [List.take_append_of_le_length (by simpa using h2), List.map_take]
  rw [e]
  have := List.take_add (l := P.map Prod.fst ++ O) (i := n) (j := b - n)
  rw [show n + (b - n) = b by omega] at this
  exact this.symm
theorem fol_cut {P : List (Nat × Nat)} {U : List Nat} {n b : Nat} (h : Fol U P) (h1 : n ≤ b) : Fol (U.take b) (P.take n) := by
  refine ⟨fun c q hq => ?_, fun c i hi => ?_, ?_⟩
  · rw [List.getElem?_take] at hq
    split at hq
    · rename_i hc
      have := h.1 c q hq
      refine ⟨?_, this.2⟩
      rw [List.getElem?_take, if_pos (by omega)]; exact this.1
    · cases hq
  · rw [List.getElem?_take] at hi
    split at hi
    · exact h.2.1 c i hi
    · cases hi
  · have := h.2.2
    rw [List.length_take]; omega
end Go.Proofs.YtgeaacabpnepmaaGreatDoor
