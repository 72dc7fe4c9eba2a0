/- A Write over a power whose fuse never comes, in plain words: all is done, and the state loads. Nothing of the program. -/
import Derived.Test.YtacgmadgkmcmoaaGreatDoorJb
import Derived.Test.YtacgmadgkmcmoaaGreatDoorAe
namespace Go.Proofs.YtacgmadgkmcmoaaGreatDoor
open Go.RowKit
set_option linter.unusedVariables false
set_option linter.unusedSimpArgs false
set_option maxRecDepth 20000

def pon (n : Nat) (E : List Ent) : Pw := ⟨-1, [], n, false, E⟩
theorem on_wr (k q n : Nat) (E : List Ent) (N t : List UInt8) : (pon n E).wr k q N t = pon (n + 1) (wrE k q E N t) ∧ (pon n E).wrc k q N t = wrR k q E N t := by
  have h : ¬ ((n : Int) = -1) := by omega
  constructor
  · show Pw.after _ _ = _
    unfold Pw.after pon
    simp [h]
  · show Pw.code _ _ = _
    unfold Pw.code pon
    simp [h]
theorem fnd_mem {q : Nat} {E : List Ent} (hg : DGood q E) {e : Ent} (he : e ∈ E) : fnd e.nm E = some e := fndK_of_mem hg.srt he
theorem setE_mem {E : List Ent} {f g : Ent} (hf : f ∈ E) (hn : f.nm = g.nm) : g ∈ setE g E := by unfold setE; exact List.mem_map.2 ⟨f, hf, if_pos hn⟩
theorem fnd_del0 (n : List UInt8) (E : List Ent) : fnd n (delK Ent.nm n E) = none := by
  refine List.find?_eq_none.2 fun x hx => ?_
  have := (delK_mem.1 hx).2
  simpa using this
theorem names_fnd {n : List UInt8} {E : List Ent} (h : ¬ n ∈ E.map Ent.nm) : fnd n E = none := by
  refine List.find?_eq_none.2 fun x hx => ?_
  have : x.nm ≠ n := fun e => h (e ▸ List.mem_map_of_mem hx)
  simpa using this
theorem fnd_names {n : List UInt8} {E : List Ent} (h : n ∈ E.map Ent.nm) : ∃ e, fnd n E = some e := by
  cases hf : fnd n E with
  | some e => exact ⟨e, rfl⟩
  | none =>
    obtain ⟨x, hx, hn⟩ := List.mem_map.1 h
    have := List.find?_eq_none.1 hf x hx
    rw [hn] at this
    simp at this
/-- The steps, the power staying on. -/
theorem on_steps {q k : Nat} {E : List Ent} {n m t : List UInt8} (hg : DGood q E) (hn : isNm n = true) (hm : isNm m = true) (ht : t.length ≤ 522) (hu : used E + 522 ≤ q) (hl : E.length ≤ 63) :
    ∃ k' E', kR q n m t 5 0 (pon k E) = (0, pon k' E') ∧ fnd m E' = some ⟨m, t, t.length⟩ ∧ DGood q E' := by
  obtain ⟨E1, hE1⟩ : ∃ E1, E1 = delK Ent.nm n E := ⟨_, rfl⟩
  have g1 : DGood q E1 := hE1 ▸ good_del hg n
  have l1 : E1.length ≤ 63 := by rw [hE1]; exact Nat.le_trans (del_len n E) hl
  have u1 : used E1 + 522 ≤ q := by have := used_del n E; rw [hE1]; omega
  have f1 : fnd n E1 = none := by rw [hE1]; exact fnd_del0 n E
  have s0 : ∃ k1, kC q n m t (pon k E) 0 = 0 ∧ kP q n m t (pon k E) 0 = pon k1 E1 := by
    by_cases h : n ∈ (pon k E).names
    · have h' : n ∈ E.map Ent.nm := h
      obtain ⟨e, he⟩ := fnd_names h'
      refine ⟨k + 1, ?_, ?_⟩
      · simp only [kC]
        rw [if_pos h, (on_wr 4 q k E n []).2]
        show eFind E n = 0
        unfold eFind
        rw [if_pos hn, he]
      · simp only [kP]
        rw [if_pos h, (on_wr 4 q k E n []).1]
        show pon _ (aRemove E n) = _
        unfold aRemove
        rw [if_pos hn, hE1]
    · have h' : ¬ n ∈ E.map Ent.nm := h
      refine ⟨k, ?_, ?_⟩
      · simp only [kC]; exact if_neg h
      · simp only [kP]
        rw [if_neg h, hE1, delK_none (names_fnd h')]
  obtain ⟨k1, c0, p0⟩ := s0
  have c1' : eCreate E1 n = 0 := by
    unfold eCreate
    rw [if_pos hn, f1]
    show (if _ then _ else _) = _
    rw [if_neg (by omega)]
  obtain ⟨E2, hE2⟩ : ∃ E2, E2 = aCreate E1 n := ⟨_, rfl⟩
  have g2 : DGood q E2 := hE2 ▸ good_create g1 n
  have e2 : E2 = insK Ent.nm ⟨n, [], 0⟩ E1 := by rw [hE2]; unfold aCreate; rw [if_pos c1']
  have f2 : fnd n E2 = some ⟨n, [], 0⟩ := fnd_mem (e := ⟨n, [], 0⟩) g2 (by rw [e2]; exact insK_mem.2 (.inl rfl))
  have u2 : used E2 + 522 ≤ q := by rw [e2, used_ins]; simpa using u1
  have c1 : kC q n m t (pon k1 E1) 1 = 0 := (on_wr 0 q k1 E1 n []).2.trans c1'
  have p1 : kP q n m t (pon k1 E1) 1 = pon (k1 + 1) E2 := (on_wr 0 q k1 E1 n []).1.trans (by rw [hE2]; rfl)
  have c2' : eAppend q E2 n t = 0 := by
    unfold eAppend
    rw [if_pos hn, f2]
    show (if _ then _ else _) = _
    rw [if_neg (by simp; omega)]
  obtain ⟨E3, hE3⟩ : ∃ E3, E3 = aAppend q E2 n t := ⟨_, rfl⟩
  have g3 : DGood q E3 := hE3 ▸ good_append g2 n t
  have e3 : E3 = setE ⟨n, t, 0⟩ E2 := by rw [hE3]; unfold aAppend; rw [if_pos c2', f2]; rfl
  have f3 : fnd n E3 = some ⟨n, t, 0⟩ := fnd_mem (e := ⟨n, t, 0⟩) g3 (by rw [e3]; exact setE_mem (fndK_some f2).1 rfl)
  have c2 : kC q n m t (pon (k1 + 1) E2) 2 = 0 := (on_wr 1 q (k1 + 1) E2 n t).2.trans c2'
  have p2 : kP q n m t (pon (k1 + 1) E2) 2 = pon (k1 + 2) E3 := (on_wr 1 q (k1 + 1) E2 n t).1.trans (by rw [hE3]; rfl)
  have c3' : eFind E3 n = 0 := by unfold eFind; rw [if_pos hn, f3]
  obtain ⟨E4, hE4⟩ : ∃ E4, E4 = aSync E3 n := ⟨_, rfl⟩
  have g4 : DGood q E4 := hE4 ▸ good_sync g3 n
  have e4 : E4 = setE ⟨n, t, t.length⟩ E3 := by rw [hE4]; unfold aSync; rw [if_pos hn, f3]
  have f4 : fnd n E4 = some ⟨n, t, t.length⟩ := fnd_mem (e := ⟨n, t, t.length⟩) g4 (by rw [e4]; exact setE_mem (fndK_some f3).1 rfl)
  have c3 : kC q n m t (pon (k1 + 2) E3) 3 = 0 := (on_wr 2 q (k1 + 2) E3 n []).2.trans c3'
  have p3 : kP q n m t (pon (k1 + 2) E3) 3 = pon (k1 + 3) E4 := (on_wr 2 q (k1 + 2) E3 n []).1.trans (by rw [hE4]; rfl)
  have c4' : eRename E4 n m = 0 := by unfold eRename; rw [hn, hm, f4]; rfl
  obtain ⟨E5, hE5⟩ : ∃ E5, E5 = aRename E4 n m := ⟨_, rfl⟩
  have g5 : DGood q E5 := hE5 ▸ good_rename g4 n m
  have e5 : E5 = insK Ent.nm ⟨m, t, t.length⟩ (delK Ent.nm m (delK Ent.nm n E4)) := by rw [hE5]; unfold aRename; rw [hn, hm, f4]; rfl
  have f5 : fnd m E5 = some ⟨m, t, t.length⟩ := fnd_mem (e := ⟨m, t, t.length⟩) g5 (by rw [e5]; exact insK_mem.2 (.inl rfl))
  have c4 : kC q n m t (pon (k1 + 3) E4) 4 = 0 := (on_wr 3 q (k1 + 3) E4 n m).2.trans c4'
  have p4 : kP q n m t (pon (k1 + 3) E4) 4 = pon (k1 + 4) E5 := (on_wr 3 q (k1 + 3) E4 n m).1.trans (by rw [hE5]; rfl)
  refine ⟨k1 + 4, E5, ?_, f5, g5⟩
  rw [kR_go c0, p0, kR_go c1, p1, kR_go c2, p2, kR_go c3, p3, kR_go c4, p4]
  rfl
theorem on_write {q k : Nat} {E : List Ent} {s : St} (hg : DGood q E) (hs : s.good = true) (hu : used E + 522 ≤ q) (hl : E.length ≤ 63) (hno : ¬ cN s.fr ∈ E.map Ent.nm) :
    ∃ k' E', kwE q s (pon k E) = 0 ∧ kwP q s (pon k E) = pon k' E' ∧ fnd (cN s.fr) E' = some ⟨cN s.fr, ktxt s, (ktxt s).length⟩ := by
  obtain ⟨k', E', h1, h2, _⟩ := on_steps (k := k) (m := cN s.fr) hg (cF_nm s.fr) (cN_nm s.fr) (ktxt_len s hs) hu hl
  obtain ⟨e1, e2⟩ := kw_go (q := q) (p := pon k E) hs hno
  exact ⟨k', E', by rw [e1, h1], by rw [e2, h1], h2⟩
/-- The first file of an empty disk. -/
theorem on_first {q k : Nat} {s : St} (hs : s.good = true) (hq : 522 ≤ q) : kwE q s (pon k []) = 0 ∧ kwP q s (pon k []) = pon (k + 4) [⟨cN s.fr, ktxt s, (ktxt s).length⟩] := by
  have hno : ¬ cN s.fr ∈ (pon k []).names := by show ¬ _ ∈ [].map Ent.nm; simp
  obtain ⟨e1, e2⟩ := kw_go (q := q) (p := pon k []) hs hno
  have ht := ktxt_len s hs
  have hn := cF_nm s.fr
  have hm := cN_nm s.fr
  have hnm := cN_cF s.fr s.fr
  rw [e1, e2]
  generalize cN s.fr = m at *
  generalize cF s.fr = n at *
  generalize ktxt s = t at *
  clear e1 e2
  have c0 : kC q n m t (pon k []) 0 = 0 := by simp only [kC]; exact if_neg (by show ¬ _ ∈ [].map Ent.nm; simp)
  have p0 : kP q n m t (pon k []) 0 = pon k [] := by simp only [kP]; exact if_neg (by show ¬ _ ∈ [].map Ent.nm; simp)
  have x1 : eCreate [] n = 0 := by unfold eCreate; rw [if_pos hn]; rfl
  have c1 : kC q n m t (pon k []) 1 = 0 := (on_wr 0 q k [] n []).2.trans x1
  have p1 : kP q n m t (pon k []) 1 = pon (k + 1) [⟨n, [], 0⟩] := (on_wr 0 q k [] n []).1.trans (by show pon _ (aCreate [] n) = _; unfold aCreate; rw [if_pos x1]; rfl)
  have f2 : fnd n [⟨n, [], 0⟩] = some ⟨n, [], 0⟩ := by simp [fndK]
  have x2 : eAppend q [⟨n, [], 0⟩] n t = 0 := by unfold eAppend; rw [if_pos hn, f2]; show (if _ then _ else _) = _; rw [if_neg (by simp [used]; omega)]
  have c2 : kC q n m t (pon (k + 1) [⟨n, [], 0⟩]) 2 = 0 := (on_wr 1 q (k + 1) _ n t).2.trans x2
  have p2 : kP q n m t (pon (k + 1) [⟨n, [], 0⟩]) 2 = pon (k + 2) [⟨n, t, 0⟩] := (on_wr 1 q (k + 1) _ n t).1.trans (by show pon _ (aAppend q _ n t) = _; unfold aAppend; rw [if_pos x2, f2]; simp [setE])
  have f3 : fnd n [⟨n, t, 0⟩] = some ⟨n, t, 0⟩ := by simp [fndK]
  have c3 : kC q n m t (pon (k + 2) [⟨n, t, 0⟩]) 3 = 0 := (on_wr 2 q (k + 2) _ n []).2.trans (by show eFind _ n = 0; unfold eFind; rw [if_pos hn, f3])
  have p3 : kP q n m t (pon (k + 2) [⟨n, t, 0⟩]) 3 = pon (k + 3) [⟨n, t, t.length⟩] := (on_wr 2 q (k + 2) _ n []).1.trans (by show pon _ (aSync _ n) = _; unfold aSync; rw [if_pos hn, f3]; simp [setE])
  have f4 : fnd n [⟨n, t, t.length⟩] = some ⟨n, t, t.length⟩ := by simp [fndK]
  have c4 : kC q n m t (pon (k + 3) [⟨n, t, t.length⟩]) 4 = 0 := (on_wr 3 q (k + 3) _ n m).2.trans (by show eRename _ n m = 0; unfold eRename; rw [hn, hm, f4]; rfl)
  have p4 : kP q n m t (pon (k + 3) [⟨n, t, t.length⟩]) 4 = pon (k + 4) [⟨m, t, t.length⟩] := (on_wr 3 q (k + 3) _ n m).1.trans (by show pon _ (aRename _ n m) = _; unfold aRename; rw [hn, hm, f4]; simp [delK, insK])
  rw [kR_go c0, p0, kR_go c1, p1, kR_go c2, p2, kR_go c3, p3, kR_go c4, p4]
  exact ⟨rfl, rfl⟩
/-- The first state of 1, at a frame. -/
def stf (f : Nat) : St := { start 1 with fr := f }
theorem stf_good (f : Nat) : (stf f).good = true := by
  rw [good_st]; rfl
theorem start_fit : (start 1).fit := ⟨by decide, by decide, ⟨⟨by decide, by decide⟩, ⟨by decide, by decide⟩, ⟨by decide, by decide⟩, ⟨by decide, by decide⟩, by decide, by decide, by decide⟩, ⟨⟨by decide, by decide⟩, ⟨by decide, by decide⟩, ⟨by decide, by decide⟩, ⟨by decide, by decide⟩, by decide, by decide, by decide⟩, fun x hx => (by simp [start] at hx), by decide, by decide⟩
theorem stf_fit {f : Nat} (h : f < 18446744073709551616) : (stf f).fit := ⟨h, start_fit.2⟩
end Go.Proofs.YtacgmadgkmcmoaaGreatDoor
