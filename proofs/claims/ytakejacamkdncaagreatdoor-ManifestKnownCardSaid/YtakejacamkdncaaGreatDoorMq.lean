/- A swap in plain words: its five steps over a power; what a disk holds behind it, wherever the power goes off. Nothing of the program. -/
import Derived.Test.YtakejacamkdncaaGreatDoorPz
import Derived.Test.YtakejacamkdncaaGreatDoorMa
namespace Go.Proofs.YtakejacamkdncaaGreatDoor
open Go.RowKit
set_option linter.unusedVariables false
set_option linter.unusedSimpArgs false
set_option maxRecDepth 20000

/-- The file's name, and the new file's. -/
def nM : List UInt8 := [109, 97, 110, 105, 102, 101, 115, 116]
def nN : List UInt8 := [109, 97, 110, 105, 102, 101, 115, 116, 46, 110, 101, 119]
/-- A step: 0 clear, 1 create, 2 fill, 3 sync, else rename: what is behind it, and its error. -/
def stP (q : Nat) (t : List UInt8) (p : Pw) : Nat → Pw
  | 0 => if nN ∈ p.names then p.wr 4 q nN [] else p
  | 1 => p.wr 0 q nN []
  | 2 => p.wr 1 q nN t
  | 3 => p.wr 2 q nN []
  | _ => p.wr 3 q nN nM
def stC (q : Nat) (t : List UInt8) (p : Pw) : Nat → Nat
  | 0 => if nN ∈ p.names then p.wrc 4 q nN [] else 0
  | 1 => p.wrc 0 q nN []
  | 2 => p.wrc 1 q nN t
  | 3 => p.wrc 2 q nN []
  | _ => p.wrc 3 q nN nM
/-- So many steps from one on, up to the first error. -/
def swR (q : Nat) (t : List UInt8) : Nat → Nat → Pw → Nat × Pw
  | 0, _, p => (0, p)
  | f + 1, j, p => if stC q t p j = 0 then swR q t f (j + 1) (stP q t p j) else (stC q t p j, stP q t p j)
theorem swa_n (p : Pw) (E : List Ent) : (p.after E).n ≤ p.n + 1 := by
  unfold Pw.after
  split
  · omega
  · split <;> simp
theorem swa_ks (p : Pw) (E : List Ent) : (p.after E).ks = p.ks := by
  unfold Pw.after
  split
  · rfl
  · split <;> rfl
theorem stP_n (q : Nat) (t : List UInt8) (p : Pw) (j : Nat) : (stP q t p j).n ≤ p.n + 1 := by
  unfold stP
  (repeat' split) <;> first | exact swa_n _ _ | exact Nat.le_succ _
theorem stP_ks (q : Nat) (t : List UInt8) (p : Pw) (j : Nat) : (stP q t p j).ks = p.ks := by
  unfold stP
  (repeat' split) <;> first | exact swa_ks _ _ | rfl
theorem swR_ks (q : Nat) (t : List UInt8) : ∀ (f j : Nat) (p : Pw), (swR q t f j p).2.ks = p.ks
  | 0, _, _ => rfl
  | f + 1, j, p => by
    unfold swR
    split
    · rw [swR_ks q t f, stP_ks]
    · exact stP_ks _ _ _ _
theorem swR_n (q : Nat) (t : List UInt8) : ∀ (f j : Nat) (p : Pw), (swR q t f j p).2.n ≤ p.n + f
  | 0, _, _ => Nat.le_refl _
  | f + 1, j, p => by
    have h := stP_n q t p j
    unfold swR
    split
    · have := swR_n q t f (j + 1) (stP q t p j); omega
    · show (stP q t p j).n ≤ _; omega
/-- A swap's error, and the power behind it. -/
def swE (q : Nat) (m : Mf) (p : Pw) : Nat := if m.ok then (swR q (enc m) 5 0 p).1 else 4
def swP (q : Nat) (m : Mf) (p : Pw) : Pw := if m.ok then (swR q (enc m) 5 0 p).2 else p
theorem sw_no {q : Nat} {m : Mf} {p : Pw} (h : m.ok = false) : swE q m p = 4 ∧ swP q m p = p := ⟨if_neg (by rw [h]; decide), if_neg (by rw [h]; decide)⟩
theorem sw_yes {q : Nat} {m : Mf} {p : Pw} (h : m.ok = true) : swE q m p = (swR q (enc m) 5 0 p).1 ∧ swP q m p = (swR q (enc m) 5 0 p).2 := ⟨if_pos h, if_pos h⟩
theorem swP_ks (q : Nat) (m : Mf) (p : Pw) : (swP q m p).ks = p.ks := by
  unfold swP; split
  · exact swR_ks _ _ _ _ _
  · rfl
theorem swP_n (q : Nat) (m : Mf) (p : Pw) : (swP q m p).n ≤ p.n + 5 := by
  unfold swP; split
  · exact swR_n _ _ _ _ _
  · omega
/-- What Load answers. -/
def ldC (p : Pw) : Int := if p.rdc nM = 0 then tkE (p.rd nM) else (p.rdc nM : Nat)
def ldM (p : Pw) : Mf := if p.rdc nM = 0 then tkM (p.rd nM) else mz

/-! A disk with these two files at most. -/
def dE (a : Option (List UInt8)) (b : Option (List UInt8 × Nat)) : List Ent :=
  (match a with | none => [] | some c => [⟨nM, c, c.length⟩]) ++ (match b with | none => [] | some x => [⟨nN, x.1, x.2⟩])
def aFit (a : Option (List UInt8)) : Prop := ∀ c, a = some c → c.length ≤ 225
def bFit (b : Option (List UInt8 × Nat)) : Prop := ∀ x, b = some x → x.1.length ≤ 225 ∧ x.2 ≤ x.1.length
theorem nmM : isNm nM = true := by decide
theorem nmN : isNm nN = true := by decide
theorem dE_names (a : Option (List UInt8)) (b : Option (List UInt8 × Nat)) : nN ∈ (dE a b).map Ent.nm ↔ b ≠ none := by
  have h : nN ≠ nM := by decide
  cases a <;> cases b <;> simp [dE, h]
theorem dE_findN (a : Option (List UInt8)) (x : List UInt8 × Nat) : fnd nN (dE a (some x)) = some ⟨nN, x.1, x.2⟩ := by
  have h : (nM == nN) = false := by decide
  cases a <;> simp [dE, fndK, h]
theorem dE_findN0 (a : Option (List UInt8)) : fnd nN (dE a none) = none := by
  have h : (nM == nN) = false := by decide
  cases a <;> simp [dE, fndK, h]
theorem dE_findM (c : List UInt8) (b : Option (List UInt8 × Nat)) : fnd nM (dE (some c) b) = some ⟨nM, c, c.length⟩ := by simp [dE, fndK]
theorem dE_findM0 (b : Option (List UInt8 × Nat)) : fnd nM (dE none b) = none := by
  have h : (nN == nM) = false := by decide
  cases b <;> simp [dE, fndK, h]
theorem dE_len (a : Option (List UInt8)) (b : Option (List UInt8 × Nat)) : (dE a b).length ≤ 2 := by cases a <;> cases b <;> simp [dE]
theorem dE_remove (a : Option (List UInt8)) (x : List UInt8 × Nat) : eFind (dE a (some x)) nN = 0 ∧ aRemove (dE a (some x)) nN = dE a none := by
  refine ⟨by unfold eFind; rw [if_pos nmN, dE_findN], ?_⟩
  have h : nN ≠ nM := by decide
  unfold aRemove
  rw [if_pos nmN]
  cases a <;> simp [dE, delK, h.symm]
theorem dE_create (a : Option (List UInt8)) : eCreate (dE a none) nN = 0 ∧ aCreate (dE a none) nN = dE a (some ([], 0)) := by
  have h0 : eCreate (dE a none) nN = 0 := by
    have := dE_len a none
    unfold eCreate
    rw [if_pos nmN, dE_findN0]
    show (if _ then _ else _) = _
    rw [if_neg (by omega)]
  refine ⟨h0, ?_⟩
  have hb : bytesBefore nN nM = false := by decide
  unfold aCreate
  rw [if_pos h0]
  cases a <;> simp [dE, insK, hb]
theorem dE_set (a : Option (List UInt8)) (x y : List UInt8 × Nat) : setE ⟨nN, y.1, y.2⟩ (dE a (some x)) = dE a (some y) := by
  have h : nN ≠ nM := by decide
  cases a <;> simp [dE, setE, h.symm]
theorem dE_append (a : Option (List UInt8)) (t : List UInt8) {q : Nat} (ha : aFit a) (ht : t.length ≤ 225) (hq : 1000 ≤ q) : eAppend q (dE a (some ([], 0))) nN t = 0 ∧ aAppend q (dE a (some ([], 0))) nN t = dE a (some (t, 0)) := by
  have hu : used (dE a (some ([], 0))) ≤ 225 := by
    cases a with
    | none => simp [dE, used]
    | some c => have := ha c rfl; simp [dE, used]; omega
  have h0 : eAppend q (dE a (some ([], 0))) nN t = 0 := by
    unfold eAppend
    rw [if_pos nmN, dE_findN]
    show (if _ then _ else _) = _
    rw [if_neg (by simp; omega)]
  refine ⟨h0, ?_⟩
  unfold aAppend
  rw [if_pos h0, dE_findN]
  exact dE_set a ([], 0) (t, 0)
theorem dE_sync (a : Option (List UInt8)) (t : List UInt8) : eFind (dE a (some (t, 0))) nN = 0 ∧ aSync (dE a (some (t, 0))) nN = dE a (some (t, t.length)) := by
  refine ⟨by unfold eFind; rw [if_pos nmN, dE_findN], ?_⟩
  unfold aSync
  rw [if_pos nmN, dE_findN]
  exact dE_set a (t, 0) (t, t.length)
theorem dE_rename (a : Option (List UInt8)) (t : List UInt8) : eRename (dE a (some (t, t.length))) nN nM = 0 ∧ aRename (dE a (some (t, t.length))) nN nM = dE (some t) none := by
  have h : nN ≠ nM := by decide
  refine ⟨by unfold eRename; rw [dE_findN]; rfl, ?_⟩
  unfold aRename
  rw [dE_findN]
  show insK Ent.nm ⟨nM, t, t.length⟩ (delK Ent.nm nM (delK Ent.nm nN (dE a (some (t, t.length))))) = _
  cases a <;> simp [dE, delK, insK, h.symm]
theorem tear_full (k : Int) (n c : List UInt8) : tearE k ⟨n, c, c.length⟩ = ⟨n, c, c.length⟩ := by
  have h : kept k (c.length - c.length + 1) = 0 := by simp [kept, Int.emod_one]
  unfold tearE
  simp only [h, Nat.add_zero, List.take_length]
theorem tear_len (k : Int) (n c : List UInt8) (s : Nat) (hs : s ≤ c.length) : ∃ y : List UInt8 × Nat, tearE k ⟨n, c, s⟩ = ⟨n, y.1, y.2⟩ ∧ y.1.length ≤ c.length ∧ y.2 ≤ y.1.length := by
  have h0 : kept k (c.length - s + 1) ≤ c.length - s := by
    unfold kept
    have h1 := Int.emod_nonneg k (show ((c.length - s + 1 : Nat) : Int) ≠ 0 by omega)
    have h2 := Int.emod_lt_of_pos k (show (0 : Int) < ((c.length - s + 1 : Nat) : Int) by omega)
    omega
  refine ⟨(c.take (s + kept k (c.length - s + 1)), s + kept k (c.length - s + 1)), rfl, by simp; omega, ?_⟩
  simp; omega
theorem dE_crash (ks : List Int) (a : Option (List UInt8)) (b : Option (List UInt8 × Nat)) (hb : bFit b) : ∃ b', aCrash ks (dE a b) = dE a b' ∧ bFit b' := by
  have one : ∀ i, ∀ x, b = some x → ∃ y : List UInt8 × Nat, tearE (numAt ks i) ⟨nN, x.1, x.2⟩ = ⟨nN, y.1, y.2⟩ ∧ bFit (some y) := fun i x hx => by
    obtain ⟨h1, h2⟩ := hb x hx
    obtain ⟨y, e, h3, h4⟩ := tear_len (numAt ks i) nN x.1 x.2 h2
    exact ⟨y, e, fun z hz => by cases hz; exact ⟨by omega, h4⟩⟩
  cases b with
  | none =>
    refine ⟨none, ?_, hb⟩
    cases a with
    | none => rfl
    | some c =>
      show [tearE _ _] = _
      rw [tear_full]; rfl
  | some x =>
    cases a with
    | none =>
      obtain ⟨y, e, hy⟩ := one 0 x rfl
      refine ⟨some y, ?_, hy⟩
      show [tearE _ _] = _
      rw [e]; rfl
    | some c =>
      obtain ⟨y, e, hy⟩ := one 1 x rfl
      refine ⟨some y, ?_, hy⟩
      show [tearE _ _, tearE _ _] = _
      rw [tear_full, e]; rfl
theorem swa_cases (p : Pw) (ho : p.off = false) (E' : List Ent) (r : Nat) :
    (p.code r = 8 ∧ p.after E' = { p with n := p.n + 1, off := true, E := aCrash p.ks (if oddK p.ks then E' else p.E) }) ∨ (p.code r = r ∧ p.after E' = { p with n := p.n + 1, E := E' }) := by
  unfold Pw.code Pw.after
  rw [ho]
  by_cases h : (p.n : Int) = p.fu
  · left; simp [h]
  · right; simp [h]
theorem bFit_none : bFit none := fun x h => by cases h
/-- One step from one disk to another: done, or the power is off, and the disk one of both, torn. -/
theorem dE_step {q : Nat} {t : List UInt8} {p : Pw} {a a' : Option (List UInt8)} {b b' : Option (List UInt8 × Nat)} {f j k : Nat} {n : List UInt8} {u : List UInt8} (ho : p.off = false) (hE : p.E = dE a b) (hb : bFit b) (hb' : bFit b')
    (hs : stP q t p j = p.wr k q n u) (hc : stC q t p j = p.wrc k q n u) (h0 : wrR k q (dE a b) n u = 0) (h1 : wrE k q (dE a b) n u = dE a' b') {P : Nat × Pw → Prop}
    (hoff : ∀ p' : Pw, (∃ c, bFit c ∧ (p'.E = dE a c ∨ p'.E = dE a' c)) → P (8, p')) (hon : ∀ p' : Pw, p'.off = false → p'.E = dE a' b' → P (swR q t f (j + 1) p')) : P (swR q t (f + 1) j p) := by
  unfold swR
  rw [hs, hc]
  rcases swa_cases p ho (wrE k q p.E n u) (wrR k q p.E n u) with ⟨e1, e2⟩ | ⟨e1, e2⟩
  · have e3 : p.wrc k q n u = 8 := e1
    rw [e3, if_neg (by decide)]
    refine hoff _ ?_
    show ∃ c, bFit c ∧ ((p.after _).E = _ ∨ (p.after _).E = _)
    rw [e2, hE, h1]
    by_cases hk : oddK p.ks = true
    · obtain ⟨c, e, hc⟩ := dE_crash p.ks a' b' hb'
      exact ⟨c, hc, .inr (by show aCrash p.ks (if _ then _ else _) = _; rw [if_pos hk, e])⟩
    · obtain ⟨c, e, hc⟩ := dE_crash p.ks a b hb
      exact ⟨c, hc, .inl (by show aCrash p.ks (if _ then _ else _) = _; rw [if_neg hk, e])⟩
  · have e3 : p.wrc k q n u = 0 := by
      show p.code _ = 0
      rw [e1, hE]; exact h0
    rw [e3, if_pos rfl]
    refine hon _ ?_ ?_
    · show (p.after _).off = false
      rw [e2]; exact ho
    · show (p.after _).E = _
      rw [e2, hE]; exact h1
/-- What a swap leaves: the new text, or what was, or either, if the power went off. -/
def Left (a : Option (List UInt8)) (t : List UInt8) (r : Nat × Pw) : Prop := ∃ c, bFit c ∧ ((r.1 = 0 ∧ r.2.E = dE (some t) c) ∨ (r.1 = 8 ∧ (r.2.E = dE a c ∨ r.2.E = dE (some t) c)))
theorem left_all {q : Nat} {t : List UInt8} {p : Pw} {a : Option (List UInt8)} {b : Option (List UInt8 × Nat)} (ho : p.off = false) (hE : p.E = dE a b) (ha : aFit a) (hb : bFit b) (ht : t.length ≤ 225) (hq : 1000 ≤ q) : Left a t (swR q t 5 0 p) := by
  have off : ∀ p' : Pw, (∃ c, bFit c ∧ (p'.E = dE a c ∨ p'.E = dE a c)) → Left a t (8, p') := fun p' ⟨c, hc, h⟩ => ⟨c, hc, .inr ⟨rfl, .inl (h.elim id id)⟩⟩
  have f0 : bFit (some (([] : List UInt8), 0)) := fun x h => by cases h; simp
  have f1 : bFit (some (t, 0)) := fun x h => by cases h; exact ⟨ht, Nat.zero_le _⟩
  have f2 : bFit (some (t, t.length)) := fun x h => by cases h; exact ⟨ht, Nat.le_refl _⟩
  have tail : ∀ p' : Pw, p'.off = false → p'.E = dE a none → Left a t (swR q t 4 1 p') := fun p1 o1 e1 =>
    dE_step (k := 0) (n := nN) (u := []) o1 e1 bFit_none f0 rfl rfl (dE_create a).1 (dE_create a).2 off fun p2 o2 e2 =>
    dE_step (k := 1) (n := nN) (u := t) o2 e2 f0 f1 rfl rfl (dE_append a t ha ht hq).1 (dE_append a t ha ht hq).2 off fun p3 o3 e3 =>
    dE_step (k := 2) (n := nN) (u := []) o3 e3 f1 f2 rfl rfl (dE_sync a t).1 (dE_sync a t).2 off fun p4 o4 e4 =>
    dE_step (k := 3) (n := nN) (u := nM) o4 e4 f2 bFit_none rfl rfl (dE_rename a t).1 (dE_rename a t).2 (fun p' ⟨c, hc, h⟩ => ⟨c, hc, .inr ⟨rfl, h⟩⟩) fun p5 o5 e5 => ⟨none, bFit_none, .inl ⟨rfl, e5⟩⟩
  have hnm : nN ∈ p.names ↔ b ≠ none := by
    unfold Pw.names
    rw [ho, hE]
    exact dE_names a b
  cases b with
  | none =>
    have h1 : ¬ nN ∈ p.names := fun h => hnm.1 h rfl
    have e : swR q t 5 0 p = swR q t 4 1 p := by
      show (if stC q t p 0 = 0 then _ else _) = _
      have c0 : stC q t p 0 = 0 := if_neg h1
      have s0 : stP q t p 0 = p := if_neg h1
      rw [if_pos c0, s0]
    rw [e]
    exact tail p ho hE
  | some x =>
    have h1 : nN ∈ p.names := hnm.2 (by simp)
    exact dE_step (k := 4) (n := nN) (u := []) ho hE hb bFit_none (show stP q t p 0 = p.wr 4 q nN [] from if_pos h1) (show stC q t p 0 = p.wrc 4 q nN [] from if_pos h1) (dE_remove a x).1 (dE_remove a x).2 off tail
/-- What Load tells of such a disk, the power being on. -/
theorem ld_none {p : Pw} {b : Option (List UInt8 × Nat)} (ho : p.off = false) (hE : p.E = dE none b) : ldC p = 5 ∧ ldM p = mz := by
  have h : p.rdc nM = 5 := by
    unfold Pw.rdc
    rw [ho, hE]
    unfold eFind
    simp only [nmM, dE_findM0]
    rfl
  unfold ldC ldM
  rw [h]
  exact ⟨rfl, rfl⟩
theorem ld_some {p : Pw} {c : List UInt8} {b : Option (List UInt8 × Nat)} (ho : p.off = false) (hE : p.E = dE (some c) b) : ldC p = tkE c ∧ ldM p = tkM c := by
  have h : p.rdc nM = 0 := by
    unfold Pw.rdc
    rw [ho, hE]
    unfold eFind
    simp only [nmM, dE_findM]
    rfl
  have h2 : p.rd nM = c := by
    unfold Pw.rd
    rw [ho, hE]
    unfold rd
    simp only [nmM, dE_findM]
    rfl
  unfold ldC ldM
  rw [h, h2]
  exact ⟨rfl, rfl⟩
end Go.Proofs.YtakejacamkdncaaGreatDoor
