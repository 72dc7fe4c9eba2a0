/- A Write wherever the power goes off, in plain words: a disk with a state's file, another one's, and that one's fresh file. Nothing of the program. -/
import Derived.Test.YtacgmadgkmcmoaaGreatDoorJa
namespace Go.Proofs.YtacgmadgkmcmoaaGreatDoor
open Go.RowKit
set_option linter.unusedVariables false
set_option linter.unusedSimpArgs false
set_option maxRecDepth 20000

abbrev n3 : List UInt8 := cN 3
abbrev n4 : List UInt8 := cN 4
abbrev x4 : List UInt8 := cF 4
/-- The three files: the first is there; the second is there or not; the fresh one as it may be. -/
def d4 (s : List UInt8) (a : Option (List UInt8)) (b : Option (List UInt8 × Nat)) : List Ent :=
  ⟨n3, s, s.length⟩ :: ((match a with | none => [] | some c => [⟨n4, c, c.length⟩]) ++ (match b with | none => [] | some x => [⟨x4, x.1, x.2⟩]))
def aF4 (a : Option (List UInt8)) : Prop := ∀ c, a = some c → c.length ≤ 522
def bF4 (b : Option (List UInt8 × Nat)) : Prop := ∀ x, b = some x → x.1.length ≤ 522 ∧ x.2 ≤ x.1.length
theorem m34 : n3 ≠ n4 := by decide
theorem m3x : n3 ≠ x4 := by decide
theorem m4x : n4 ≠ x4 := by decide
theorem b34 : (n3 == n4) = false := by decide
theorem b3x : (n3 == x4) = false := by decide
theorem b4x : (n4 == x4) = false := by decide
theorem bx4 : (x4 == n4) = false := by decide
theorem b43 : (n4 == n3) = false := by decide
theorem bx3 : (x4 == n3) = false := by decide
theorem nm3 : isNm n3 = true := cN_nm 3
theorem nm4 : isNm n4 = true := cN_nm 4
theorem nmx : isNm x4 = true := cF_nm 4
section
variable {s : List UInt8}
theorem d4_names (a : Option (List UInt8)) (b : Option (List UInt8 × Nat)) : (x4 ∈ (d4 s a b).map Ent.nm ↔ b ≠ none) ∧ (n4 ∈ (d4 s a b).map Ent.nm ↔ a ≠ none) ∧ n3 ∈ (d4 s a b).map Ent.nm := by
  have h1 := m34; have h2 := m3x; have h3 := m4x
  unfold d4
  generalize n3 = x at *
  generalize n4 = y at *
  generalize x4 = z at *
  cases a <;> cases b <;> simp [h1.symm, h2.symm, h3, h3.symm]
theorem d4_findX (a : Option (List UInt8)) (x : List UInt8 × Nat) : fnd x4 (d4 s a (some x)) = some ⟨x4, x.1, x.2⟩ := by
  cases a <;> simp [d4, fndK, b3x, b4x]
theorem d4_findX0 (a : Option (List UInt8)) : fnd x4 (d4 s a none) = none := by
  cases a <;> simp [d4, fndK, b3x, b4x]
theorem d4_find4 (c : List UInt8) (b : Option (List UInt8 × Nat)) : fnd n4 (d4 s (some c) b) = some ⟨n4, c, c.length⟩ := by simp [d4, fndK, b34]
theorem d4_find40 (b : Option (List UInt8 × Nat)) : fnd n4 (d4 s none b) = none := by
  cases b <;> simp [d4, fndK, b34, bx4]
theorem d4_find3 (a : Option (List UInt8)) (b : Option (List UInt8 × Nat)) : fnd n3 (d4 s a b) = some ⟨n3, s, s.length⟩ := by simp [d4, fndK]
theorem d4_len (a : Option (List UInt8)) (b : Option (List UInt8 × Nat)) : (d4 s a b).length ≤ 3 := by cases a <;> cases b <;> simp [d4]
theorem d4_remove (a : Option (List UInt8)) (x : List UInt8 × Nat) : eFind (d4 s a (some x)) x4 = 0 ∧ aRemove (d4 s a (some x)) x4 = d4 s a none := by
  refine ⟨by unfold eFind; rw [if_pos nmx, d4_findX], ?_⟩
  unfold aRemove
  rw [if_pos nmx]
  cases a <;> simp [d4, delK, b3x, b4x]
theorem d4_create (a : Option (List UInt8)) : eCreate (d4 s a none) x4 = 0 ∧ aCreate (d4 s a none) x4 = d4 s a (some ([], 0)) := by
  have h0 : eCreate (d4 s a none) x4 = 0 := by
    have := d4_len (s := s) a none
    unfold eCreate
    rw [if_pos nmx, d4_findX0]
    show (if _ then _ else _) = _
    rw [if_neg (by omega)]
  refine ⟨h0, ?_⟩
  have hb : bytesBefore x4 n3 = false := by decide
  have hc : bytesBefore x4 n4 = false := by decide
  unfold aCreate
  rw [if_pos h0]
  cases a <;> simp [d4, insK, hb, hc]
theorem d4_set (a : Option (List UInt8)) (x y : List UInt8 × Nat) : setE ⟨x4, y.1, y.2⟩ (d4 s a (some x)) = d4 s a (some y) := by
  have h2 := m3x; have h3 := m4x
  cases a <;> simp [d4, setE, h2, h3]
theorem d4_append (a : Option (List UInt8)) (t : List UInt8) {q : Nat} (hs : s.length ≤ 522) (ha : aF4 a) (ht : t.length ≤ 522) (hq : 10000 ≤ q) : eAppend q (d4 s a (some ([], 0))) x4 t = 0 ∧ aAppend q (d4 s a (some ([], 0))) x4 t = d4 s a (some (t, 0)) := by
  have hu : used (d4 s a (some ([], 0))) ≤ 1044 := by
    cases a with
    | none => simp [d4, used]; omega
    | some c => have := ha c rfl; simp [d4, used]; omega
  have h0 : eAppend q (d4 s a (some ([], 0))) x4 t = 0 := by
    unfold eAppend
    rw [if_pos nmx, d4_findX]
    show (if _ then _ else _) = _
    rw [if_neg (by simp; omega)]
  refine ⟨h0, ?_⟩
  unfold aAppend
  rw [if_pos h0, d4_findX]
  exact d4_set a ([], 0) (t, 0)
theorem d4_sync (a : Option (List UInt8)) (t : List UInt8) : eFind (d4 s a (some (t, 0))) x4 = 0 ∧ aSync (d4 s a (some (t, 0))) x4 = d4 s a (some (t, t.length)) := by
  refine ⟨by unfold eFind; rw [if_pos nmx, d4_findX], ?_⟩
  unfold aSync
  rw [if_pos nmx, d4_findX]
  exact d4_set a (t, 0) (t, t.length)
theorem d4_rename (t : List UInt8) : eRename (d4 s none (some (t, t.length))) x4 n4 = 0 ∧ aRename (d4 s none (some (t, t.length))) x4 n4 = d4 s (some t) none := by
  have hb : bytesBefore n4 n3 = false := by decide
  refine ⟨by unfold eRename; rw [nmx, nm4, d4_findX]; rfl, ?_⟩
  unfold aRename
  rw [nmx, nm4, d4_findX]
  show insK Ent.nm ⟨n4, t, t.length⟩ (delK Ent.nm n4 (delK Ent.nm x4 (d4 s none (some (t, t.length))))) = _
  simp [d4, delK, insK, b3x, b34, hb]
theorem ktear_full (k : Int) (n c : List UInt8) : tearE k ⟨n, c, c.length⟩ = ⟨n, c, c.length⟩ := by
  have h : kept k (c.length - c.length + 1) = 0 := by simp [kept, Int.emod_one]
  unfold tearE
  simp only [h, Nat.add_zero, List.take_length]
theorem ktear_len (k : Int) (n c : List UInt8) (s : Nat) (hs : s ≤ c.length) : ∃ y : List UInt8 × Nat, tearE k ⟨n, c, s⟩ = ⟨n, y.1, y.2⟩ ∧ y.1.length ≤ c.length ∧ y.2 ≤ y.1.length := by
  have h0 : kept k (c.length - s + 1) ≤ c.length - s := by
    unfold kept
    have h1 := Int.emod_nonneg k (show ((c.length - s + 1 : Nat) : Int) ≠ 0 by omega)
    have h2 := Int.emod_lt_of_pos k (show (0 : Int) < ((c.length - s + 1 : Nat) : Int) by omega)
    omega
  refine ⟨(c.take (s + kept k (c.length - s + 1)), s + kept k (c.length - s + 1)), rfl, by simp; omega, ?_⟩
  simp; omega
theorem d4_crash (ks : List Int) (a : Option (List UInt8)) (b : Option (List UInt8 × Nat)) (hb : bF4 b) : ∃ b', aCrash ks (d4 s a b) = d4 s a b' ∧ bF4 b' := by
  have one : ∀ i, ∀ x, b = some x → ∃ y : List UInt8 × Nat, tearE (numAt ks i) ⟨x4, x.1, x.2⟩ = ⟨x4, y.1, y.2⟩ ∧ bF4 (some y) := fun i x hx => by
    obtain ⟨h1, h2⟩ := hb x hx
    obtain ⟨y, e, h3, h4⟩ := ktear_len (numAt ks i) x4 x.1 x.2 h2
    exact ⟨y, e, fun z hz => by cases hz; exact ⟨by omega, h4⟩⟩
  cases b with
  | none =>
    refine ⟨none, ?_, hb⟩
    cases a with
    | none =>
      show [tearE _ _] = _
      rw [ktear_full]; rfl
    | some c =>
      show [tearE _ _, tearE _ _] = _
      rw [ktear_full, ktear_full]; rfl
  | some x =>
    cases a with
    | none =>
      obtain ⟨y, e, hy⟩ := one 1 x rfl
      refine ⟨some y, ?_, hy⟩
      show [tearE _ _, tearE _ _] = _
      rw [e, ktear_full]; rfl
    | some c =>
      obtain ⟨y, e, hy⟩ := one 2 x rfl
      refine ⟨some y, ?_, hy⟩
      show [tearE _ _, tearE _ _, tearE _ _] = _
      rw [ktear_full, ktear_full, e]; rfl
end
theorem kafter_cases (p : Pw) (ho : p.off = false) (E' : List Ent) (r : Nat) :
    (p.code r = 8 ∧ p.after E' = { p with n := p.n + 1, off := true, E := aCrash p.ks (if oddK p.ks then E' else p.E) }) ∨ (p.code r = r ∧ p.after E' = { p with n := p.n + 1, E := E' }) := by
  unfold Pw.code Pw.after
  rw [ho]
  by_cases h : (p.n : Int) = p.fu
  · left; simp [h]
  · right; simp [h]
theorem bF4_none : bF4 none := fun x h => by cases h
/-- One step from one disk to another: done, or the power is off, and the disk one of both, torn. -/
theorem d4_step {q : Nat} {s t : List UInt8} {p : Pw} {a a' : Option (List UInt8)} {b b' : Option (List UInt8 × Nat)} {f j k : Nat} {n : List UInt8} {u : List UInt8} (ho : p.off = false) (hE : p.E = d4 s a b) (hb : bF4 b) (hb' : bF4 b')
    (hs : kP q x4 n4 t p j = p.wr k q n u) (hc : kC q x4 n4 t p j = p.wrc k q n u) (h0 : wrR k q (d4 s a b) n u = 0) (h1 : wrE k q (d4 s a b) n u = d4 s a' b') {P : Nat × Pw → Prop}
    (hoff : ∀ p' : Pw, (p'.off = true ∧ ∃ c, bF4 c ∧ (p'.E = d4 s a c ∨ p'.E = d4 s a' c)) → P (8, p')) (hon : ∀ p' : Pw, p'.off = false → p'.E = d4 s a' b' → P (kR q x4 n4 t f (j + 1) p')) : P (kR q x4 n4 t (f + 1) j p) := by
  unfold kR
  rw [hs, hc]
  rcases kafter_cases p ho (wrE k q p.E n u) (wrR k q p.E n u) with ⟨e1, e2⟩ | ⟨e1, e2⟩
  · have e3 : p.wrc k q n u = 8 := e1
    rw [e3, if_neg (by decide)]
    refine hoff _ ⟨?_, ?_⟩
    · show (p.after _).off = true
      rw [e2]
    show ∃ c, bF4 c ∧ ((p.after _).E = _ ∨ (p.after _).E = _)
    rw [e2, hE, h1]
    by_cases hk : oddK p.ks = true
    · obtain ⟨c, e, hc⟩ := d4_crash (s := s) p.ks a' b' hb'
      exact ⟨c, hc, .inr (by show aCrash p.ks (if _ then _ else _) = _; rw [if_pos hk, e])⟩
    · obtain ⟨c, e, hc⟩ := d4_crash (s := s) p.ks a b hb
      exact ⟨c, hc, .inl (by show aCrash p.ks (if _ then _ else _) = _; rw [if_neg hk, e])⟩
  · have e3 : p.wrc k q n u = 0 := by
      show p.code _ = 0
      rw [e1, hE]; exact h0
    rw [e3, if_pos rfl]
    refine hon _ ?_ ?_
    · show (p.after _).off = false
      rw [e2]; exact ho
    · show (p.after _).E = _
      rw [e2, hE]; exact h1
/-- What a Write leaves: the new text, or what was, or either, if the power went off. -/
def Left4 (s : List UInt8) (t : List UInt8) (r : Nat × Pw) : Prop := ∃ c, bF4 c ∧ ((r.1 = 0 ∧ r.2.off = false ∧ r.2.E = d4 s (some t) c) ∨ (r.1 = 8 ∧ r.2.off = true ∧ (r.2.E = d4 s none c ∨ r.2.E = d4 s (some t) c)))
theorem left4 {q : Nat} {s t : List UInt8} {p : Pw} {b : Option (List UInt8 × Nat)} (ho : p.off = false) (hE : p.E = d4 s none b) (hs : s.length ≤ 522) (hb : bF4 b) (ht : t.length ≤ 522) (hq : 10000 ≤ q) : Left4 s t (kR q x4 n4 t 5 0 p) := by
  have off : ∀ p' : Pw, (p'.off = true ∧ ∃ c, bF4 c ∧ (p'.E = d4 s none c ∨ p'.E = d4 s none c)) → Left4 s t (8, p') := fun p' ⟨h0, c, hc, h⟩ => ⟨c, hc, .inr ⟨rfl, h0, .inl (h.elim id id)⟩⟩
  have ha : aF4 none := fun c h => by cases h
  have f0 : bF4 (some (([] : List UInt8), 0)) := fun x h => by cases h; simp
  have f1 : bF4 (some (t, 0)) := fun x h => by cases h; exact ⟨ht, Nat.zero_le _⟩
  have f2 : bF4 (some (t, t.length)) := fun x h => by cases h; exact ⟨ht, Nat.le_refl _⟩
  have tail : ∀ p' : Pw, p'.off = false → p'.E = d4 s none none → Left4 s t (kR q x4 n4 t 4 1 p') := fun p1 o1 e1 =>
    d4_step (k := 0) (n := x4) (u := []) o1 e1 bF4_none f0 rfl rfl (d4_create (s := s) none).1 (d4_create (s := s) none).2 off fun p2 o2 e2 =>
    d4_step (k := 1) (n := x4) (u := t) o2 e2 f0 f1 rfl rfl (d4_append (s := s) none t hs ha ht hq).1 (d4_append (s := s) none t hs ha ht hq).2 off fun p3 o3 e3 =>
    d4_step (k := 2) (n := x4) (u := []) o3 e3 f1 f2 rfl rfl (d4_sync (s := s) none t).1 (d4_sync (s := s) none t).2 off fun p4 o4 e4 =>
    d4_step (k := 3) (n := x4) (u := n4) o4 e4 f2 bF4_none rfl rfl (d4_rename (s := s) t).1 (d4_rename (s := s) t).2 (fun p' ⟨h0, c, hc, h⟩ => ⟨c, hc, .inr ⟨rfl, h0, h⟩⟩) fun p5 o5 e5 => ⟨none, bF4_none, .inl ⟨rfl, o5, e5⟩⟩
  have hnm : x4 ∈ p.names ↔ b ≠ none := by
    unfold Pw.names
    rw [ho, hE]
    exact (d4_names none b).1
  cases b with
  | none =>
    have h1 : ¬ x4 ∈ p.names := fun h => hnm.1 h rfl
    have e : kR q x4 n4 t 5 0 p = kR q x4 n4 t 4 1 p := by
      show (if kC q x4 n4 t p 0 = 0 then _ else _) = _
      have c0 : kC q x4 n4 t p 0 = 0 := by simp only [kC]; exact if_neg h1
      have s0 : kP q x4 n4 t p 0 = p := by simp only [kP]; exact if_neg h1
      rw [if_pos c0, s0]
    rw [e]
    exact tail p ho hE
  | some x =>
    have h1 : x4 ∈ p.names := hnm.2 (by simp)
    exact d4_step (k := 4) (n := x4) (u := []) ho hE hb bF4_none (show kP q x4 n4 t p 0 = p.wr 4 q x4 [] from by simp only [kP]; exact if_pos h1) (show kC q x4 n4 t p 0 = p.wrc 4 q x4 [] from by simp only [kC]; exact if_pos h1) (d4_remove (s := s) none x).1 (d4_remove (s := s) none x).2 off tail
/-- The fuse never comes: so all is done. -/
theorem kafter_on (p : Pw) (ho : p.off = false) (hf : p.fu < 0) (E' : List Ent) (r : Nat) : p.code r = r ∧ p.after E' = { p with n := p.n + 1, E := E' } := by
  unfold Pw.code Pw.after
  rw [ho]
  have h : ¬ (p.n : Int) = p.fu := by omega
  simp [h]
theorem left4_on {q : Nat} {s t : List UInt8} {p : Pw} {b : Option (List UInt8 × Nat)} (ho : p.off = false) (hf : p.fu < 0) (hE : p.E = d4 s none b) (hs : s.length ≤ 522) (hb : bF4 b) (ht : t.length ≤ 522) (hq : 10000 ≤ q) : (kR q x4 n4 t 5 0 p).1 = 0 := by
  have key : ∀ (f j : Nat) (p' : Pw), p'.off = false → p'.fu < 0 → (kR q x4 n4 t f j p').1 ≠ 8 ∨ (kR q x4 n4 t f j p').2.off = false := by
    intro f
    induction f with
    | zero => intro j p' h1 h2; exact .inr h1
    | succ f ih =>
      intro j p' h1 h2
      have hw : ∀ k n u, (p'.wr k q n u).off = false ∧ (p'.wr k q n u).fu < 0 := fun k n u => by
        have := (kafter_on p' h1 h2 (wrE k q p'.E n u) 0).2
        unfold Pw.wr
        rw [this]
        exact ⟨h1, h2⟩
      have hp : (kP q x4 n4 t p' j).off = false ∧ (kP q x4 n4 t p' j).fu < 0 := by
        unfold kP
        (repeat' split) <;> first | exact hw _ _ _ | exact ⟨h1, h2⟩
      unfold kR
      split
      · exact ih _ _ hp.1 hp.2
      · exact .inr hp.1
  obtain ⟨c, hc, (⟨h1, _⟩ | ⟨h1, h2, _⟩)⟩ := left4 ho hE hs hb ht hq
  · exact h1
  · rcases key 5 0 p ho hf with h | h
    · exact absurd h1 h
    · rw [h] at h2; cases h2
/-- What loads of such a disk, the power being on. -/
theorem kl_of {p : Pw} {f : Nat} {c : List UInt8} (ho : p.off = false) {k : Nat} (hE : fnd (cN f) p.E = some ⟨cN f, c, k⟩) : klE p f = (kld c f).1 ∧ klS p f = (kld c f).2 := by
  have h : p.rdc (cN f) = 0 := by
    unfold Pw.rdc
    rw [ho]
    unfold eFind
    simp only [cN_nm, hE]
    rfl
  have h2 : p.rd (cN f) = c := by
    unfold Pw.rd
    rw [ho]
    unfold rd
    simp only [cN_nm, hE]
    rfl
  unfold klE klS
  rw [h, h2]
  exact ⟨rfl, rfl⟩
theorem kl_no {p : Pw} {f : Nat} (ho : p.off = false) (hE : fnd (cN f) p.E = none) : klE p f = 5 ∧ klS p f = .zero := by
  have h : p.rdc (cN f) = 5 := by
    unfold Pw.rdc
    rw [ho]
    unfold eFind
    simp only [cN_nm, hE]
    rfl
  unfold klE klS
  rw [h]
  exact ⟨rfl, rfl⟩
theorem kl_off {p : Pw} {f : Nat} (ho : p.off = true) : klE p f = 8 ∧ klS p f = .zero := by
  have h : p.rdc (cN f) = 8 := by
    unfold Pw.rdc
    rw [ho]; rfl
  unfold klE klS
  rw [h]
  exact ⟨rfl, rfl⟩
end Go.Proofs.YtacgmadgkmcmoaaGreatDoor
