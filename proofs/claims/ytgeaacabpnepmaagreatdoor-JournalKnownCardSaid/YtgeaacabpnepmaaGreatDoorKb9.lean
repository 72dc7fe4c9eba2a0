/- Texts of the walk. -/
import Derived.Test.YtgeaacabpnepmaaGreatDoorAa9
import Derived.Test.YtgeaacabpnepmaaGreatDoorAd9
import Derived.Test.YtgeaacabpnepmaaGreatDoorBa9
import Derived.Test.YtgeaacabpnepmaaGreatDoorPz9
import Derived.Test.YtgeaacabpnepmaaGreatDoorCz9
/- Manifests: which of them may be, their bytes, and how bytes are read: the plain mathematics of layer 17. Nothing of the program. -/
namespace Go.Proofs.YtgeaacabpnepmaaGreatDoor
open Go.RowKit
set_option linter.unusedVariables false
set_option linter.unusedSimpArgs false

structure Mf where
  ep : Nat
  pl : Nat
  sg : List (Nat × Nat)
  ck : List Nat
def mz : Mf := ⟨0, 0, [], []⟩
def sgFit (l : List (Nat × Nat)) : Prop := ∀ p ∈ l, p.1 < 18446744073709551616 ∧ p.2 < 18446744073709551616
def ckFit (l : List Nat) : Prop := ∀ c ∈ l, c < 18446744073709551616
structure Mf.fit (m : Mf) : Prop where
  ep : m.ep < 18446744073709551616
  pl : m.pl < 256
  sg : sgFit m.sg
  ck : ckFit m.ck
theorem mz_fit : mz.fit := ⟨by decide, by decide, (fun p h => by cases h), (fun c h => by cases h)⟩
/-- Segments behind one with these numbers. -/
def sgOk : Nat → Nat → List (Nat × Nat) → Bool
  | _, _, [] => true
  | a, b, p :: l => decide (a < p.1) && (decide (b ≤ p.2) && sgOk p.1 p.2 l)
def ckOk : List Nat → Bool
  | a :: b :: l => decide (b < a) && ckOk (b :: l)
  | _ => true
def segsB (l : List (Nat × Nat)) : Bool := decide (0 < l.length) && (decide (l.length ≤ 12) && sgOk 0 0 l)
def cksB (l : List Nat) : Bool := decide (l.length ≤ 2) && ckOk l
def Mf.ok (m : Mf) : Bool := decide (0 < m.ep) && (decide (m.pl ≤ 1) && (segsB m.sg && cksB m.ck))
theorem Mf.ok_iff {m : Mf} : m.ok = true ↔ 0 < m.ep ∧ m.pl ≤ 1 ∧ segsB m.sg = true ∧ cksB m.ck = true := by simp [Mf.ok]
theorem segsB_iff {l : List (Nat × Nat)} : segsB l = true ↔ 0 < l.length ∧ l.length ≤ 12 ∧ sgOk 0 0 l = true := by simp [segsB]
theorem cksB_iff {l : List Nat} : cksB l = true ↔ l.length ≤ 2 ∧ ckOk l = true := by simp [cksB]
theorem Mf.ok_len {m : Mf} (h : m.ok = true) : m.sg.length ≤ 12 ∧ m.ck.length ≤ 2 := by
  obtain ⟨_, _, h1, h2⟩ := Mf.ok_iff.1 h
  exact ⟨(segsB_iff.1 h1).2.1, (cksB_iff.1 h2).1⟩

def sgb (l : List (Nat × Nat)) : List UInt8 := (l.map fun p => le 8 p.1 ++ le 8 p.2).flatten
def ckb (l : List Nat) : List UInt8 := (l.map (le 8)).flatten
def pay (m : Mf) : List UInt8 := le 8 m.ep ++ le 1 m.pl ++ le 1 m.sg.length ++ sgb m.sg ++ le 1 m.ck.length ++ ckb m.ck
theorem sgb_len (l : List (Nat × Nat)) : (sgb l).length = 16 * l.length := by
  induction l with
  | nil => rfl
  | cons p l ih =>
    have e : sgb (p :: l) = le 8 p.1 ++ le 8 p.2 ++ sgb l := rfl
    rw [e]; simp [le_length, ih]; omega
theorem ckb_len (l : List Nat) : (ckb l).length = 8 * l.length := by
  induction l with
  | nil => rfl
  | cons p l ih =>
    have e : ckb (p :: l) = le 8 p ++ ckb l := rfl
    rw [e]; simp [le_length, ih]; omega
theorem sgb_snoc (a : List (Nat × Nat)) (p : Nat × Nat) : sgb (a ++ [p]) = sgb a ++ le 8 p.1 ++ le 8 p.2 := by simp [sgb]
theorem ckb_snoc (a : List Nat) (c : Nat) : ckb (a ++ [c]) = ckb a ++ le 8 c := by simp [ckb]
theorem pay_len (m : Mf) : (pay m).length = 11 + 16 * m.sg.length + 8 * m.ck.length := by
  unfold pay; simp [le_length, sgb_len, ckb_len]; omega
theorem pay_short {m : Mf} (h : m.ok = true) : (pay m).length ≤ 219 := by
  have := Mf.ok_len h
  rw [pay_len]; omega
/-- The text of a manifest. -/
def enc (m : Mf) : List UInt8 := frm (pay m)
theorem enc_len {m : Mf} (h : m.ok = true) : (enc m).length ≤ 225 := by
  have := pay_short h
  unfold enc; rw [frm_len]; omega
/-- What Put answers. -/
def ptS (m : Mf) : List UInt8 := if m.ok then enc m else []
def ptE (m : Mf) : Nat := if m.ok then 0 else 4
theorem pt_yes {m : Mf} (h : m.ok = true) : ptS m = enc m ∧ ptE m = 0 := ⟨if_pos h, if_pos h⟩
theorem pt_no {m : Mf} (h : m.ok = false) : ptS m = [] ∧ ptE m = 4 := ⟨if_neg (by rw [h]; decide), if_neg (by rw [h]; decide)⟩
/-! Reading. -/
def rd2 (l : List UInt8) : Got (Nat × Nat) := ⟨fin (num 8 l).err (num 8 (num 8 l).rest).err, ((num 8 l).val, (num 8 (num 8 l).rest).val), (num 8 (num 8 l).rest).rest⟩
def rdS (n : Nat) (l : List UInt8) : Got (List (Nat × Nat)) := many (fun _ => rd2) n 0 l
def rdC (n : Nat) (l : List UInt8) : Got (List Nat) := many (fun _ => num 8) n 0 l
def rdM (l : List UInt8) : Got Mf :=
  let a := num 8 l
  let b := num 1 a.rest
  let c := num 1 b.rest
  let s := rdS c.val c.rest
  let d := num 1 s.rest
  let k := rdC d.val d.rest
  ⟨fin (fin (fin (fin (fin a.err b.err) c.err) s.err) d.err) k.err, ⟨a.val, b.val, s.val, k.val⟩, k.rest⟩
theorem p8 : (256 : Nat) ^ 8 = 18446744073709551616 := by decide
theorem rd2_good : Good rd2 (fun p => le 8 p.1 ++ le 8 p.2) (fun p => p.1 < 18446744073709551616 ∧ p.2 < 18446744073709551616) := by
  have h := good_seq (P := num 8) (Q := fun _ => num 8) (e := le 8) (f := fun _ => le 8) (ok := fun n => n < 256 ^ 8) (oq := fun _ n => n < 256 ^ 8) (num_good 8) (fun _ => num_good 8)
  rw [p8] at h
  exact h
theorem enM_sg : ∀ (l : List (Nat × Nat)) (i : Nat), enM (fun _ p => le 8 p.1 ++ le 8 p.2) i l = sgb l
  | [], _ => rfl
  | p :: l, i => by
    show _ ++ enM _ (i + 1) l = _
    rw [enM_sg l (i + 1)]; rfl
theorem enM_ck : ∀ (l : List Nat) (i : Nat), enM (fun _ => le 8) i l = ckb l
  | [], _ => rfl
  | p :: l, i => by
    show _ ++ enM _ (i + 1) l = _
    rw [enM_ck l (i + 1)]; rfl
theorem okM_all {α : Type} {ok : α → Prop} : ∀ (m i : Nat) (l : List α), okM (fun _ => ok) m i l ↔ l.length = m ∧ ∀ x ∈ l, ok x
  | 0, i, l => by
    simp only [okM]
    constructor
    · rintro rfl; exact ⟨rfl, fun x h => by cases h⟩
    · rintro ⟨h, _⟩; exact List.eq_nil_of_length_eq_zero h
  | m + 1, i, l => by
    simp only [okM, okM_all m (i + 1)]
    constructor
    · rintro ⟨x, r, rfl, hx, hl, hr⟩
      refine ⟨by simp [hl], fun y hy => ?_⟩
      rcases List.mem_cons.1 hy with rfl | hy
      · exact hx
      · exact hr y hy
    · rintro ⟨hl, hx⟩
      match l, hl with
      | x :: r, hl => exact ⟨x, r, rfl, hx x (by simp), by simpa using hl, fun y hy => hx y (by simp [hy])⟩
theorem rdS_good (n : Nat) : Good (rdS n) sgb (fun l => l.length = n ∧ sgFit l) := by
  have h := good_many (P := fun _ => rd2) (e := fun _ p => le 8 p.1 ++ le 8 p.2) (ok := fun _ p => p.1 < 18446744073709551616 ∧ p.2 < 18446744073709551616) (fun _ => rd2_good) n 0
  have e1 : (enM (fun _ (p : Nat × Nat) => le 8 p.1 ++ le 8 p.2) 0) = sgb := funext fun l => enM_sg l 0
  have e2 : okM (fun _ (p : Nat × Nat) => p.1 < 18446744073709551616 ∧ p.2 < 18446744073709551616) n 0 = fun l => l.length = n ∧ sgFit l := funext fun l => propext (okM_all n 0 l)
  rw [e1, e2] at h
  exact h
theorem rdC_good (n : Nat) : Good (rdC n) ckb (fun l => l.length = n ∧ ckFit l) := by
  have h := good_many (P := fun _ => num 8) (e := fun _ => le 8) (ok := fun _ n => n < 256 ^ 8) (fun _ => num_good 8) n 0
  have e1 : (enM (fun _ => le 8) 0) = ckb := funext fun l => enM_ck l 0
  have e2 : okM (fun _ (n : Nat) => n < 256 ^ 8) n 0 = fun l => l.length = n ∧ ckFit l := funext fun l => propext (by rw [p8]; exact okM_all n 0 l)
  rw [e1, e2] at h
  exact h
theorem rdM_one {l : List UInt8} (h : (rdM l).err = 0) : l = pay (rdM l).val ++ (rdM l).rest ∧ (rdM l).val.sg.length < 256 ∧ (rdM l).val.ck.length < 256 := by
  unfold rdM at h ⊢
  dsimp only at h ⊢
  obtain ⟨h, e6⟩ := fin_eq_zero h
  obtain ⟨h, e5⟩ := fin_eq_zero h
  obtain ⟨h, e4⟩ := fin_eq_zero h
  obtain ⟨h, e3⟩ := fin_eq_zero h
  obtain ⟨e1, e2⟩ := fin_eq_zero h
  have a1 := ((num_good 8).one _ e1).1
  have a2 := ((num_good 1).one _ e2).1
  have a3 := (num_good 1).one _ e3
  have a4 := (rdS_good _).one _ e4
  have a5 := (num_good 1).one _ e5
  have a6 := (rdC_good _).one _ e6
  have l3 := a3.2
  have l5 := a5.2
  rw [Nat.pow_one] at l3 l5
  refine ⟨?_, by rw [a4.2.1]; exact l3, by rw [a6.2.1]; exact l5⟩
  unfold pay
  simp only [List.append_assoc]
  rw [a4.2.1, a6.2.1, ← a6.1, ← a5.1, ← a4.1, ← a3.1, ← a2, ← a1]
theorem num_val' (k : Nat) (l : List UInt8) : (num k l).val < 256 ^ k := by
  unfold num
  split
  · have h := un_lt (l.take k)
    rwa [show (l.take k).length = k by simp; omega] at h
  · exact Nat.pow_pos (by omega)
theorem n8_lt (l : List UInt8) : (num 8 l).val < 18446744073709551616 := by have := num_val' 8 l; rwa [p8] at this
theorem n1_lt (l : List UInt8) : (num 1 l).val < 256 := by have := num_val' 1 l; rwa [Nat.pow_one] at this
theorem rdS_fit : ∀ (n : Nat) (l : List UInt8), sgFit (rdS n l).val := by
  have key : ∀ (n i : Nat) (l : List UInt8), sgFit (many (fun _ => rd2) n i l).val := by
    intro n
    induction n with
    | zero => intro i l p h; cases h
    | succ n ih =>
      intro i l p h
      rcases List.mem_cons.1 (show p ∈ (rd2 l).val :: (many (fun _ => rd2) n (i + 1) (rd2 l).rest).val from h) with rfl | h
      · exact ⟨n8_lt _, n8_lt _⟩
      · exact ih _ _ p h
  exact fun n l => key n 0 l
theorem rdC_fit : ∀ (n : Nat) (l : List UInt8), ckFit (rdC n l).val := by
  have key : ∀ (n i : Nat) (l : List UInt8), ckFit (many (fun _ => num 8) n i l).val := by
    intro n
    induction n with
    | zero => intro i l p h; cases h
    | succ n ih =>
      intro i l p h
      rcases List.mem_cons.1 (show p ∈ (num 8 l).val :: (many (fun _ => num 8) n (i + 1) (num 8 l).rest).val from h) with rfl | h
      · exact n8_lt _
      · exact ih _ _ p h
  exact fun n l => key n 0 l
theorem rdM_fit (l : List UInt8) : (rdM l).val.fit := ⟨n8_lt _, n1_lt _, rdS_fit _ _, rdC_fit _ _⟩
theorem rdM_lens (l : List UInt8) : (rdM l).val.sg.length < 256 ∧ (rdM l).val.ck.length < 256 := by
  constructor
  · show (many _ _ _ _).val.length < 256
    rw [many_len]; exact n1_lt _
  · show (many _ _ _ _).val.length < 256
    rw [many_len]; exact n1_lt _

/-- What Take tells. -/
def tkYes (s : List UInt8) : Bool := decide (fu' s = s.length) && (decide ((rdM (fp s)).err = 0) && (decide ((rdM (fp s)).rest = []) && (rdM (fp s)).val.ok))
where fu' (s : List UInt8) : Nat := if fe s = 0 then 6 + (fp s).length else 0
def tkE (s : List UInt8) : Int := if fe s = 0 then (if tkYes s then 0 else 4) else fe s
def tkM (s : List UInt8) : Mf := if fe s = 0 then (if tkYes s then (rdM (fp s)).val else mz) else mz
theorem tkM_fit (s : List UInt8) : (tkM s).fit := by
  unfold tkM
  (repeat' split) <;> first | exact rdM_fit _ | exact mz_fit
theorem tkYes_iff {s : List UInt8} (h : fe s = 0) : tkYes s = true ↔ 6 + (fp s).length = s.length ∧ (rdM (fp s)).err = 0 ∧ (rdM (fp s)).rest = [] ∧ (rdM (fp s)).val.ok = true := by
  simp [tkYes, tkYes.fu', h]
/-- What is taken may be, and has that text. -/
theorem tk_one {s : List UInt8} (h : tkE s = 0) : (tkM s).ok = true ∧ enc (tkM s) = s := by
  unfold tkE at h; unfold tkM
  by_cases h1 : fe s = 0
  · rw [if_pos h1] at h ⊢
    by_cases h2 : tkYes s = true
    · rw [if_pos h2]
      obtain ⟨a1, a2, a3, a4⟩ := (tkYes_iff h1).1 h2
      refine ⟨a4, ?_⟩
      have b1 := (rdM_one a2).1
      rw [a3, List.append_nil] at b1
      have b2 := frm_back h1
      rw [List.drop_of_length_le (by omega), List.append_nil] at b2
      unfold enc
      rw [← b1]; exact b2.symm
    · rw [if_neg h2] at h; exact absurd h (by decide)
  · rw [if_neg h1] at h; exact absurd h h1
/-! The document's way: by places. -/
end Go.Proofs.YtgeaacabpnepmaaGreatDoor
/- A swap in plain words: its five steps over a power; what a disk holds behind it, wherever the power goes off. Nothing of the program. -/
namespace Go.Proofs.YtgeaacabpnepmaaGreatDoor
open Go.RowKit
set_option linter.unusedVariables false
set_option linter.unusedSimpArgs false
set_option maxRecDepth 20000

/-- The file's name, and the new file's. -/
def nM : List UInt8 := [109, 97, 110, 105, 102, 101, 115, 116]
def nN : List UInt8 := [109, 97, 110, 105, 102, 101, 115, 116, 46, 110, 101, 119]
/-- A step: 0 clear, 1 create, 2 fill, 3 sync, else rename: what is behind it, and its error. -/
def stP (q : Nat) (t : List UInt8) (p : Pw) : Nat → Pw
  | 0 => if nN ∈ p.names then p.wr 4 q nN [] else p
  | 1 => p.wr 0 q nN []
  | 2 => p.wr 1 q nN t
  | 3 => p.wr 2 q nN []
  | _ => p.wr 3 q nN nM
def stC (q : Nat) (t : List UInt8) (p : Pw) : Nat → Nat
  | 0 => if nN ∈ p.names then p.wrc 4 q nN [] else 0
  | 1 => p.wrc 0 q nN []
  | 2 => p.wrc 1 q nN t
  | 3 => p.wrc 2 q nN []
  | _ => p.wrc 3 q nN nM
/-- So many steps from one on, up to the first error. -/
def swR (q : Nat) (t : List UInt8) : Nat → Nat → Pw → Nat × Pw
  | 0, _, p => (0, p)
  | f + 1, j, p => if stC q t p j = 0 then swR q t f (j + 1) (stP q t p j) else (stC q t p j, stP q t p j)
theorem swa_n (p : Pw) (E : List Ent) : (p.after E).n ≤ p.n + 1 := by
  unfold Pw.after
  split
  · omega
  · split <;> simp
theorem swa_ks (p : Pw) (E : List Ent) : (p.after E).ks = p.ks := by
  unfold Pw.after
  split
  · rfl
  · split <;> rfl
theorem stP_n (q : Nat) (t : List UInt8) (p : Pw) (j : Nat) : (stP q t p j).n ≤ p.n + 1 := by
  unfold stP
  (repeat' split) <;> first | exact swa_n _ _ | exact Nat.le_succ _
theorem stP_ks (q : Nat) (t : List UInt8) (p : Pw) (j : Nat) : (stP q t p j).ks = p.ks := by
  unfold stP
  (repeat' split) <;> first | exact swa_ks _ _ | rfl
theorem swR_ks (q : Nat) (t : List UInt8) : ∀ (f j : Nat) (p : Pw), (swR q t f j p).2.ks = p.ks
  | 0, _, _ => rfl
  | f + 1, j, p => by
    unfold swR
    split
    · rw [swR_ks q t f, stP_ks]
    · exact stP_ks _ _ _ _
theorem swR_n (q : Nat) (t : List UInt8) : ∀ (f j : Nat) (p : Pw), (swR q t f j p).2.n ≤ p.n + f
  | 0, _, _ => Nat.le_refl _
  | f + 1, j, p => by
    have h := stP_n q t p j
    unfold swR
    split
    · have := swR_n q t f (j + 1) (stP q t p j); omega
    · show (stP q t p j).n ≤ _; omega
/-- A swap's error, and the power behind it. -/
def swE (q : Nat) (m : Mf) (p : Pw) : Nat := if m.ok then (swR q (enc m) 5 0 p).1 else 4
def swP (q : Nat) (m : Mf) (p : Pw) : Pw := if m.ok then (swR q (enc m) 5 0 p).2 else p
theorem sw_no {q : Nat} {m : Mf} {p : Pw} (h : m.ok = false) : swE q m p = 4 ∧ swP q m p = p := ⟨if_neg (by rw [h]; decide), if_neg (by rw [h]; decide)⟩
theorem sw_yes {q : Nat} {m : Mf} {p : Pw} (h : m.ok = true) : swE q m p = (swR q (enc m) 5 0 p).1 ∧ swP q m p = (swR q (enc m) 5 0 p).2 := ⟨if_pos h, if_pos h⟩
theorem swP_ks (q : Nat) (m : Mf) (p : Pw) : (swP q m p).ks = p.ks := by
  unfold swP; split
  · exact swR_ks _ _ _ _ _
  · rfl
theorem swP_n (q : Nat) (m : Mf) (p : Pw) : (swP q m p).n ≤ p.n + 5 := by
  unfold swP; split
  · exact swR_n _ _ _ _ _
  · omega
/-- What Load answers. -/
def ldC (p : Pw) : Int := if p.rdc nM = 0 then tkE (p.rd nM) else (p.rdc nM : Nat)
def ldM (p : Pw) : Mf := if p.rdc nM = 0 then tkM (p.rd nM) else mz

/-! A disk with these two files at most. -/
end Go.Proofs.YtgeaacabpnepmaaGreatDoor
/- A journal in plain words: what segments say, what an opening does, what each call makes of it, over a power. Nothing of the program. -/
namespace Go.Proofs.YtgeaacabpnepmaaGreatDoor
open Go.RowKit
set_option linter.unusedVariables false
set_option linter.unusedSimpArgs false
set_option maxRecDepth 20000

def inc (n : Nat) : Nat := (n + 1) % 18446744073709551616
/-- A checkpoint's file; the files of a manifest. -/
def ckn (f : Nat) : List UInt8 := 99 :: hex f
def jfs (m : Mf) : List (List UInt8) := nM :: (m.sg.map fun s => sgn s.1) ++ m.ck.map ckn
/-- Other files are removed. -/
def clr (q : Nat) (ks : List (List UInt8)) : List (List UInt8) → Pw → Nat × Pw
  | [], p => (0, p)
  | n :: l, p => if n ∈ ks then clr q ks l p else if p.wrc 4 q n [] = 0 then clr q ks l (p.wr 4 q n []) else (p.wrc 4 q n [], p.wr 4 q n [])
/-- What segments say: the first frame, the count, the own inputs from there on, the pairs. -/
structure Cn where
  fr : Nat
  c : Nat
  ah : List Nat
  ps : List (Nat × Nat)
def cn0 : Cn := ⟨0, 0, [], []⟩
def cnOne (x : Cn) (r : Rc) : Cn := if r.k = 1 then ⟨x.fr, x.c, x.ah ++ [r.o], x.ps⟩ else ⟨x.fr, x.c + 1, x.ah.tail, x.ps ++ [(r.p, r.q)]⟩
def cnAdd (x : Cn) (l : List Rc) : Cn := l.foldl cnOne ⟨x.fr, x.c, [], x.ps⟩
def segS (p : Pw) (n : Nat) : Sg := (scn n sg0 0 (p.rd (sgn n))).x
def cnAt (first : Bool) (x : Cn) (i : Nat) : Cn := if first then ⟨i, i, x.ah, x.ps⟩ else x
def cnYes (b : Bool) (h : Rc) (x : Cn) : Bool := b && (decide (h.k = 3) && decide (h.i = x.c))
def cnRd (p : Pw) : Bool → Cn → Bool → List (Nat × Nat) → Nat × Cn
  | _, x, _, [] => (0, x)
  | first, x, b, s :: l =>
    if p.rdc (sgn s.1) = 0 then
      cnRd p false (if cnYes b (segS p s.1).h (cnAt first x (segS p s.1).h.i) then cnAdd (cnAt first x (segS p s.1).h.i) (segS p s.1).l else cnAt first x (segS p s.1).h.i) (cnYes b (segS p s.1).h (cnAt first x (segS p s.1).h.i)) l
    else (p.rdc (sgn s.1), cn0)
/-- The floor. -/
def cnOut (ck : List Nat) (x : Cn) : Cn :=
  if ck.length < 2 ∨ x.c < 12 then x else if x.fr < min (ck.getD 1 0) (x.c - 12) then ⟨min (ck.getD 1 0) (x.c - 12), x.c, x.ah, x.ps.drop (min (ck.getD 1 0) (x.c - 12) - x.fr)⟩ else x
/-- The records of one segment that has all of this. -/
def sid (pl : Nat) (q : Nat × Nat) : Nat := if pl = 0 then q.1 else q.2
def pRecs (pl : Nat) : Nat → List (Nat × Nat) → List Rc
  | _, [] => []
  | f, q :: l => rO f (sid pl q) :: rS f q.1 q.2 :: pRecs pl (f + 1) l
def oRecs : Nat → List Nat → List Rc
  | _, [] => []
  | f, i :: l => rO f i :: oRecs (f + 1) l
def cnRecs (pl : Nat) (x : Cn) : List Rc := pRecs pl x.fr x.ps ++ oRecs x.c x.ah
/-- What a disk's manifest is for an opening. -/
def jlE (p : Pw) (pl : Nat) : Int := if ldC p = 5 then 0 else if ldC p = 0 then (if (ldM p).pl = pl then (if (ldM p).ep = 18446744073709551615 then 7 else 0) else 14) else ldC p
def jlM (p : Pw) (pl : Nat) : Mf := if ldC p = 0 ∧ (ldM p).pl = pl ∧ (ldM p).ep ≠ 18446744073709551615 then ldM p else mz
def lastS (l : List (Nat × Nat)) : Nat × Nat := l.getLastD (0, 0)
def rHd (n f ep pl : Nat) : Rc := ⟨3, 0, 0, 0, 0, n, f, ep, pl⟩
/-- The last segment of a manifest is begun, then it is swapped in. -/
def hdM (m : Mf) : Rc := rHd (lastS m.sg).1 (lastS m.sg).2 m.ep m.pl
def jbE (q : Nat) (p : Pw) (m : Mf) (l : List Rc) : Int := if SBE p q (hdM m) l = 0 then ((swE q m (SBP p q (hdM m) l) : Nat) : Int) else SBE p q (hdM m) l
def jbP (q : Nat) (p : Pw) (m : Mf) (l : List Rc) : Pw := if SBE p q (hdM m) l = 0 then swP q m (SBP p q (hdM m) l) else SBP p q (hdM m) l
/-- Swapped in, and others are removed. -/
def jsE (q : Nat) (p : Pw) (m : Mf) : Int := if swE q m p = 0 then (((clr q (jfs m) (swP q m p).names (swP q m p)).1 : Nat) : Int) else (swE q m p : Nat)
def jsP (q : Nat) (p : Pw) (m : Mf) : Pw := if swE q m p = 0 then (clr q (jfs m) (swP q m p).names (swP q m p)).2 else swP q m p
/-- What an opening finds, its error, the power behind that. -/
structure Fd where
  e : Int
  p : Pw
  m : Mf
  x : Cn
def fdR (q pl : Nat) (p : Pw) : Fd :=
  if jlE p pl = 0 then
    if (clr q (jfs (jlM p pl)) p.names p).1 = 0 then
      if (cnRd (clr q (jfs (jlM p pl)) p.names p).2 true cn0 true (jlM p pl).sg).1 = 0 then ⟨0, (clr q (jfs (jlM p pl)) p.names p).2, jlM p pl, (cnRd (clr q (jfs (jlM p pl)) p.names p).2 true cn0 true (jlM p pl).sg).2⟩
      else ⟨((cnRd (clr q (jfs (jlM p pl)) p.names p).2 true cn0 true (jlM p pl).sg).1 : Nat), (clr q (jfs (jlM p pl)) p.names p).2, jlM p pl, cn0⟩
    else ⟨((clr q (jfs (jlM p pl)) p.names p).1 : Nat), (clr q (jfs (jlM p pl)) p.names p).2, mz, cn0⟩
  else ⟨jlE p pl, p, mz, cn0⟩
/-- An opening's manifest. -/
def opM (pl : Nat) (m : Mf) (x : Cn) : Mf := ⟨inc m.ep, pl, [(inc (lastS m.sg).1, x.fr)], m.ck⟩
structure Op where
  e : Int
  p : Pw
  m : Mf
  x : Cn
  f : Bool
def opB (q pl : Nat) (p : Pw) (m : Mf) (x : Cn) (l : List Rc) (f : Bool) : Op :=
  if SBE p q (hdM m) l = 0 then (if jsE q (SBP p q (hdM m) l) m = 0 then ⟨0, jsP q (SBP p q (hdM m) l) m, m, x, f⟩ else ⟨jsE q (SBP p q (hdM m) l) m, jsP q (SBP p q (hdM m) l) m, mz, cn0, false⟩)
  else ⟨SBE p q (hdM m) l, SBP p q (hdM m) l, mz, cn0, false⟩
def opR (q pl : Nat) (rows : Int) (p : Pw) : Op :=
  if pl ≤ 1 ∧ 4 ≤ rows ∧ rows ≤ 32 then
    if (fdR q pl p).e = 0 then
      opB q pl (fdR q pl p).p (opM pl (fdR q pl p).m (cnOut (fdR q pl p).m.ck (fdR q pl p).x)) (cnOut (fdR q pl p).m.ck (fdR q pl p).x) (cnRecs pl (cnOut (fdR q pl p).m.ck (fdR q pl p).x)) (decide ((fdR q pl p).m.ep = 0))
    else ⟨(fdR q pl p).e, (fdR q pl p).p, mz, cn0, false⟩
  else ⟨2, p, mz, cn0, false⟩
/-- A journal. -/
structure Jn where
  rows : Nat
  c : Nat
  ah : List Nat
  sy : Nat
  os : Nat
  m : Mf
  ap : Nat
  br : Bool
def Jn.ow (j : Jn) : Nat := j.c + j.ah.length
def Jn.hold (j : Jn) (e : Int) : Jn := { j with br := decide (e ≠ 0) }
def opJ (rows : Nat) (o : Op) : Jn := ⟨rows, o.x.c, o.x.ah, o.x.c, o.x.c + o.x.ah.length, o.m, 0, false⟩
/-- A record more of the open segment: the error, the power. -/
def wrE' (q : Nat) (p : Pw) (j : Jn) (r : Rc) : Int := SAE p q (lastS j.m.sg).1 r
def wrP (q : Nat) (p : Pw) (j : Jn) (r : Rc) : Pw := SAP p q (lastS j.m.sg).1 r
def Jn.wrote (j : Jn) (e : Int) : Jn := { j with br := decide (e ≠ 0), ap := if e = 0 then j.ap + 1 else j.ap }
/-- What a call answers, and makes of the journal and its power. -/
structure Ans where
  e : Int
  p : Pw
  j : Jn
def jOwn (q : Nat) (p : Pw) (j : Jn) (f i : Nat) : Ans :=
  if j.br = true then ⟨13, p, j⟩
  else if 64 ≤ i then ⟨2, p, j⟩
  else if f ≠ j.ow ∨ f = 18446744073709551615 then ⟨11, p, j⟩
  else if 12 ≤ j.ah.length then ⟨7, p, j⟩
  else if wrE' q p j (rO f i) = 0 then ⟨0, wrP q p j (rO f i), { j.wrote 0 with ah := j.ah ++ [i] }⟩
  else ⟨wrE' q p j (rO f i), wrP q p j (rO f i), j.wrote (wrE' q p j (rO f i))⟩
def jSure (q : Nat) (p : Pw) (j : Jn) (f a b : Nat) : Ans :=
  if j.br = true then ⟨13, p, j⟩
  else if 64 ≤ a ∨ 64 ≤ b then ⟨2, p, j⟩
  else if f ≠ j.c ∨ j.ah = [] then ⟨11, p, j⟩
  else if sid j.m.pl (a, b) ≠ j.ah.headD 0 then ⟨14, p, j⟩
  else if wrE' q p j (rS f a b) = 0 then ⟨0, wrP q p j (rS f a b), { j.wrote 0 with c := j.c + 1, ah := j.ah.tail }⟩
  else ⟨wrE' q p j (rS f a b), wrP q p j (rS f a b), j.wrote (wrE' q p j (rS f a b))⟩
def jSync (q : Nat) (p : Pw) (j : Jn) : Ans :=
  if j.br = true then ⟨13, p, j⟩
  else if p.wrc 2 q (sgn (lastS j.m.sg).1) [] = 0 then ⟨0, p.wr 2 q (sgn (lastS j.m.sg).1) [], { j.hold 0 with sy := j.c, os := j.ow }⟩
  else ⟨(p.wrc 2 q (sgn (lastS j.m.sg).1) [] : Nat), p.wr 2 q (sgn (lastS j.m.sg).1) [], j.hold (p.wrc 2 q (sgn (lastS j.m.sg).1) [] : Nat)⟩
/-- A roll's manifest. -/
def rlM (j : Jn) : Mf := ⟨j.m.ep, j.m.pl, j.m.sg ++ [(inc (lastS j.m.sg).1, j.c)], j.m.ck⟩
def jRoll (q : Nat) (p : Pw) (j : Jn) : Ans :=
  if j.br = true then ⟨13, p, j⟩
  else if 12 ≤ j.m.sg.length then ⟨7, p, j⟩
  else if (jSync q p j).e = 0 then
    (if jbE q (jSync q p j).p (rlM j) (oRecs j.c j.ah) = 0 then ⟨0, jbP q (jSync q p j).p (rlM j) (oRecs j.c j.ah), { (jSync q p j).j with m := rlM j, ap := 0 }⟩
     else ⟨jbE q (jSync q p j).p (rlM j) (oRecs j.c j.ah), jbP q (jSync q p j).p (rlM j) (oRecs j.c j.ah), (jSync q p j).j.hold (jbE q (jSync q p j).p (rlM j) (oRecs j.c j.ah))⟩)
  else jSync q p j
/-- Without the first segments, as long as the next one's First is not above. -/
def dropS (b : Nat) : List (Nat × Nat) → List (Nat × Nat)
  | s :: t :: l => if t.2 ≤ b then dropS b (t :: l) else s :: t :: l
  | l => l
def kpM (j : Jn) (b : Nat) (ck : List Nat) : Mf := ⟨j.m.ep, j.m.pl, dropS b j.m.sg, ck⟩
def jKeep (q : Nat) (p : Pw) (j : Jn) (b : Nat) (ck : List Nat) : Ans :=
  if j.br = true then ⟨13, p, j⟩
  else if (⟨j.m.ep, j.m.pl, j.m.sg, ck⟩ : Mf).ok = false then ⟨4, p, j⟩
  else if swE q (kpM j b ck) p = 0 then ⟨jsE q p (kpM j b ck), jsP q p (kpM j b ck), { j.hold (jsE q p (kpM j b ck)) with m := kpM j b ck }⟩
  else ⟨jsE q p (kpM j b ck), jsP q p (kpM j b ck), j.hold (jsE q p (kpM j b ck))⟩
def jDue (j : Jn) : Bool := !j.br && decide (j.rows ≤ j.ap)
def jMan (j : Jn) : Mf := if j.br then mz else j.m
end Go.Proofs.YtgeaacabpnepmaaGreatDoor
/- What segments say may be said: plain facts that the walks ask. Nothing of the program. -/
namespace Go.Proofs.YtgeaacabpnepmaaGreatDoor
open Go.RowKit
set_option linter.unusedVariables false
set_option linter.unusedSimpArgs false
set_option maxRecDepth 20000

theorem inc_lt (n : Nat) : inc n < 18446744073709551616 := Nat.mod_lt _ (by decide)
/-- Records that may be added one by one. -/
def AddOk : Cn → List Rc → Prop
  | x, [] => True
  | x, r :: l => r.fit ∧ mayB r = true ∧ (r.k = 1 ∨ (r.k = 2 ∧ x.ah ≠ [])) ∧ (cnOne x r).c + (cnOne x r).ah.length < 18446744073709551616 ∧ AddOk (cnOne x r) l
theorem addOk_take : ∀ (l : List Rc) (x : Cn) (k : Nat) (hk : k < l.length), AddOk x l → AddOk ((l.take k).foldl cnOne x) (l.drop k)
  | r :: l, x, 0, _, h => h
  | r :: l, x, k + 1, hk, h => addOk_take l (cnOne x r) k (by simpa using hk) h.2.2.2.2
theorem tkS_one {n : Nat} {x : Sg} {r : Rc} (hb : x.b = true) (h0 : tkS n x r = 0) (hm : mayB r = true) :
    (r.k = 1 ∧ r.f = x.o ∧ x.o - x.c < 12 ∧ r.f ≠ 18446744073709551615 ∧ adS x r = ⟨x.b, x.h, x.l ++ [r], x.c, x.o + 1⟩) ∨
    (r.k = 2 ∧ r.f = x.c ∧ x.c < x.o ∧ side r x.h.y = inp x.l r.f ∧ adS x r = ⟨x.b, x.h, x.l ++ [r], x.c + 1, x.o⟩) := by
  have hk := may_k hm
  unfold tkS at h0
  unfold adS
  by_cases k3 : r.k = 3
  · rw [if_pos k3, if_pos (.inl hb)] at h0; cases h0
  · rw [if_neg k3, if_neg (by rw [hb]; decide)] at h0
    rw [if_neg k3]
    by_cases k1 : r.k = 1
    · rw [if_pos k1] at h0 ⊢
      split at h0
      · cases h0
      · left
        rename_i hn
        exact ⟨k1, by omega, by omega, by omega, rfl⟩
    · rw [if_neg k1] at h0 ⊢
      split at h0
      · cases h0
      · rename_i hn
        split at h0
        · cases h0
        · rename_i hs
          right
          exact ⟨by omega, by omega, by omega, by simpa using hs, rfl⟩
theorem goes_add {n : Nat} : ∀ {l : List Rc} {X : Sg} {x : Cn}, Okg n X → X.b = true → Goes n X l → x.c = X.c → x.c + x.ah.length = X.o → AddOk x l
  | [], _, _, _, _, _, _, _ => trivial
  | r :: l, X, x, hx, hb, ⟨h1, h2, h3, h4⟩, hc, ho => by
    have hx' := okg_ad hx h1 h2 h3
    have h64 := hx'.o64
    rcases tkS_one hb h3 h2 with ⟨k, e1, e2, e3, e4⟩ | ⟨k, e1, e2, e3, e4⟩
    · rw [e4] at h4 h64 hx'
      have e : cnOne x r = ⟨x.fr, x.c, x.ah ++ [r.o], x.ps⟩ := if_pos k
      refine ⟨h1, h2, .inl k, ?_, ?_⟩
      · rw [e]; simp only [List.length_append, List.length_singleton]
        have h64 : X.o + 1 < _ := h64
        omega
      · rw [e]; exact goes_add hx' hb h4 hc (by simp; omega)
    · rw [e4] at h4 h64 hx'
      have e : cnOne x r = ⟨x.fr, x.c + 1, x.ah.tail, x.ps ++ [(r.p, r.q)]⟩ := if_neg (by omega)
      have hl : x.ah ≠ [] := by intro h; rw [h] at ho; simp at ho; omega
      have hl2 : x.ah.tail.length + 1 = x.ah.length := by
        rw [List.length_tail]; have := List.length_pos_iff.2 hl; omega
      refine ⟨h1, h2, .inr ⟨k, hl⟩, ?_, ?_⟩
      · rw [e]
        show x.c + 1 + x.ah.tail.length < _
        have h64 : X.o < _ := h64
        omega
      · rw [e]; exact goes_add hx' hb h4 (by show x.c + 1 = X.c + 1; omega) (by show x.c + 1 + x.ah.tail.length = X.o; omega)
/-- A scan's answer: what it found goes on. -/
theorem scn_says (n : Nat) (s : List UInt8) : ∃ h l a e, scn n sg0 0 s = ⟨⟨(scn n sg0 0 s).x.b, h, l, (scn n sg0 0 s).x.c, (scn n sg0 0 s).x.o⟩, a, e⟩ ∧ h.fit ∧ 6 * l.length ≤ s.length ∧
    ((h = rz ∧ l = []) ∨ (h.k = 3 ∧ mayB h = true ∧ h.s = n ∧ Okg n ⟨true, h, [], h.i, h.i⟩ ∧ Goes n ⟨true, h, [], h.i, h.i⟩ l ∧ scn n sg0 0 s = ⟨runS ⟨true, h, [], h.i, h.i⟩ l, a, e⟩ ∧ bys (h :: l) <+: s)) := by
  obtain ⟨L, h1, h2, h3⟩ := scn_told n s.length s sg0 0 (Nat.le_refl _) (okg0 n)
  cases L with
  | nil =>
    have e : (scn n sg0 0 s).x = sg0 := by rw [h2]; rfl
    refine ⟨rz, [], (scn n sg0 0 s).a, (scn n sg0 0 s).e, ?_, rz_fit, by simp, .inl ⟨rfl, rfl⟩⟩
    conv => lhs; rw [h2]
    rw [e]
    show (⟨runS sg0 [], _, _⟩ : Sc) = _
    rw [h2]; rfl
  | cons r l =>
    obtain ⟨g1, g2, g3⟩ := runS_told h1
    obtain ⟨k3, ka⟩ := goes_head h1
    have hx : (scn n sg0 0 s).x = runS sg0 (r :: l) := by rw [h2]
    obtain ⟨f1, f2, f3, f4⟩ := h1
    have hlen : ∀ l : List Rc, 6 * l.length ≤ (bys l).length := fun l => by
      induction l with
      | nil => simp [bys]
      | cons a l ih => rw [bys_cons, List.length_append, List.length_cons]; have := byR_lo a; omega
    refine ⟨r, l, (scn n sg0 0 s).a, (scn n sg0 0 s).e, ?_, f1, ?_, .inr ⟨k3, f2, ?_, ?_, ?_, ?_, h3⟩⟩
    · have : (scn n sg0 0 s).x = ⟨(scn n sg0 0 s).x.b, r, l, (scn n sg0 0 s).x.c, (scn n sg0 0 s).x.o⟩ := by
        rw [hx]
        conv => lhs; rw [show runS sg0 (r :: l) = ⟨(runS sg0 (r :: l)).b, (runS sg0 (r :: l)).h, (runS sg0 (r :: l)).l, (runS sg0 (r :: l)).c, (runS sg0 (r :: l)).o⟩ from rfl]
        rw [g1, g2]
      rw [← this]
    · have := h3.length_le
      rw [bys_cons, List.length_append] at this
      have := hlen l
      omega
    · unfold tkS at f3
      rw [if_pos k3] at f3
      split at f3
      · cases f3
      · rename_i hn
        rcases Nat.decEq r.s n with h | h
        · exact absurd (.inr h) hn
        · exact h
    · rw [← ka]; exact okg_ad (okg0 n) f1 f2 f3
    · rw [← ka]; exact f4
    · rw [← ka, ← runS_cons]
      rw [← hx]
theorem seg_says (p : Pw) (n : Nat) (hp : (p.rd (sgn n)).length ≤ 65536) : (segS p n).h.fit ∧ (segS p n).l.length ≤ 10922 ∧ ((segS p n).h.k = 3 → (segS p n).h.i < 18446744073709551616 ∧ ∀ x : Cn, x.c = (segS p n).h.i → x.ah = [] → AddOk x (segS p n).l) ∧ ((segS p n).h.k ≠ 3 → (segS p n).h = rz ∧ (segS p n).l = []) := by
  obtain ⟨h, l, a, e, e1, h1, h2, h3⟩ := scn_says n (p.rd (sgn n))
  have ex : segS p n = ⟨(scn n sg0 0 (p.rd (sgn n))).x.b, h, l, (scn n sg0 0 (p.rd (sgn n))).x.c, (scn n sg0 0 (p.rd (sgn n))).x.o⟩ := congrArg Sc.x e1
  have eh : (segS p n).h = h := by rw [ex]
  have el : (segS p n).l = l := by rw [ex]
  rw [eh, el]
  refine ⟨h1, by omega, fun k3 => ⟨h1.i, fun x hc ha => ?_⟩, fun k3 => ?_⟩
  · rcases h3 with ⟨rfl, rfl⟩ | ⟨_, _, _, h4, h5, _⟩
    · exact trivial
    · exact goes_add h4 rfl h5 hc (by rw [ha]; simpa using hc)
  · rcases h3 with h3 | h3
    · exact h3
    · exact absurd h3.1 k3
/-- What is said may be said. -/
structure CnOk (x : Cn) : Prop where
  n : x.fr + x.ps.length = x.c
  o : x.c + x.ah.length < 18446744073709551616
  ah : ∀ i ∈ x.ah, i < 64
  ps : ∀ q ∈ x.ps, q.1 < 64 ∧ q.2 < 64
theorem cn0_ok : CnOk cn0 := ⟨rfl, by decide, (fun i h => by cases h), (fun i h => by cases h)⟩
theorem one_okc {x : Cn} {r : Rc} {l : List Rc} (h : CnOk x) (ha : AddOk x (r :: l)) : CnOk (cnOne x r) := by
  obtain ⟨h1, h2, h3, h4, _⟩ := ha
  have hl := may_low h2
  rcases h3 with h3 | ⟨h3, h5⟩
  · have e : cnOne x r = ⟨x.fr, x.c, x.ah ++ [r.o], x.ps⟩ := if_pos h3
    rw [e] at h4 ⊢
    refine ⟨h.n, h4, fun i hi => ?_, h.ps⟩
    rcases List.mem_append.1 hi with hi | hi
    · exact h.ah i hi
    · rw [List.mem_singleton] at hi; subst hi; exact hl.1
  · have e : cnOne x r = ⟨x.fr, x.c + 1, x.ah.tail, x.ps ++ [(r.p, r.q)]⟩ := if_neg (by omega)
    rw [e] at h4 ⊢
    refine ⟨by simp; have := h.n; omega, h4, fun i hi => h.ah i (List.mem_of_mem_tail hi), fun q hq => ?_⟩
    rcases List.mem_append.1 hq with hq | hq
    · exact h.ps q hq
    · rw [List.mem_singleton] at hq; subst hq; exact ⟨hl.2.1, hl.2.2.1⟩
theorem fold_okc : ∀ {l : List Rc} {x : Cn}, CnOk x → AddOk x l → CnOk (l.foldl cnOne x)
  | [], _, h, _ => h
  | r :: l, x, h, ha => fold_okc (l := l) (one_okc h ha) ha.2.2.2.2
theorem fold_len : ∀ (l : List Rc) (x : Cn), (l.foldl cnOne x).ps.length ≤ x.ps.length + l.length ∧ (l.foldl cnOne x).ah.length ≤ x.ah.length + l.length
  | [], _ => ⟨Nat.le_refl _, Nat.le_refl _⟩
  | r :: l, x => by
    obtain ⟨h1, h2⟩ := fold_len l (cnOne x r)
    have h3 : (cnOne x r).ps.length ≤ x.ps.length + 1 ∧ (cnOne x r).ah.length ≤ x.ah.length + 1 := by
      unfold cnOne
      split
      · simp
      · simp; omega
    rw [List.foldl_cons, List.length_cons]
    omega
theorem add_okc {x : Cn} {l : List Rc} (h : CnOk x) (ha : AddOk ⟨x.fr, x.c, [], x.ps⟩ l) : CnOk (cnAdd x l) :=
  fold_okc ⟨h.n, by have := h.o; simp; omega, (fun i hi => by cases hi), h.ps⟩ ha
theorem out_okc {x : Cn} (ck : List Nat) (h : CnOk x) : CnOk (cnOut ck x) ∧ (cnOut ck x).ps.length ≤ x.ps.length ∧ (cnOut ck x).c = x.c ∧ (cnOut ck x).ah = x.ah := by
  unfold cnOut
  split
  · exact ⟨h, Nat.le_refl _, rfl, rfl⟩
  · split
    · rename_i h1 h2
      have hn := h.n
      refine ⟨⟨?_, h.o, h.ah, fun q hq => h.ps q (List.mem_of_mem_drop hq)⟩, ?_, rfl, rfl⟩
      · simp only [List.length_drop]; omega
      · simp only [List.length_drop]; omega
    · exact ⟨h, Nat.le_refl _, rfl, rfl⟩
/-- One segment's turn. -/
def cnTurn (p : Pw) (first : Bool) (x : Cn) (b : Bool) (n : Nat) : Cn := if cnYes b (segS p n).h (cnAt first x (segS p n).h.i) then cnAdd (cnAt first x (segS p n).h.i) (segS p n).l else cnAt first x (segS p n).h.i
theorem yes_iff {b : Bool} {h : Rc} {x : Cn} : cnYes b h x = true ↔ b = true ∧ h.k = 3 ∧ h.i = x.c := by simp [cnYes]
theorem turn_okc {p : Pw} {first : Bool} {x : Cn} {b : Bool} {n : Nat} (hp : (p.rd (sgn n)).length ≤ 65536) (h : CnOk x) (hf : first = true → x = cn0) :
    CnOk (cnTurn p first x b n) ∧ (cnTurn p first x b n).ps.length ≤ x.ps.length + 10922 ∧ CnOk (cnAt first x (segS p n).h.i) ∧ (cnYes b (segS p n).h (cnAt first x (segS p n).h.i) = true → AddOk ⟨(cnAt first x (segS p n).h.i).fr, (cnAt first x (segS p n).h.i).c, [], (cnAt first x (segS p n).h.i).ps⟩ (segS p n).l) := by
  obtain ⟨h1, h2, h3, h4⟩ := seg_says p n hp
  have hat : CnOk (cnAt first x (segS p n).h.i) ∧ (cnAt first x (segS p n).h.i).ps = x.ps := by
    unfold cnAt
    cases first
    · exact ⟨h, rfl⟩
    · obtain rfl := hf rfl
      exact ⟨⟨rfl, by have := h1.i; simpa [cn0] using this, (fun i h => by cases h), (fun i h => by cases h)⟩, rfl⟩
  have hadd : cnYes b (segS p n).h (cnAt first x (segS p n).h.i) = true → AddOk ⟨(cnAt first x (segS p n).h.i).fr, (cnAt first x (segS p n).h.i).c, [], (cnAt first x (segS p n).h.i).ps⟩ (segS p n).l := fun hy => by
    obtain ⟨_, k3, hi⟩ := yes_iff.1 hy
    exact (h3 k3).2 _ hi.symm rfl
  unfold cnTurn
  split
  · rename_i hy
    have := (fold_len (segS p n).l ⟨(cnAt first x (segS p n).h.i).fr, (cnAt first x (segS p n).h.i).c, [], (cnAt first x (segS p n).h.i).ps⟩).1
    refine ⟨add_okc hat.1 (hadd hy), ?_, hat.1, hadd⟩
    unfold cnAdd
    rw [hat.2] at this ⊢
    omega
  · exact ⟨hat.1, by rw [hat.2]; omega, hat.1, hadd⟩
theorem rd_nil (p : Pw) (first : Bool) (x : Cn) (b : Bool) : cnRd p first x b [] = (0, x) := by rw [cnRd]
theorem rd_cons (p : Pw) (first : Bool) (x : Cn) (b : Bool) (s : Nat × Nat) (l : List (Nat × Nat)) (h : p.rdc (sgn s.1) = 0) :
    cnRd p first x b (s :: l) = cnRd p false (cnTurn p first x b s.1) (cnYes b (segS p s.1).h (cnAt first x (segS p s.1).h.i)) l := by
  rw [cnRd, if_pos h]; rfl
theorem rd_stop (p : Pw) (first : Bool) (x : Cn) (b : Bool) (s : Nat × Nat) (l : List (Nat × Nat)) (h : p.rdc (sgn s.1) ≠ 0) : cnRd p first x b (s :: l) = (p.rdc (sgn s.1), cn0) := by
  rw [cnRd, if_neg h]
theorem rd_okc {p : Pw} (hp : ∀ n, (p.rd (sgn n)).length ≤ 65536) : ∀ (l : List (Nat × Nat)) (first : Bool) (x : Cn) (b : Bool), CnOk x → (first = true → x = cn0) →
    CnOk (cnRd p first x b l).2 ∧ (cnRd p first x b l).2.ps.length ≤ x.ps.length + 10922 * l.length
  | [], _, x, _, h, _ => ⟨h, Nat.le_refl _⟩
  | s :: l, first, x, b, h, hf => by
    by_cases h0 : p.rdc (sgn s.1) = 0
    · rw [rd_cons _ _ _ _ _ _ h0]
      obtain ⟨h1, h2, _⟩ := turn_okc (b := b) (hp s.1) h hf
      obtain ⟨h3, h4⟩ := rd_okc hp l false _ (cnYes b (segS p s.1).h (cnAt first x (segS p s.1).h.i)) h1 (fun h => by cases h)
      rw [List.length_cons]
      exact ⟨h3, by omega⟩
    · rw [rd_stop _ _ _ _ _ _ h0]
      exact ⟨cn0_ok, Nat.zero_le _⟩
/-- Records that may stand in a segment. -/
theorem rO_fit {f i : Nat} (hf : f < 18446744073709551616) (hi : i < 64) : (rO f i).fit := (rO_ok hf hi).1
theorem oRecs_len : ∀ (f : Nat) (l : List Nat), (oRecs f l).length = l.length
  | _, [] => rfl
  | f, i :: l => by simp [oRecs, oRecs_len (f + 1) l]
theorem pRecs_len (pl : Nat) : ∀ (f : Nat) (l : List (Nat × Nat)), (pRecs pl f l).length = 2 * l.length
  | _, [] => rfl
  | f, i :: l => by simp [pRecs, pRecs_len pl (f + 1) l]; omega
theorem oRecs_snoc : ∀ (f : Nat) (l : List Nat) (i : Nat), oRecs f (l ++ [i]) = oRecs f l ++ [rO (f + l.length) i]
  | f, [], i => rfl
  | f, a :: l, i => by
    simp only [List.cons_append, oRecs, oRecs_snoc (f + 1) l i, List.length_cons]
    rw [show f + 1 + l.length = f + (l.length + 1) by omega]
theorem pRecs_snoc (pl : Nat) : ∀ (f : Nat) (l : List (Nat × Nat)) (q : Nat × Nat), pRecs pl f (l ++ [q]) = pRecs pl f l ++ [rO (f + l.length) (sid pl q), rS (f + l.length) q.1 q.2]
  | f, [], q => rfl
  | f, a :: l, q => by
    simp only [List.cons_append, pRecs, pRecs_snoc pl (f + 1) l q, List.length_cons]
    rw [show f + 1 + l.length = f + (l.length + 1) by omega]
theorem oRecs_fit : ∀ {l : List Nat} {f : Nat}, f + l.length < 18446744073709551616 → (∀ i ∈ l, i < 64) → ∀ r ∈ oRecs f l, r.fit ∧ mayB r = true
  | [], _, _, _, r, h => by cases h
  | i :: l, f, h1, h2, r, h => by
    rw [List.length_cons] at h1
    rcases List.mem_cons.1 h with rfl | h
    · exact rO_ok (by omega) (h2 i (by simp))
    · exact oRecs_fit (l := l) (f := f + 1) (by omega) (fun i hi => h2 i (by simp [hi])) r h
theorem pRecs_fit {pl : Nat} : ∀ {l : List (Nat × Nat)} {f : Nat}, f + l.length < 18446744073709551616 → (∀ i ∈ l, i.1 < 64 ∧ i.2 < 64) → ∀ r ∈ pRecs pl f l, r.fit ∧ mayB r = true
  | [], _, _, _, r, h => by cases h
  | q :: l, f, h1, h2, r, h => by
    rw [List.length_cons] at h1
    have hq := h2 q (by simp)
    rcases List.mem_cons.1 h with rfl | h
    · exact rO_ok (by omega) (by unfold sid; split; exact hq.1; exact hq.2)
    · rcases List.mem_cons.1 h with rfl | h
      · exact rS_ok (by omega) hq.1 hq.2
      · exact pRecs_fit (l := l) (f := f + 1) (by omega) (fun i hi => h2 i (by simp [hi])) r h
theorem cnRecs_fit {pl : Nat} {x : Cn} (h : CnOk x) : ∀ r ∈ cnRecs pl x, r.fit ∧ mayB r = true := fun r hr => by
  have hn := h.n
  have ho := h.o
  rcases List.mem_append.1 hr with hr | hr
  · exact pRecs_fit (by omega) h.ps r hr
  · exact oRecs_fit ho h.ah r hr
theorem cnRecs_len {pl : Nat} {x : Cn} : (cnRecs pl x).length = 2 * x.ps.length + x.ah.length := by
  unfold cnRecs; rw [List.length_append, pRecs_len, oRecs_len]
theorem hd_fit {n f ep pl : Nat} (h1 : n < 18446744073709551616) (h2 : f < 18446744073709551616) (h3 : ep < 18446744073709551616) (h4 : pl < 256) : (rHd n f ep pl).fit :=
  ⟨by simp [rHd], by simp [rHd], by simp [rHd], by simp [rHd], by simp [rHd], by simp [rHd], h1, h2, h3, h4⟩
theorem lastS_fit {l : List (Nat × Nat)} (h : sgFit l) : (lastS l).1 < 18446744073709551616 ∧ (lastS l).2 < 18446744073709551616 := by
  unfold lastS
  rcases List.eq_nil_or_concat l with rfl | ⟨a, s, rfl⟩
  · exact ⟨by decide, by decide⟩
  · rw [List.concat_eq_append, List.getLastD_concat]
    exact h s (by simp)
theorem hdM_fit {m : Mf} (h : m.fit) : (hdM m).fit := by
  have := lastS_fit h.sg
  exact hd_fit this.1 this.2 h.ep h.pl
theorem dropS_fit : ∀ {l : List (Nat × Nat)} (b : Nat), sgFit l → sgFit (dropS b l)
  | [], _, h => h
  | [s], _, h => h
  | s :: t :: l, b, h => by
    unfold dropS
    split
    · exact dropS_fit b fun p hp => h p (List.mem_cons_of_mem _ hp)
    · exact h
end Go.Proofs.YtgeaacabpnepmaaGreatDoor
