/- Texts of the walk. -/
import Derived.Test.YtgeaacabpnepmaaGreatDoorAa8
import Derived.Test.YtgeaacabpnepmaaGreatDoorAd8
import Derived.Test.YtgeaacabpnepmaaGreatDoorAf8
import Derived.Test.YtgeaacabpnepmaaGreatDoorPz8
import Derived.Test.YtgeaacabpnepmaaGreatDoorCz8
/- Manifests: which of them may be, their bytes, and how bytes are read: the plain mathematics of layer 17. Nothing of the program. -/
namespace Go.Proofs.YtgeaacabpnepmaaGreatDoor
open Go.RowKit
set_option linter.unusedVariables false
set_option linter.unusedSimpArgs false

structure Mf where
  ep : Nat
  pl : Nat
  sg : List (Nat × Nat)
  ck : List Nat
def mz : Mf := ⟨0, 0, [], []⟩
def sgFit (l : List (Nat × Nat)) : Prop := ∀ p ∈ l, p.1 < 18446744073709551616 ∧ p.2 < 18446744073709551616
def ckFit (l : List Nat) : Prop := ∀ c ∈ l, c < 18446744073709551616
structure Mf.fit (m : Mf) : Prop where
  ep : m.ep < 18446744073709551616
  pl : m.pl < 256
  sg : sgFit m.sg
  ck : ckFit m.ck
theorem mz_fit : mz.fit := ⟨by decide, by decide, (fun p h => by cases h), (fun c h => by cases h)⟩
def sgOk : Nat → Nat → List (Nat × Nat) → Bool
  | _, _, [] => true
  | a, b, p :: l => decide (a < p.1) && (decide (b ≤ p.2) && sgOk p.1 p.2 l)
def ckOk : List Nat → Bool
  | a :: b :: l => decide (b < a) && ckOk (b :: l)
  | _ => true
def segsB (l : List (Nat × Nat)) : Bool := decide (0 < l.length) && (decide (l.length ≤ 12) && sgOk 0 0 l)
def cksB (l : List Nat) : Bool := decide (l.length ≤ 2) && ckOk l
def Mf.ok (m : Mf) : Bool := decide (0 < m.ep) && (decide (m.pl ≤ 1) && (segsB m.sg && cksB m.ck))
theorem Mf.ok_iff {m : Mf} : m.ok = true ↔ 0 < m.ep ∧ m.pl ≤ 1 ∧ segsB m.sg = true ∧ cksB m.ck = true := by simp [Mf.ok]
theorem segsB_iff {l : List (Nat × Nat)} : segsB l = true ↔ 0 < l.length ∧ l.length ≤ 12 ∧ sgOk 0 0 l = true := by simp [segsB]
theorem cksB_iff {l : List Nat} : cksB l = true ↔ l.length ≤ 2 ∧ ckOk l = true := by simp [cksB]
theorem Mf.ok_len {m : Mf} (h : m.ok = true) : m.sg.length ≤ 12 ∧ m.ck.length ≤ 2 := by
  obtain ⟨_, _, h1, h2⟩ := Mf.ok_iff.1 h
  exact ⟨(segsB_iff.1 h1).2.1, (cksB_iff.1 h2).1⟩

def sgb (l : List (Nat × Nat)) : List UInt8 := (l.map fun p => le 8 p.1 ++ le 8 p.2).flatten
def ckb (l : List Nat) : List UInt8 := (l.map (le 8)).flatten
def pay (m : Mf) : List UInt8 := le 8 m.ep ++ le 1 m.pl ++ le 1 m.sg.length ++ sgb m.sg ++ le 1 m.ck.length ++ ckb m.ck
theorem sgb_len (l : List (Nat × Nat)) : (sgb l).length = 16 * l.length := by
  induction l with
  | nil => rfl
  | cons p l ih =>
    have e : sgb (p :: l) = le 8 p.1 ++ le 8 p.2 ++ sgb l := rfl
    rw [e]; simp [le_length, ih]; omega
theorem ckb_len (l : List Nat) : (ckb l).length = 8 * l.length := by
  induction l with
  | nil => rfl
  | cons p l ih =>
    have e : ckb (p :: l) = le 8 p ++ ckb l := rfl
    rw [e]; simp [le_length, ih]; omega
theorem sgb_snoc (a : List (Nat × Nat)) (p : Nat × Nat) : sgb (a ++ [p]) = sgb a ++ le 8 p.1 ++ le 8 p.2 := by simp [sgb]
theorem ckb_snoc (a : List Nat) (c : Nat) : ckb (a ++ [c]) = ckb a ++ le 8 c := by simp [ckb]
theorem pay_len (m : Mf) : (pay m).length = 11 + 16 * m.sg.length + 8 * m.ck.length := by
  unfold pay; simp [le_length, sgb_len, ckb_len]; omega
theorem pay_short {m : Mf} (h : m.ok = true) : (pay m).length ≤ 219 := by
  have := Mf.ok_len h
  rw [pay_len]; omega
def enc (m : Mf) : List UInt8 := frm (pay m)
theorem enc_len {m : Mf} (h : m.ok = true) : (enc m).length ≤ 225 := by
  have := pay_short h
  unfold enc; rw [frm_len]; omega
def ptS (m : Mf) : List UInt8 := if m.ok then enc m else []
def ptE (m : Mf) : Nat := if m.ok then 0 else 4
theorem pt_yes {m : Mf} (h : m.ok = true) : ptS m = enc m ∧ ptE m = 0 := ⟨if_pos h, if_pos h⟩
theorem pt_no {m : Mf} (h : m.ok = false) : ptS m = [] ∧ ptE m = 4 := ⟨if_neg (by rw [h]; decide), if_neg (by rw [h]; decide)⟩
/-! Reading. -/
def rd2 (l : List UInt8) : Got (Nat × Nat) := ⟨fin (num 8 l).err (num 8 (num 8 l).rest).err, ((num 8 l).val, (num 8 (num 8 l).rest).val), (num 8 (num 8 l).rest).rest⟩
def rdS (n : Nat) (l : List UInt8) : Got (List (Nat × Nat)) := many (fun _ => rd2) n 0 l
def rdC (n : Nat) (l : List UInt8) : Got (List Nat) := many (fun _ => num 8) n 0 l
def rdM (l : List UInt8) : Got Mf :=
  let a := num 8 l
  let b := num 1 a.rest
  let c := num 1 b.rest
  let s := rdS c.val c.rest
  let d := num 1 s.rest
  let k := rdC d.val d.rest
  ⟨fin (fin (fin (fin (fin a.err b.err) c.err) s.err) d.err) k.err, ⟨a.val, b.val, s.val, k.val⟩, k.rest⟩
theorem p8 : (256 : Nat) ^ 8 = 18446744073709551616 := by decide
theorem rd2_good : Good rd2 (fun p => le 8 p.1 ++ le 8 p.2) (fun p => p.1 < 18446744073709551616 ∧ p.2 < 18446744073709551616) := by
  have h := good_seq (P := num 8) (Q := fun _ => num 8) (e := le 8) (f := fun _ => le 8) (ok := fun n => n < 256 ^ 8) (oq := fun _ n => n < 256 ^ 8) (num_good 8) (fun _ => num_good 8)
  rw [p8] at h
  exact h
theorem enM_sg : ∀ (l : List (Nat × Nat)) (i : Nat), enM (fun _ p => le 8 p.1 ++ le 8 p.2) i l = sgb l
  | [], _ => rfl
  | p :: l, i => by
    show _ ++ enM _ (i + 1) l = _
    rw [enM_sg l (i + 1)]; rfl
theorem enM_ck : ∀ (l : List Nat) (i : Nat), enM (fun _ => le 8) i l = ckb l
  | [], _ => rfl
  | p :: l, i => by
    show _ ++ enM _ (i + 1) l = _
    rw [enM_ck l (i + 1)]; rfl
theorem okM_all {α : Type} {ok : α → Prop} : ∀ (m i : Nat) (l : List α), okM (fun _ => ok) m i l ↔ l.length = m ∧ ∀ x ∈ l, ok x
  | 0, i, l => by
    simp only [okM]
    constructor
    · rintro rfl; exact ⟨rfl, fun x h => by cases h⟩
    · rintro ⟨h, _⟩; exact List.eq_nil_of_length_eq_zero h
  | m + 1, i, l => by
    simp only [okM, okM_all m (i + 1)]
    constructor
    · rintro ⟨x, r, rfl, hx, hl, hr⟩
      refine ⟨by simp [hl], fun y hy => ?_⟩
      rcases List.mem_cons.1 hy with rfl | hy
      · exact hx
      · exact hr y hy
    · rintro ⟨hl, hx⟩
      match l, hl with
      | x :: r, hl => exact ⟨x, r, rfl, hx x (by simp), by simpa using hl, fun y hy => hx y (by simp [hy])⟩
theorem rdS_good (n : Nat) : Good (rdS n) sgb (fun l => l.length = n ∧ sgFit l) := by
  have h := good_many (P := fun _ => rd2) (e := fun _ p => le 8 p.1 ++ le 8 p.2) (ok := fun _ p => p.1 < 18446744073709551616 ∧ p.2 < 18446744073709551616) (fun _ => rd2_good) n 0
  have e1 : (enM (fun _ (p : Nat × Nat) => le 8 p.1 ++ le 8 p.2) 0) = sgb := funext fun l => enM_sg l 0
  have e2 : okM (fun _ (p : Nat × Nat) => p.1 < 18446744073709551616 ∧ p.2 < 18446744073709551616) n 0 = fun l => l.length = n ∧ sgFit l := funext fun l => propext (okM_all n 0 l)
  rw [e1, e2] at h
  exact h
theorem rdC_good (n : Nat) : Good (rdC n) ckb (fun l => l.length = n ∧ ckFit l) := by
  have h := good_many (P := fun _ => num 8) (e := fun _ => le 8) (ok := fun _ n => n < 256 ^ 8) (fun _ => num_good 8) n 0
  have e1 : (enM (fun _ => le 8) 0) = ckb := funext fun l => enM_ck l 0
  have e2 : okM (fun _ (n : Nat) => n < 256 ^ 8) n 0 = fun l => l.length = n ∧ ckFit l := funext fun l => propext (by rw [p8]; exact okM_all n 0 l)
  rw [e1, e2] at h
  exact h
theorem rdM_pay {m : Mf} (hf : m.fit) (h1 : m.sg.length < 256) (h2 : m.ck.length < 256) (more : List UInt8) : rdM (pay m ++ more) = ⟨0, m, more⟩ := by
  have s8 : ∀ n more, n < 18446744073709551616 → num 8 (le 8 n ++ more) = ⟨0, n, more⟩ := fun n more hn => num_le 8 n more (by rw [p8]; exact hn)
  have s1 : ∀ n more, n < 256 → num 1 (le 1 n ++ more) = ⟨0, n, more⟩ := fun n more hn => num_le 1 n more (by rw [Nat.pow_one]; exact hn)
  have sS := fun more => (rdS_good m.sg.length).yes m.sg more ⟨rfl, hf.sg⟩
  have sC := fun more => (rdC_good m.ck.length).yes m.ck more ⟨rfl, hf.ck⟩
  unfold rdM pay
  simp only [List.append_assoc, s8 _ _ hf.ep, s1 _ _ hf.pl, s1 _ _ h1, s1 _ _ h2, sS, sC]
  rfl
theorem rdM_one {l : List UInt8} (h : (rdM l).err = 0) : l = pay (rdM l).val ++ (rdM l).rest ∧ (rdM l).val.sg.length < 256 ∧ (rdM l).val.ck.length < 256 := by
  unfold rdM at h ⊢
  dsimp only at h ⊢
  obtain ⟨h, e6⟩ := fin_eq_zero h
  obtain ⟨h, e5⟩ := fin_eq_zero h
  obtain ⟨h, e4⟩ := fin_eq_zero h
  obtain ⟨h, e3⟩ := fin_eq_zero h
  obtain ⟨e1, e2⟩ := fin_eq_zero h
  have a1 := ((num_good 8).one _ e1).1
  have a2 := ((num_good 1).one _ e2).1
  have a3 := (num_good 1).one _ e3
  have a4 := (rdS_good _).one _ e4
  have a5 := (num_good 1).one _ e5
  have a6 := (rdC_good _).one _ e6
  have l3 := a3.2
  have l5 := a5.2
  rw [Nat.pow_one] at l3 l5
  refine ⟨?_, by rw [a4.2.1]; exact l3, by rw [a6.2.1]; exact l5⟩
  unfold pay
  simp only [List.append_assoc]
  rw [a4.2.1, a6.2.1, ← a6.1, ← a5.1, ← a4.1, ← a3.1, ← a2, ← a1]
theorem num_val' (k : Nat) (l : List UInt8) : (num k l).val < 256 ^ k := by
  unfold num
  split
  · have h := un_lt (l.take k)
    rwa [show (l.take k).length = k by simp; omega] at h
  · exact Nat.pow_pos (by omega)
theorem n8_lt (l : List UInt8) : (num 8 l).val < 18446744073709551616 := by have := num_val' 8 l; rwa [p8] at this
theorem n1_lt (l : List UInt8) : (num 1 l).val < 256 := by have := num_val' 1 l; rwa [Nat.pow_one] at this
theorem rdS_fit : ∀ (n : Nat) (l : List UInt8), sgFit (rdS n l).val := by
  have key : ∀ (n i : Nat) (l : List UInt8), sgFit (many (fun _ => rd2) n i l).val := by
    intro n
    induction n with
    | zero => intro i l p h; cases h
    | succ n ih =>
      intro i l p h
      rcases List.mem_cons.1 (show p ∈ (rd2 l).val :: (many (fun _ => rd2) n (i + 1) (rd2 l).rest).val from h) with rfl | h
      · exact ⟨n8_lt _, n8_lt _⟩
      · exact ih _ _ p h
  exact fun n l => key n 0 l
theorem rdC_fit : ∀ (n : Nat) (l : List UInt8), ckFit (rdC n l).val := by
  have key : ∀ (n i : Nat) (l : List UInt8), ckFit (many (fun _ => num 8) n i l).val := by
    intro n
    induction n with
    | zero => intro i l p h; cases h
    | succ n ih =>
      intro i l p h
      rcases List.mem_cons.1 (show p ∈ (num 8 l).val :: (many (fun _ => num 8) n (i + 1) (num 8 l).rest).val from h) with rfl | h
      · exact n8_lt _
      · exact ih _ _ p h
  exact fun n l => key n 0 l
theorem rdM_fit (l : List UInt8) : (rdM l).val.fit := ⟨n8_lt _, n1_lt _, rdS_fit _ _, rdC_fit _ _⟩
theorem rdM_lens (l : List UInt8) : (rdM l).val.sg.length < 256 ∧ (rdM l).val.ck.length < 256 := by
  constructor
  · show (many _ _ _ _).val.length < 256
    rw [many_len]; exact n1_lt _
  · show (many _ _ _ _).val.length < 256
    rw [many_len]; exact n1_lt _

def tkYes (s : List UInt8) : Bool := decide (fu' s = s.length) && (decide ((rdM (fp s)).err = 0) && (decide ((rdM (fp s)).rest = []) && (rdM (fp s)).val.ok))
where fu' (s : List UInt8) : Nat := if fe s = 0 then 6 + (fp s).length else 0
def tkE (s : List UInt8) : Int := if fe s = 0 then (if tkYes s then 0 else 4) else fe s
def tkM (s : List UInt8) : Mf := if fe s = 0 then (if tkYes s then (rdM (fp s)).val else mz) else mz
theorem tkM_fit (s : List UInt8) : (tkM s).fit := by
  unfold tkM
  (repeat' split) <;> first | exact rdM_fit _ | exact mz_fit
theorem tkYes_iff {s : List UInt8} (h : fe s = 0) : tkYes s = true ↔ 6 + (fp s).length = s.length ∧ (rdM (fp s)).err = 0 ∧ (rdM (fp s)).rest = [] ∧ (rdM (fp s)).val.ok = true := by
  simp [tkYes, tkYes.fu', h]
theorem tk_one {s : List UInt8} (h : tkE s = 0) : (tkM s).ok = true ∧ enc (tkM s) = s := by
  unfold tkE at h; unfold tkM
  by_cases h1 : fe s = 0
  · rw [if_pos h1] at h ⊢
    by_cases h2 : tkYes s = true
    · rw [if_pos h2]
      obtain ⟨a1, a2, a3, a4⟩ := (tkYes_iff h1).1 h2
      refine ⟨a4, ?_⟩
      have b1 := (rdM_one a2).1
      rw [a3, List.append_nil] at b1
      have b2 := frm_back h1
      rw [List.drop_of_length_le (by omega), List.append_nil] at b2
      unfold enc
      rw [← b1]; exact b2.symm
    · rw [if_neg h2] at h; exact absurd h (by decide)
  · rw [if_neg h1] at h; exact absurd h h1
theorem tk_enc {m : Mf} (hf : m.fit) (h : m.ok = true) : tkE (enc m) = 0 ∧ tkM (enc m) = m := by
  have hl := Mf.ok_len h
  obtain ⟨a1, a2⟩ := frm_ok (pay m) [] (by have := pay_short h; omega)
  rw [List.append_nil] at a1 a2
  replace a1 : fe (enc m) = 0 := a1
  replace a2 : fp (enc m) = pay m := a2
  have b := rdM_pay hf (by omega) (by omega) []
  rw [List.append_nil] at b
  have hy : tkYes (enc m) = true := (tkYes_iff a1).2 ⟨by rw [a2]; exact (frm_len _).symm, by rw [a2, b], by rw [a2, b], by rw [a2, b]; exact h⟩
  unfold tkE tkM
  rw [if_pos a1, if_pos a1, if_pos hy, if_pos hy, a2, b]
  exact ⟨rfl, rfl⟩
theorem enc_inj {a b : Mf} (ha : a.fit) (hb : b.fit) (oa : a.ok = true) (ob : b.ok = true) (h : enc a = enc b) : a = b := by
  rw [← (tk_enc ha oa).2, h, (tk_enc hb ob).2]

/-! The document's way: by places. -/
end Go.Proofs.YtgeaacabpnepmaaGreatDoor
/- A swap in plain words: its five steps over a power; what a disk holds behind it, wherever the power goes off. Nothing of the program. -/
namespace Go.Proofs.YtgeaacabpnepmaaGreatDoor
open Go.RowKit
set_option linter.unusedVariables false
set_option linter.unusedSimpArgs false
set_option maxRecDepth 20000

def nM : List UInt8 := [109, 97, 110, 105, 102, 101, 115, 116]
def nN : List UInt8 := [109, 97, 110, 105, 102, 101, 115, 116, 46, 110, 101, 119]
def stP (q : Nat) (t : List UInt8) (p : Pw) : Nat → Pw
  | 0 => if nN ∈ p.names then p.wr 4 q nN [] else p
  | 1 => p.wr 0 q nN []
  | 2 => p.wr 1 q nN t
  | 3 => p.wr 2 q nN []
  | _ => p.wr 3 q nN nM
def stC (q : Nat) (t : List UInt8) (p : Pw) : Nat → Nat
  | 0 => if nN ∈ p.names then p.wrc 4 q nN [] else 0
  | 1 => p.wrc 0 q nN []
  | 2 => p.wrc 1 q nN t
  | 3 => p.wrc 2 q nN []
  | _ => p.wrc 3 q nN nM
def swR (q : Nat) (t : List UInt8) : Nat → Nat → Pw → Nat × Pw
  | 0, _, p => (0, p)
  | f + 1, j, p => if stC q t p j = 0 then swR q t f (j + 1) (stP q t p j) else (stC q t p j, stP q t p j)
theorem swa_n (p : Pw) (E : List Ent) : (p.after E).n ≤ p.n + 1 := by
  unfold Pw.after
  split
  · omega
  · split <;> simp
theorem swa_ks (p : Pw) (E : List Ent) : (p.after E).ks = p.ks := by
  unfold Pw.after
  split
  · rfl
  · split <;> rfl
theorem stP_n (q : Nat) (t : List UInt8) (p : Pw) (j : Nat) : (stP q t p j).n ≤ p.n + 1 := by
  unfold stP
  (repeat' split) <;> first | exact swa_n _ _ | exact Nat.le_succ _
theorem stP_ks (q : Nat) (t : List UInt8) (p : Pw) (j : Nat) : (stP q t p j).ks = p.ks := by
  unfold stP
  (repeat' split) <;> first | exact swa_ks _ _ | rfl
theorem swR_ks (q : Nat) (t : List UInt8) : ∀ (f j : Nat) (p : Pw), (swR q t f j p).2.ks = p.ks
  | 0, _, _ => rfl
  | f + 1, j, p => by
    unfold swR
    split
    · rw [swR_ks q t f, stP_ks]
    · exact stP_ks _ _ _ _
theorem swR_n (q : Nat) (t : List UInt8) : ∀ (f j : Nat) (p : Pw), (swR q t f j p).2.n ≤ p.n + f
  | 0, _, _ => Nat.le_refl _
  | f + 1, j, p => by
    have h := stP_n q t p j
    unfold swR
    split
    · have := swR_n q t f (j + 1) (stP q t p j); omega
    · show (stP q t p j).n ≤ _; omega
def swE (q : Nat) (m : Mf) (p : Pw) : Nat := if m.ok then (swR q (enc m) 5 0 p).1 else 4
def swP (q : Nat) (m : Mf) (p : Pw) : Pw := if m.ok then (swR q (enc m) 5 0 p).2 else p
theorem sw_no {q : Nat} {m : Mf} {p : Pw} (h : m.ok = false) : swE q m p = 4 ∧ swP q m p = p := ⟨if_neg (by rw [h]; decide), if_neg (by rw [h]; decide)⟩
theorem sw_yes {q : Nat} {m : Mf} {p : Pw} (h : m.ok = true) : swE q m p = (swR q (enc m) 5 0 p).1 ∧ swP q m p = (swR q (enc m) 5 0 p).2 := ⟨if_pos h, if_pos h⟩
theorem swP_ks (q : Nat) (m : Mf) (p : Pw) : (swP q m p).ks = p.ks := by
  unfold swP; split
  · exact swR_ks _ _ _ _ _
  · rfl
theorem swP_n (q : Nat) (m : Mf) (p : Pw) : (swP q m p).n ≤ p.n + 5 := by
  unfold swP; split
  · exact swR_n _ _ _ _ _
  · omega
def ldC (p : Pw) : Int := if p.rdc nM = 0 then tkE (p.rd nM) else (p.rdc nM : Nat)
def ldM (p : Pw) : Mf := if p.rdc nM = 0 then tkM (p.rd nM) else mz

/-! A disk with these two files at most. -/
theorem nmM : isNm nM = true := by decide
theorem nmN : isNm nN = true := by decide
theorem tear_full (k : Int) (n c : List UInt8) : tearE k ⟨n, c, c.length⟩ = ⟨n, c, c.length⟩ := by
  have h : kept k (c.length - c.length + 1) = 0 := by simp [kept, Int.emod_one]
  unfold tearE
  simp only [h, Nat.add_zero, List.take_length]
end Go.Proofs.YtgeaacabpnepmaaGreatDoor
/- A journal in plain words: what segments say, what an opening does, what each call makes of it, over a power. Nothing of the program. -/
namespace Go.Proofs.YtgeaacabpnepmaaGreatDoor
open Go.RowKit
set_option linter.unusedVariables false
set_option linter.unusedSimpArgs false
set_option maxRecDepth 20000

def inc (n : Nat) : Nat := (n + 1) % 18446744073709551616
def ckn (f : Nat) : List UInt8 := 99 :: hex f
def jfs (m : Mf) : List (List UInt8) := nM :: (m.sg.map fun s => sgn s.1) ++ m.ck.map ckn
def clr (q : Nat) (ks : List (List UInt8)) : List (List UInt8) → Pw → Nat × Pw
  | [], p => (0, p)
  | n :: l, p => if n ∈ ks then clr q ks l p else if p.wrc 4 q n [] = 0 then clr q ks l (p.wr 4 q n []) else (p.wrc 4 q n [], p.wr 4 q n [])
structure Cn where
  fr : Nat
  c : Nat
  ah : List Nat
  ps : List (Nat × Nat)
def cn0 : Cn := ⟨0, 0, [], []⟩
def cnOne (x : Cn) (r : Rc) : Cn := if r.k = 1 then ⟨x.fr, x.c, x.ah ++ [r.o], x.ps⟩ else ⟨x.fr, x.c + 1, x.ah.tail, x.ps ++ [(r.p, r.q)]⟩
def cnAdd (x : Cn) (l : List Rc) : Cn := l.foldl cnOne ⟨x.fr, x.c, [], x.ps⟩
def segS (p : Pw) (n : Nat) : Sg := (scn n sg0 0 (p.rd (sgn n))).x
def cnAt (first : Bool) (x : Cn) (i : Nat) : Cn := if first then ⟨i, i, x.ah, x.ps⟩ else x
def cnYes (b : Bool) (h : Rc) (x : Cn) : Bool := b && (decide (h.k = 3) && decide (h.i = x.c))
def cnRd (p : Pw) : Bool → Cn → Bool → List (Nat × Nat) → Nat × Cn
  | _, x, _, [] => (0, x)
  | first, x, b, s :: l =>
    if p.rdc (sgn s.1) = 0 then
      cnRd p false (if cnYes b (segS p s.1).h (cnAt first x (segS p s.1).h.i) then cnAdd (cnAt first x (segS p s.1).h.i) (segS p s.1).l else cnAt first x (segS p s.1).h.i) (cnYes b (segS p s.1).h (cnAt first x (segS p s.1).h.i)) l
    else (p.rdc (sgn s.1), cn0)
def cnOut (ck : List Nat) (x : Cn) : Cn :=
  if ck.length < 2 ∨ x.c < 12 then x else if x.fr < min (ck.getD 1 0) (x.c - 12) then ⟨min (ck.getD 1 0) (x.c - 12), x.c, x.ah, x.ps.drop (min (ck.getD 1 0) (x.c - 12) - x.fr)⟩ else x
def sid (pl : Nat) (q : Nat × Nat) : Nat := if pl = 0 then q.1 else q.2
def pRecs (pl : Nat) : Nat → List (Nat × Nat) → List Rc
  | _, [] => []
  | f, q :: l => rO f (sid pl q) :: rS f q.1 q.2 :: pRecs pl (f + 1) l
def oRecs : Nat → List Nat → List Rc
  | _, [] => []
  | f, i :: l => rO f i :: oRecs (f + 1) l
def cnRecs (pl : Nat) (x : Cn) : List Rc := pRecs pl x.fr x.ps ++ oRecs x.c x.ah
def jlE (p : Pw) (pl : Nat) : Int := if ldC p = 5 then 0 else if ldC p = 0 then (if (ldM p).pl = pl then (if (ldM p).ep = 18446744073709551615 then 7 else 0) else 14) else ldC p
def jlM (p : Pw) (pl : Nat) : Mf := if ldC p = 0 ∧ (ldM p).pl = pl ∧ (ldM p).ep ≠ 18446744073709551615 then ldM p else mz
def lastS (l : List (Nat × Nat)) : Nat × Nat := l.getLastD (0, 0)
def rHd (n f ep pl : Nat) : Rc := ⟨3, 0, 0, 0, 0, n, f, ep, pl⟩
def hdM (m : Mf) : Rc := rHd (lastS m.sg).1 (lastS m.sg).2 m.ep m.pl
def jsE (q : Nat) (p : Pw) (m : Mf) : Int := if swE q m p = 0 then (((clr q (jfs m) (swP q m p).names (swP q m p)).1 : Nat) : Int) else (swE q m p : Nat)
def jsP (q : Nat) (p : Pw) (m : Mf) : Pw := if swE q m p = 0 then (clr q (jfs m) (swP q m p).names (swP q m p)).2 else swP q m p
structure Fd where
  e : Int
  p : Pw
  m : Mf
  x : Cn
def fdR (q pl : Nat) (p : Pw) : Fd :=
  if jlE p pl = 0 then
    if (clr q (jfs (jlM p pl)) p.names p).1 = 0 then
      if (cnRd (clr q (jfs (jlM p pl)) p.names p).2 true cn0 true (jlM p pl).sg).1 = 0 then ⟨0, (clr q (jfs (jlM p pl)) p.names p).2, jlM p pl, (cnRd (clr q (jfs (jlM p pl)) p.names p).2 true cn0 true (jlM p pl).sg).2⟩
      else ⟨((cnRd (clr q (jfs (jlM p pl)) p.names p).2 true cn0 true (jlM p pl).sg).1 : Nat), (clr q (jfs (jlM p pl)) p.names p).2, jlM p pl, cn0⟩
    else ⟨((clr q (jfs (jlM p pl)) p.names p).1 : Nat), (clr q (jfs (jlM p pl)) p.names p).2, mz, cn0⟩
  else ⟨jlE p pl, p, mz, cn0⟩
def opM (pl : Nat) (m : Mf) (x : Cn) : Mf := ⟨inc m.ep, pl, [(inc (lastS m.sg).1, x.fr)], m.ck⟩
structure Op where
  e : Int
  p : Pw
  m : Mf
  x : Cn
  f : Bool
def opB (q pl : Nat) (p : Pw) (m : Mf) (x : Cn) (l : List Rc) (f : Bool) : Op :=
  if SBE p q (hdM m) l = 0 then (if jsE q (SBP p q (hdM m) l) m = 0 then ⟨0, jsP q (SBP p q (hdM m) l) m, m, x, f⟩ else ⟨jsE q (SBP p q (hdM m) l) m, jsP q (SBP p q (hdM m) l) m, mz, cn0, false⟩)
  else ⟨SBE p q (hdM m) l, SBP p q (hdM m) l, mz, cn0, false⟩
def opR (q pl : Nat) (rows : Int) (p : Pw) : Op :=
  if pl ≤ 1 ∧ 4 ≤ rows ∧ rows ≤ 32 then
    if (fdR q pl p).e = 0 then
      opB q pl (fdR q pl p).p (opM pl (fdR q pl p).m (cnOut (fdR q pl p).m.ck (fdR q pl p).x)) (cnOut (fdR q pl p).m.ck (fdR q pl p).x) (cnRecs pl (cnOut (fdR q pl p).m.ck (fdR q pl p).x)) (decide ((fdR q pl p).m.ep = 0))
    else ⟨(fdR q pl p).e, (fdR q pl p).p, mz, cn0, false⟩
  else ⟨2, p, mz, cn0, false⟩
structure Jn where
  rows : Nat
  c : Nat
  ah : List Nat
  sy : Nat
  os : Nat
  m : Mf
  ap : Nat
  br : Bool
def Jn.ow (j : Jn) : Nat := j.c + j.ah.length
def Jn.hold (j : Jn) (e : Int) : Jn := { j with br := decide (e ≠ 0) }
def opJ (rows : Nat) (o : Op) : Jn := ⟨rows, o.x.c, o.x.ah, o.x.c, o.x.c + o.x.ah.length, o.m, 0, false⟩
def wrE' (q : Nat) (p : Pw) (j : Jn) (r : Rc) : Int := SAE p q (lastS j.m.sg).1 r
def wrP (q : Nat) (p : Pw) (j : Jn) (r : Rc) : Pw := SAP p q (lastS j.m.sg).1 r
def Jn.wrote (j : Jn) (e : Int) : Jn := { j with br := decide (e ≠ 0), ap := if e = 0 then j.ap + 1 else j.ap }
structure Ans where
  e : Int
  p : Pw
  j : Jn
def jOwn (q : Nat) (p : Pw) (j : Jn) (f i : Nat) : Ans :=
  if j.br = true then ⟨13, p, j⟩
  else if 64 ≤ i then ⟨2, p, j⟩
  else if f ≠ j.ow ∨ f = 18446744073709551615 then ⟨11, p, j⟩
  else if 12 ≤ j.ah.length then ⟨7, p, j⟩
  else if wrE' q p j (rO f i) = 0 then ⟨0, wrP q p j (rO f i), { j.wrote 0 with ah := j.ah ++ [i] }⟩
  else ⟨wrE' q p j (rO f i), wrP q p j (rO f i), j.wrote (wrE' q p j (rO f i))⟩
def jSure (q : Nat) (p : Pw) (j : Jn) (f a b : Nat) : Ans :=
  if j.br = true then ⟨13, p, j⟩
  else if 64 ≤ a ∨ 64 ≤ b then ⟨2, p, j⟩
  else if f ≠ j.c ∨ j.ah = [] then ⟨11, p, j⟩
  else if sid j.m.pl (a, b) ≠ j.ah.headD 0 then ⟨14, p, j⟩
  else if wrE' q p j (rS f a b) = 0 then ⟨0, wrP q p j (rS f a b), { j.wrote 0 with c := j.c + 1, ah := j.ah.tail }⟩
  else ⟨wrE' q p j (rS f a b), wrP q p j (rS f a b), j.wrote (wrE' q p j (rS f a b))⟩
def jSync (q : Nat) (p : Pw) (j : Jn) : Ans :=
  if j.br = true then ⟨13, p, j⟩
  else if p.wrc 2 q (sgn (lastS j.m.sg).1) [] = 0 then ⟨0, p.wr 2 q (sgn (lastS j.m.sg).1) [], { j.hold 0 with sy := j.c, os := j.ow }⟩
  else ⟨(p.wrc 2 q (sgn (lastS j.m.sg).1) [] : Nat), p.wr 2 q (sgn (lastS j.m.sg).1) [], j.hold (p.wrc 2 q (sgn (lastS j.m.sg).1) [] : Nat)⟩
def dropS (b : Nat) : List (Nat × Nat) → List (Nat × Nat)
  | s :: t :: l => if t.2 ≤ b then dropS b (t :: l) else s :: t :: l
  | l => l
def kpM (j : Jn) (b : Nat) (ck : List Nat) : Mf := ⟨j.m.ep, j.m.pl, dropS b j.m.sg, ck⟩
def jKeep (q : Nat) (p : Pw) (j : Jn) (b : Nat) (ck : List Nat) : Ans :=
  if j.br = true then ⟨13, p, j⟩
  else if (⟨j.m.ep, j.m.pl, j.m.sg, ck⟩ : Mf).ok = false then ⟨4, p, j⟩
  else if swE q (kpM j b ck) p = 0 then ⟨jsE q p (kpM j b ck), jsP q p (kpM j b ck), { j.hold (jsE q p (kpM j b ck)) with m := kpM j b ck }⟩
  else ⟨jsE q p (kpM j b ck), jsP q p (kpM j b ck), j.hold (jsE q p (kpM j b ck))⟩
def jMan (j : Jn) : Mf := if j.br then mz else j.m
end Go.Proofs.YtgeaacabpnepmaaGreatDoor
