/- Manifests: which of them may be, their bytes, and how bytes are read: the plain mathematics of layer 17. Nothing of the program. -/
import Derived.Test.YtakejacamkdncaaGreatDoorAa
import Derived.Test.YtakejacamkdncaaGreatDoorAd
import Derived.Test.YtakejacamkdncaaGreatDoorAf
namespace Go.Proofs.YtakejacamkdncaaGreatDoor
open Go.RowKit
set_option linter.unusedVariables false
set_option linter.unusedSimpArgs false

structure Mf where
  ep : Nat
  pl : Nat
  sg : List (Nat × Nat)
  ck : List Nat
def mz : Mf := ⟨0, 0, [], []⟩
def sgFit (l : List (Nat × Nat)) : Prop := ∀ p ∈ l, p.1 < 18446744073709551616 ∧ p.2 < 18446744073709551616
def ckFit (l : List Nat) : Prop := ∀ c ∈ l, c < 18446744073709551616
structure Mf.fit (m : Mf) : Prop where
  ep : m.ep < 18446744073709551616
  pl : m.pl < 256
  sg : sgFit m.sg
  ck : ckFit m.ck
theorem mz_fit : mz.fit := ⟨by decide, by decide, (fun p h => by cases h), (fun c h => by cases h)⟩
/-- Segments behind one with these numbers. -/
def sgOk : Nat → Nat → List (Nat × Nat) → Bool
  | _, _, [] => true
  | a, b, p :: l => decide (a < p.1) && (decide (b ≤ p.2) && sgOk p.1 p.2 l)
def ckOk : List Nat → Bool
  | a :: b :: l => decide (b < a) && ckOk (b :: l)
  | _ => true
def segsB (l : List (Nat × Nat)) : Bool := decide (0 < l.length) && (decide (l.length ≤ 12) && sgOk 0 0 l)
def cksB (l : List Nat) : Bool := decide (l.length ≤ 2) && ckOk l
def Mf.ok (m : Mf) : Bool := decide (0 < m.ep) && (decide (m.pl ≤ 1) && (segsB m.sg && cksB m.ck))
theorem Mf.ok_iff {m : Mf} : m.ok = true ↔ 0 < m.ep ∧ m.pl ≤ 1 ∧ segsB m.sg = true ∧ cksB m.ck = true := by simp [Mf.ok]
theorem segsB_iff {l : List (Nat × Nat)} : segsB l = true ↔ 0 < l.length ∧ l.length ≤ 12 ∧ sgOk 0 0 l = true := by simp [segsB]
theorem cksB_iff {l : List Nat} : cksB l = true ↔ l.length ≤ 2 ∧ ckOk l = true := by simp [cksB]
theorem Mf.ok_len {m : Mf} (h : m.ok = true) : m.sg.length ≤ 12 ∧ m.ck.length ≤ 2 := by
  obtain ⟨_, _, h1, h2⟩ := Mf.ok_iff.1 h
  exact ⟨(segsB_iff.1 h1).2.1, (cksB_iff.1 h2).1⟩

def sgb (l : List (Nat × Nat)) : List UInt8 := (l.map fun p => le 8 p.1 ++ le 8 p.2).flatten
def ckb (l : List Nat) : List UInt8 := (l.map (le 8)).flatten
def pay (m : Mf) : List UInt8 := le 8 m.ep ++ le 1 m.pl ++ le 1 m.sg.length ++ sgb m.sg ++ le 1 m.ck.length ++ ckb m.ck
theorem sgb_len (l : List (Nat × Nat)) : (sgb l).length = 16 * l.length := by
  induction l with
  | nil => rfl
  | cons p l ih =>
    have e : sgb (p :: l) = le 8 p.1 ++ le 8 p.2 ++ sgb l := rfl
    rw [e]; simp [le_length, ih]; omega
theorem ckb_len (l : List Nat) : (ckb l).length = 8 * l.length := by
  induction l with
  | nil => rfl
  | cons p l ih =>
    have e : ckb (p :: l) = le 8 p ++ ckb l := rfl
    rw [e]; simp [le_length, ih]; omega
theorem sgb_app (a b : List (Nat × Nat)) : sgb (a ++ b) = sgb a ++ sgb b := by simp [sgb]
theorem ckb_app (a b : List Nat) : ckb (a ++ b) = ckb a ++ ckb b := by simp [ckb]
theorem sgb_snoc (a : List (Nat × Nat)) (p : Nat × Nat) : sgb (a ++ [p]) = sgb a ++ le 8 p.1 ++ le 8 p.2 := by simp [sgb]
theorem ckb_snoc (a : List Nat) (c : Nat) : ckb (a ++ [c]) = ckb a ++ le 8 c := by simp [ckb]
theorem pay_len (m : Mf) : (pay m).length = 11 + 16 * m.sg.length + 8 * m.ck.length := by
  unfold pay; simp [le_length, sgb_len, ckb_len]; omega
theorem pay_short {m : Mf} (h : m.ok = true) : (pay m).length ≤ 219 := by
  have := Mf.ok_len h
  rw [pay_len]; omega
/-- The text of a manifest. -/
def enc (m : Mf) : List UInt8 := frm (pay m)
theorem enc_len {m : Mf} (h : m.ok = true) : (enc m).length ≤ 225 := by
  have := pay_short h
  unfold enc; rw [frm_len]; omega
/-- What Put answers. -/
def ptS (m : Mf) : List UInt8 := if m.ok then enc m else []
def ptE (m : Mf) : Nat := if m.ok then 0 else 4
theorem pt_yes {m : Mf} (h : m.ok = true) : ptS m = enc m ∧ ptE m = 0 := ⟨if_pos h, if_pos h⟩
theorem pt_no {m : Mf} (h : m.ok = false) : ptS m = [] ∧ ptE m = 4 := ⟨if_neg (by rw [h]; decide), if_neg (by rw [h]; decide)⟩
theorem ptS_len (m : Mf) : (ptS m).length ≤ 225 := by
  by_cases h : m.ok = true
  · rw [(pt_yes h).1]; exact enc_len h
  · rw [(pt_no (by simpa using h)).1]; simp

/-! Reading. -/
def rd2 (l : List UInt8) : Got (Nat × Nat) := ⟨fin (num 8 l).err (num 8 (num 8 l).rest).err, ((num 8 l).val, (num 8 (num 8 l).rest).val), (num 8 (num 8 l).rest).rest⟩
def rdS (n : Nat) (l : List UInt8) : Got (List (Nat × Nat)) := many (fun _ => rd2) n 0 l
def rdC (n : Nat) (l : List UInt8) : Got (List Nat) := many (fun _ => num 8) n 0 l
def rdM (l : List UInt8) : Got Mf :=
  let a := num 8 l
  let b := num 1 a.rest
  let c := num 1 b.rest
  let s := rdS c.val c.rest
  let d := num 1 s.rest
  let k := rdC d.val d.rest
  ⟨fin (fin (fin (fin (fin a.err b.err) c.err) s.err) d.err) k.err, ⟨a.val, b.val, s.val, k.val⟩, k.rest⟩
theorem p8 : (256 : Nat) ^ 8 = 18446744073709551616 := by decide
theorem rd2_good : Good rd2 (fun p => le 8 p.1 ++ le 8 p.2) (fun p => p.1 < 18446744073709551616 ∧ p.2 < 18446744073709551616) := by
  have h := good_seq (P := num 8) (Q := fun _ => num 8) (e := le 8) (f := fun _ => le 8) (ok := fun n => n < 256 ^ 8) (oq := fun _ n => n < 256 ^ 8) (num_good 8) (fun _ => num_good 8)
  rw [p8] at h
  exact h
theorem enM_sg : ∀ (l : List (Nat × Nat)) (i : Nat), enM (fun _ p => le 8 p.1 ++ le 8 p.2) i l = sgb l
  | [], _ => rfl
  | p :: l, i => by
    show _ ++ enM _ (i + 1) l = _
    rw [enM_sg l (i + 1)]; rfl
theorem enM_ck : ∀ (l : List Nat) (i : Nat), enM (fun _ => le 8) i l = ckb l
  | [], _ => rfl
  | p :: l, i => by
    show _ ++ enM _ (i + 1) l = _
    rw [enM_ck l (i + 1)]; rfl
theorem okM_all {α : Type} {ok : α → Prop} : ∀ (m i : Nat) (l : List α), okM (fun _ => ok) m i l ↔ l.length = m ∧ ∀ x ∈ l, ok x
  | 0, i, l => by
    simp only [okM]
    constructor
    · rintro rfl; exact ⟨rfl, fun x h => by cases h⟩
    · rintro ⟨h, _⟩; exact List.eq_nil_of_length_eq_zero h
  | m + 1, i, l => by
    simp only [okM, okM_all m (i + 1)]
    constructor
    · rintro ⟨x, r, rfl, hx, hl, hr⟩
      refine ⟨by simp [hl], fun y hy => ?_⟩
      rcases List.mem_cons.1 hy with rfl | hy
      · exact hx
      · exact hr y hy
    · rintro ⟨hl, hx⟩
      match l, hl with
      | x :: r, hl => exact ⟨x, r, rfl, hx x (by simp), by simpa using hl, fun y hy => hx y (by simp [hy])⟩
theorem rdS_good (n : Nat) : Good (rdS n) sgb (fun l => l.length = n ∧ sgFit l) := by
  have h := good_many (P := fun _ => rd2) (e := fun _ p => le 8 p.1 ++ le 8 p.2) (ok := fun _ p => p.1 < 18446744073709551616 ∧ p.2 < 18446744073709551616) (fun _ => rd2_good) n 0
  have e1 : (enM (fun _ (p : Nat × Nat) => le 8 p.1 ++ le 8 p.2) 0) = sgb := funext fun l => enM_sg l 0
  have e2 : okM (fun _ (p : Nat × Nat) => p.1 < 18446744073709551616 ∧ p.2 < 18446744073709551616) n 0 = fun l => l.length = n ∧ sgFit l := funext fun l => propext (okM_all n 0 l)
  rw [e1, e2] at h
  exact h
theorem rdC_good (n : Nat) : Good (rdC n) ckb (fun l => l.length = n ∧ ckFit l) := by
  have h := good_many (P := fun _ => num 8) (e := fun _ => le 8) (ok := fun _ n => n < 256 ^ 8) (fun _ => num_good 8) n 0
  have e1 : (enM (fun _ => le 8) 0) = ckb := funext fun l => enM_ck l 0
  have e2 : okM (fun _ (n : Nat) => n < 256 ^ 8) n 0 = fun l => l.length = n ∧ ckFit l := funext fun l => propext (by rw [p8]; exact okM_all n 0 l)
  rw [e1, e2] at h
  exact h
theorem rdM_pay {m : Mf} (hf : m.fit) (h1 : m.sg.length < 256) (h2 : m.ck.length < 256) (more : List UInt8) : rdM (pay m ++ more) = ⟨0, m, more⟩ := by
  have s8 : ∀ n more, n < 18446744073709551616 → num 8 (le 8 n ++ more) = ⟨0, n, more⟩ := fun n more hn => num_le 8 n more (by rw [p8]; exact hn)
  have s1 : ∀ n more, n < 256 → num 1 (le 1 n ++ more) = ⟨0, n, more⟩ := fun n more hn => num_le 1 n more (by rw [Nat.pow_one]; exact hn)
  have sS := fun more => (rdS_good m.sg.length).yes m.sg more ⟨rfl, hf.sg⟩
  have sC := fun more => (rdC_good m.ck.length).yes m.ck more ⟨rfl, hf.ck⟩
  unfold rdM pay
  simp only [List.append_assoc, s8 _ _ hf.ep, s1 _ _ hf.pl, s1 _ _ h1, s1 _ _ h2, sS, sC]
  rfl
theorem rdM_one {l : List UInt8} (h : (rdM l).err = 0) : l = pay (rdM l).val ++ (rdM l).rest ∧ (rdM l).val.sg.length < 256 ∧ (rdM l).val.ck.length < 256 := by
  unfold rdM at h ⊢
  dsimp only at h ⊢
  obtain ⟨h, e6⟩ := fin_eq_zero h
  obtain ⟨h, e5⟩ := fin_eq_zero h
  obtain ⟨h, e4⟩ := fin_eq_zero h
  obtain ⟨h, e3⟩ := fin_eq_zero h
  obtain ⟨e1, e2⟩ := fin_eq_zero h
  have a1 := ((num_good 8).one _ e1).1
  have a2 := ((num_good 1).one _ e2).1
  have a3 := (num_good 1).one _ e3
  have a4 := (rdS_good _).one _ e4
  have a5 := (num_good 1).one _ e5
  have a6 := (rdC_good _).one _ e6
  have l3 := a3.2
  have l5 := a5.2
  rw [Nat.pow_one] at l3 l5
  refine ⟨?_, by rw [a4.2.1]; exact l3, by rw [a6.2.1]; exact l5⟩
  unfold pay
  simp only [List.append_assoc]
  rw [a4.2.1, a6.2.1, ← a6.1, ← a5.1, ← a4.1, ← a3.1, ← a2, ← a1]
theorem num_val' (k : Nat) (l : List UInt8) : (num k l).val < 256 ^ k := by
  unfold num
  split
  · have h := un_lt (l.take k)
    rwa [show (l.take k).length = k by simp; omega] at h
  · exact Nat.pow_pos (by omega)
theorem n8_lt (l : List UInt8) : (num 8 l).val < 18446744073709551616 := by have := num_val' 8 l; rwa [p8] at this
theorem n1_lt (l : List UInt8) : (num 1 l).val < 256 := by have := num_val' 1 l; rwa [Nat.pow_one] at this
theorem rdS_fit : ∀ (n : Nat) (l : List UInt8), sgFit (rdS n l).val := by
  have key : ∀ (n i : Nat) (l : List UInt8), sgFit (many (fun _ => rd2) n i l).val := by
    intro n
    induction n with
    | zero => intro i l p h; cases h
    | succ n ih =>
      intro i l p h
      rcases List.mem_cons.1 (show p ∈ (rd2 l).val :: (many (fun _ => rd2) n (i + 1) (rd2 l).rest).val from h) with rfl | h
      · exact ⟨n8_lt _, n8_lt _⟩
      · exact ih _ _ p h
  exact fun n l => key n 0 l
theorem rdC_fit : ∀ (n : Nat) (l : List UInt8), ckFit (rdC n l).val := by
  have key : ∀ (n i : Nat) (l : List UInt8), ckFit (many (fun _ => num 8) n i l).val := by
    intro n
    induction n with
    | zero => intro i l p h; cases h
    | succ n ih =>
      intro i l p h
      rcases List.mem_cons.1 (show p ∈ (num 8 l).val :: (many (fun _ => num 8) n (i + 1) (num 8 l).rest).val from h) with rfl | h
      · exact n8_lt _
      · exact ih _ _ p h
  exact fun n l => key n 0 l
theorem rdM_fit (l : List UInt8) : (rdM l).val.fit := ⟨n8_lt _, n1_lt _, rdS_fit _ _, rdC_fit _ _⟩
theorem rdM_lens (l : List UInt8) : (rdM l).val.sg.length < 256 ∧ (rdM l).val.ck.length < 256 := by
  constructor
  · show (many _ _ _ _).val.length < 256
    rw [many_len]; exact n1_lt _
  · show (many _ _ _ _).val.length < 256
    rw [many_len]; exact n1_lt _

/-- What Take tells. -/
def tkYes (s : List UInt8) : Bool := decide (fu' s = s.length) && (decide ((rdM (fp s)).err = 0) && (decide ((rdM (fp s)).rest = []) && (rdM (fp s)).val.ok))
where fu' (s : List UInt8) : Nat := if fe s = 0 then 6 + (fp s).length else 0
def tkE (s : List UInt8) : Int := if fe s = 0 then (if tkYes s then 0 else 4) else fe s
def tkM (s : List UInt8) : Mf := if fe s = 0 then (if tkYes s then (rdM (fp s)).val else mz) else mz
theorem tkM_fit (s : List UInt8) : (tkM s).fit := by
  unfold tkM
  (repeat' split) <;> first | exact rdM_fit _ | exact mz_fit
theorem tk_bad {s : List UInt8} (h : tkE s ≠ 0) : tkM s = mz := by
  unfold tkE at h; unfold tkM
  by_cases h1 : fe s = 0
  · rw [if_pos h1] at h ⊢
    by_cases h2 : tkYes s = true
    · rw [if_pos h2] at h; exact absurd rfl h
    · rw [if_neg h2]
  · rw [if_neg h1]
theorem tkYes_iff {s : List UInt8} (h : fe s = 0) : tkYes s = true ↔ 6 + (fp s).length = s.length ∧ (rdM (fp s)).err = 0 ∧ (rdM (fp s)).rest = [] ∧ (rdM (fp s)).val.ok = true := by
  simp [tkYes, tkYes.fu', h]
/-- What is taken may be, and has that text. -/
theorem tk_one {s : List UInt8} (h : tkE s = 0) : (tkM s).ok = true ∧ enc (tkM s) = s := by
  unfold tkE at h; unfold tkM
  by_cases h1 : fe s = 0
  · rw [if_pos h1] at h ⊢
    by_cases h2 : tkYes s = true
    · rw [if_pos h2]
      obtain ⟨a1, a2, a3, a4⟩ := (tkYes_iff h1).1 h2
      refine ⟨a4, ?_⟩
      have b1 := (rdM_one a2).1
      rw [a3, List.append_nil] at b1
      have b2 := frm_back h1
      rw [List.drop_of_length_le (by omega), List.append_nil] at b2
      unfold enc
      rw [← b1]; exact b2.symm
    · rw [if_neg h2] at h; exact absurd h (by decide)
  · rw [if_neg h1] at h; exact absurd h h1
/-- What is put is taken as what it was. -/
theorem tk_enc {m : Mf} (hf : m.fit) (h : m.ok = true) : tkE (enc m) = 0 ∧ tkM (enc m) = m := by
  have hl := Mf.ok_len h
  obtain ⟨a1, a2⟩ := frm_ok (pay m) [] (by have := pay_short h; omega)
  rw [List.append_nil] at a1 a2
  replace a1 : fe (enc m) = 0 := a1
  replace a2 : fp (enc m) = pay m := a2
  have b := rdM_pay hf (by omega) (by omega) []
  rw [List.append_nil] at b
  have hy : tkYes (enc m) = true := (tkYes_iff a1).2 ⟨by rw [a2]; exact (frm_len _).symm, by rw [a2, b], by rw [a2, b], by rw [a2, b]; exact h⟩
  unfold tkE tkM
  rw [if_pos a1, if_pos a1, if_pos hy, if_pos hy, a2, b]
  exact ⟨rfl, rfl⟩
theorem enc_inj {a b : Mf} (ha : a.fit) (hb : b.fit) (oa : a.ok = true) (ob : b.ok = true) (h : enc a = enc b) : a = b := by
  rw [← (tk_enc ha oa).2, h, (tk_enc hb ob).2]

/-! The document's way: by places. -/
def nbAt (p : List UInt8) (at_ : Nat) : Nat := if at_ + 8 ≤ p.length then un ((p.drop at_).take 8) else 0
def smAt (p : List UInt8) (at_ : Nat) : Nat := if h : at_ < p.length then (p[at_]'h).toNat else 0
def dK (p : List UInt8) : Nat := min (smAt p 9) 20
def dN (p : List UInt8) : Nat := min (smAt p (10 + 16 * dK p)) 20
def dSg (p : List UInt8) (n : Nat) : List (Nat × Nat) := (List.range n).map fun i => (nbAt p (10 + 16 * i), nbAt p (10 + 16 * i + 8))
def dCk (p : List UInt8) (a n : Nat) : List Nat := (List.range n).map fun i => nbAt p (a + 8 * i)
def dM (p : List UInt8) : Mf := ⟨nbAt p 0, smAt p 8, dSg p (dK p), dCk p (11 + 16 * dK p) (dN p)⟩
theorem dSg_snoc (p : List UInt8) (n : Nat) : dSg p (n + 1) = dSg p n ++ [(nbAt p (10 + 16 * n), nbAt p (10 + 16 * n + 8))] := by
  unfold dSg; rw [List.range_succ, List.map_append]; rfl
theorem dCk_snoc (p : List UInt8) (a n : Nat) : dCk p a (n + 1) = dCk p a n ++ [nbAt p (a + 8 * n)] := by
  unfold dCk; rw [List.range_succ, List.map_append]; rfl
theorem dSg_len (p : List UInt8) (n : Nat) : (dSg p n).length = n := by simp [dSg]
theorem dCk_len (p : List UInt8) (a n : Nat) : (dCk p a n).length = n := by simp [dCk]
theorem nbAt_lt (p : List UInt8) (a : Nat) : nbAt p a < 18446744073709551616 := by
  unfold nbAt
  split
  · have h := un_lt ((p.drop a).take 8)
    rwa [show ((p.drop a).take 8).length = 8 by simp; omega, p8] at h
  · decide
theorem smAt_lt (p : List UInt8) (a : Nat) : smAt p a < 256 := by
  unfold smAt
  split
  · exact UInt8.toNat_lt _
  · decide
theorem dSg_fit (p : List UInt8) (n : Nat) : sgFit (dSg p n) := fun x hx => by
  obtain ⟨i, _, rfl⟩ := List.mem_map.1 hx
  exact ⟨nbAt_lt _ _, nbAt_lt _ _⟩
theorem dCk_fit (p : List UInt8) (a n : Nat) : ckFit (dCk p a n) := fun x hx => by
  obtain ⟨i, _, rfl⟩ := List.mem_map.1 hx
  exact nbAt_lt _ _
theorem dM_fit (p : List UInt8) : (dM p).fit := ⟨nbAt_lt _ _, smAt_lt _ _, dSg_fit _ _, dCk_fit _ _ _⟩
theorem nbAt_le (A B : List UInt8) (n : Nat) (hn : n < 18446744073709551616) {a : Nat} (ha : a = A.length) : nbAt (A ++ le 8 n ++ B) a = n := by
  subst ha
  unfold nbAt
  rw [if_pos (by simp [le_length]), List.append_assoc, List.drop_left, List.take_append_of_le_length (by rw [le_length]; omega), List.take_of_length_le (by rw [le_length]; omega), un_le, p8]
  exact Nat.mod_eq_of_lt hn
theorem smAt_le (A B : List UInt8) (n : Nat) (hn : n < 256) {a : Nat} (ha : a = A.length) : smAt (A ++ le 1 n ++ B) a = n := by
  subst ha
  have e : le 1 n = [UInt8.ofNat (n % 256)] := by simp [le]
  unfold smAt
  rw [dif_pos (by simp [e])]
  have h1 : (A ++ le 1 n ++ B)[A.length]'(by simp [e]) = UInt8.ofNat (n % 256) := by
    simp [e]
  rw [h1]
  simp; omega
theorem dSg_sgb (A B : List UInt8) (l : List (Nat × Nat)) (hl : sgFit l) (hA : A.length = 10) : ∀ n, n ≤ l.length → dSg (A ++ sgb l ++ B) n = l.take n
  | 0, _ => rfl
  | n + 1, hn => by
    have hlt : n < l.length := by omega
    rw [dSg_snoc, dSg_sgb A B l hl hA n (by omega)]
    have hf := hl _ (List.getElem_mem hlt)
    have e : l = l.take n ++ [l[n]'hlt] ++ l.drop (n + 1) := by simp
    have e2 : A ++ sgb l ++ B = A ++ sgb (l.take n) ++ le 8 (l[n]'hlt).1 ++ (le 8 (l[n]'hlt).2 ++ sgb (l.drop (n + 1)) ++ B) := by
      conv => lhs; rw [e, sgb_app, sgb_snoc]
      simp only [List.append_assoc]
    have e3 : A ++ sgb l ++ B = (A ++ sgb (l.take n) ++ le 8 (l[n]'hlt).1) ++ le 8 (l[n]'hlt).2 ++ (sgb (l.drop (n + 1)) ++ B) := by
      conv => lhs; rw [e, sgb_app, sgb_snoc]
      simp only [List.append_assoc]
    have h1 : nbAt (A ++ sgb l ++ B) (10 + 16 * n) = (l[n]'hlt).1 := by
      rw [e2]; exact nbAt_le _ _ _ hf.1 (by rw [List.length_append, sgb_len, hA, List.length_take]; omega)
    have h2 : nbAt (A ++ sgb l ++ B) (10 + 16 * n + 8) = (l[n]'hlt).2 := by
      rw [e3]; exact nbAt_le _ _ _ hf.2 (by rw [List.length_append, List.length_append, sgb_len, hA, List.length_take, le_length]; omega)
    rw [h1, h2, List.take_succ_eq_append_getElem hlt]
theorem dCk_ckb (A B : List UInt8) (l : List Nat) (hl : ckFit l) {a : Nat} (ha : a = A.length) : ∀ n, n ≤ l.length → dCk (A ++ ckb l ++ B) a n = l.take n
  | 0, _ => rfl
  | n + 1, hn => by
    have hlt : n < l.length := by omega
    rw [dCk_snoc, dCk_ckb A B l hl ha n (by omega)]
    have hf := hl _ (List.getElem_mem hlt)
    have e : l = l.take n ++ [l[n]'hlt] ++ l.drop (n + 1) := by simp
    have e2 : A ++ ckb l ++ B = A ++ ckb (l.take n) ++ le 8 (l[n]'hlt) ++ (ckb (l.drop (n + 1)) ++ B) := by
      conv => lhs; rw [e, ckb_app, ckb_snoc]
      simp only [List.append_assoc]
    have h1 : nbAt (A ++ ckb l ++ B) (a + 8 * n) = l[n]'hlt := by
      rw [e2]; exact nbAt_le _ _ _ hf (by rw [List.length_append, ckb_len, List.length_take, ha]; omega)
    rw [h1, List.take_succ_eq_append_getElem hlt]
theorem dM_pay {m : Mf} (hf : m.fit) (h : m.ok = true) : dM (pay m) = m := by
  obtain ⟨l1, l2⟩ := Mf.ok_len h
  have k0 : nbAt (pay m) 0 = m.ep := by
    have : pay m = [] ++ le 8 m.ep ++ (le 1 m.pl ++ le 1 m.sg.length ++ sgb m.sg ++ le 1 m.ck.length ++ ckb m.ck) := by simp [pay, List.append_assoc]
    rw [this]; exact nbAt_le _ _ _ hf.ep rfl
  have k1 : smAt (pay m) 8 = m.pl := by
    have : pay m = le 8 m.ep ++ le 1 m.pl ++ (le 1 m.sg.length ++ sgb m.sg ++ le 1 m.ck.length ++ ckb m.ck) := by simp [pay, List.append_assoc]
    rw [this]; exact smAt_le _ _ _ hf.pl (by rw [le_length])
  have k2 : smAt (pay m) 9 = m.sg.length := by
    have : pay m = (le 8 m.ep ++ le 1 m.pl) ++ le 1 m.sg.length ++ (sgb m.sg ++ le 1 m.ck.length ++ ckb m.ck) := by simp [pay, List.append_assoc]
    rw [this]; exact smAt_le _ _ _ (by omega) (by simp [le_length])
  have hK : dK (pay m) = m.sg.length := by unfold dK; rw [k2]; omega
  have k3 : smAt (pay m) (10 + 16 * m.sg.length) = m.ck.length := by
    have : pay m = (le 8 m.ep ++ le 1 m.pl ++ le 1 m.sg.length ++ sgb m.sg) ++ le 1 m.ck.length ++ ckb m.ck := by simp [pay, List.append_assoc]
    rw [this]; exact smAt_le _ _ _ (by omega) (by simp [le_length, sgb_len]; omega)
  have hN : dN (pay m) = m.ck.length := by unfold dN; rw [hK, k3]; omega
  have k4 : dSg (pay m) m.sg.length = m.sg := by
    have : pay m = (le 8 m.ep ++ le 1 m.pl ++ le 1 m.sg.length) ++ sgb m.sg ++ (le 1 m.ck.length ++ ckb m.ck) := by simp [pay, List.append_assoc]
    rw [this, dSg_sgb _ _ _ hf.sg (by simp [le_length]) _ (Nat.le_refl _), List.take_length]
  have k5 : dCk (pay m) (11 + 16 * m.sg.length) m.ck.length = m.ck := by
    have : pay m = (le 8 m.ep ++ le 1 m.pl ++ le 1 m.sg.length ++ sgb m.sg ++ le 1 m.ck.length) ++ ckb m.ck ++ [] := by simp [pay, List.append_assoc]
    rw [this, dCk_ckb _ _ _ hf.ck (by simp [le_length, sgb_len]; omega) _ (Nat.le_refl _), List.take_length]
  unfold dM
  rw [k0, k1, hK, hN, k4, k5]
def dYes (s : List UInt8) : Bool := decide (6 + (fp s).length = s.length) && ((dM (fp s)).ok && decide (pay (dM (fp s)) = fp s))
/-- Both ways tell the same. -/
theorem d_tk {s : List UInt8} (h : fe s = 0) : dYes s = tkYes s ∧ (dYes s = true → dM (fp s) = (rdM (fp s)).val) := by
  have key : dYes s = true ↔ tkYes s = true := by
    rw [tkYes_iff h]
    constructor
    · intro hd
      simp only [dYes, Bool.and_eq_true, decide_eq_true_eq] at hd
      obtain ⟨h1, h2, h3⟩ := hd
      have hl := Mf.ok_len h2
      have b := rdM_pay (dM_fit (fp s)) (by omega) (by omega) []
      rw [List.append_nil, h3] at b
      exact ⟨h1, by rw [b], by rw [b], by rw [b]; exact h2⟩
    · rintro ⟨a1, a2, a3, a4⟩
      have b1 := (rdM_one a2).1
      rw [a3, List.append_nil] at b1
      have b2 := dM_pay (rdM_fit (fp s)) a4
      rw [← b1] at b2
      simp only [dYes, Bool.and_eq_true, decide_eq_true_eq]
      exact ⟨a1, by rw [b2]; exact a4, by rw [b2]; exact b1.symm⟩
  refine ⟨by rw [Bool.eq_iff_iff]; exact key, fun hd => ?_⟩
  obtain ⟨a1, a2, a3, a4⟩ := (tkYes_iff h).1 (key.1 hd)
  have b1 := (rdM_one a2).1
  rw [a3, List.append_nil] at b1
  have b2 := dM_pay (rdM_fit (fp s)) a4
  rwa [← b1] at b2
end Go.Proofs.YtakejacamkdncaaGreatDoor
