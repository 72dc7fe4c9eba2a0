/- Records: their fields, which of them may be, their bytes, and how bytes are read: the plain mathematics of layer 15. Nothing of the program. -/
import Derived.Test.YthnelnfefllhpaaGreatDoorAa
import Derived.Test.YthnelnfefllhpaaGreatDoorAd
namespace Go.Proofs.YthnelnfefllhpaaGreatDoor
open Go.RowKit
set_option linter.unusedVariables false
set_option linter.unusedSimpArgs false

/-- A record: its kind, frame, own input, pair, segment, first frame, epoch, player. -/
structure Rc where
  k : Int
  f : Nat
  o : Nat
  p : Nat
  q : Nat
  s : Nat
  i : Nat
  e : Nat
  y : Nat
def rcs (r : Rc) : Array Value := #[.int .i64 r.k, .int .u64 (r.f : Int), .int .u8 (r.o : Int), .int .u8 (r.p : Int), .int .u8 (r.q : Int), .int .u64 (r.s : Int), .int .u64 (r.i : Int), .int .u64 (r.e : Int), .int .u8 (r.y : Int)]
def rz : Rc := ⟨0, 0, 0, 0, 0, 0, 0, 0, 0⟩
theorem rc_eq {a b : Rc} : a = b ↔ a.k = b.k ∧ a.f = b.f ∧ a.o = b.o ∧ a.p = b.p ∧ a.q = b.q ∧ a.s = b.s ∧ a.i = b.i ∧ a.e = b.e ∧ a.y = b.y := by
  obtain ⟨a0, a1, a2, a3, a4, a5, a6, a7, a8⟩ := a
  obtain ⟨b0, b1, b2, b3, b4, b5, b6, b7, b8⟩ := b
  simp
structure Rc.fit (r : Rc) : Prop where
  k0 : -9223372036854775808 ≤ r.k
  k1 : r.k ≤ 9223372036854775807
  f : r.f < 18446744073709551616
  o : r.o < 256
  p : r.p < 256
  q : r.q < 256
  s : r.s < 18446744073709551616
  i : r.i < 18446744073709551616
  e : r.e < 18446744073709551616
  y : r.y < 256
/-- As the program's '==' tells. -/
def reB (a b : Rc) : Bool := (a.k == b.k) && (((a.f : Int) == (b.f : Int)) && (((a.o : Int) == (b.o : Int)) && (((a.p : Int) == (b.p : Int)) && (((a.q : Int) == (b.q : Int)) && (((a.s : Int) == (b.s : Int)) && (((a.i : Int) == (b.i : Int)) && (((a.e : Int) == (b.e : Int)) && ((a.y : Int) == (b.y : Int)))))))))
theorem reB_iff {a b : Rc} : reB a b = true ↔ a = b := by
  rw [rc_eq]
  simp [reB]
  intro _
  omega
theorem reB_self (a : Rc) : reB a a = true := reB_iff.2 rfl
theorem reB_not {a b : Rc} (h : a ≠ b) : reB a b = false := by
  cases e : reB a b with
  | false => rfl
  | true => exact absurd (reB_iff.1 e) h
def lowB (r : Rc) : Bool := decide (r.o < 64) && (decide (r.p < 64) && (decide (r.q < 64) && decide (r.y < 2)))
/-- May a record be? -/
def mayB (r : Rc) : Bool := lowB r && (if r.k = 1 then decide (r.p = 0 ∧ r.q = 0 ∧ r.s = 0 ∧ r.i = 0 ∧ r.e = 0 ∧ r.y = 0) else if r.k = 2 then decide (r.o = 0 ∧ r.s = 0 ∧ r.i = 0 ∧ r.e = 0 ∧ r.y = 0) else if r.k = 3 then decide (r.f = 0 ∧ r.o = 0 ∧ r.p = 0 ∧ r.q = 0) else false)
/-- What its kind lets be written, and the record's text. -/
def encK (r : Rc) : List UInt8 := if r.k = 1 then le 8 r.f ++ le 1 r.o else if r.k = 2 then le 8 r.f ++ le 1 r.p ++ le 1 r.q else if r.k = 3 then le 8 r.s ++ le 8 r.i ++ le 8 r.e ++ le 1 r.y else []
def kb (r : Rc) : Nat := (r.k % 256).toNat
def encR (r : Rc) : List UInt8 := le 1 (kb r) ++ encK r
theorem kb_lt (r : Rc) : kb r < 256 := by unfold kb; omega
theorem kb_wrap (r : Rc) : IntKind.u8.wrap r.k = (kb r : Int) := by
  simp [IntKind.wrap, IntKind.bits, IntKind.signed, kb]; omega
theorem encR_len (r : Rc) : (encR r).length ≤ 26 := by
  unfold encR encK
  (repeat' split) <;> simp [le_length]

/-- What reading gives: known or not, the error, what is left, the record. -/
structure Rg where
  known : Bool
  err : Int
  rest : List UInt8
  val : Rc
def rdE (l : List UInt8) : Rg :=
  let a := num 1 l
  if a.val = 1 then
    let b := num 8 a.rest; let c := num 1 b.rest
    ⟨true, fin (fin a.err b.err) c.err, c.rest, ⟨1, b.val, c.val, 0, 0, 0, 0, 0, 0⟩⟩
  else if a.val = 2 then
    let b := num 8 a.rest; let c := num 1 b.rest; let d := num 1 c.rest
    ⟨true, fin (fin (fin a.err b.err) c.err) d.err, d.rest, ⟨2, b.val, 0, c.val, d.val, 0, 0, 0, 0⟩⟩
  else if a.val = 3 then
    let b := num 8 a.rest; let c := num 8 b.rest; let d := num 8 c.rest; let x := num 1 d.rest
    ⟨true, fin (fin (fin (fin a.err b.err) c.err) d.err) x.err, x.rest, ⟨3, 0, 0, 0, 0, b.val, c.val, d.val, x.val⟩⟩
  else ⟨false, a.err, a.rest, ⟨(a.val : Int), 0, 0, 0, 0, 0, 0, 0, 0⟩⟩
/-- What the program's Take tells. -/
def tkR (l : List UInt8) : Int × Rc :=
  if (rdE l).err = 0 then (if (rdE l).known = true ∧ (rdE l).rest = [] ∧ lowB (rdE l).val = true then (0, (rdE l).val) else (4, rz)) else ((rdE l).err, rz)

theorem num_val (k : Nat) (l : List UInt8) : (num k l).val < 256 ^ k := by
  unfold num
  split
  · have h := un_lt (l.take k)
    rwa [show (l.take k).length = k by simp; omega] at h
  · exact Nat.pow_pos (by omega)
theorem rdE_fit (l : List UInt8) : (rdE l).val.fit := by
  have p8 : (256 : Nat) ^ 8 = 18446744073709551616 := by decide
  have n1 := fun l => num_val 1 l
  have n8 := fun l => num_val 8 l
  simp only [p8, Nat.pow_one] at n1 n8
  unfold rdE
  dsimp only
  have h0 := n1 l
  (repeat' split) <;> exact ⟨by simp <;> omega, by simp <;> omega, by simp [n8, n1], by simp [n8, n1], by simp [n8, n1], by simp [n8, n1], by simp [n8, n1], by simp [n8, n1], by simp [n8, n1], by simp [n8, n1]⟩
theorem tkR_fit (l : List UInt8) : (tkR l).2.fit := by
  have hz : rz.fit := ⟨by decide, by decide, by decide, by decide, by decide, by decide, by decide, by decide, by decide, by decide⟩
  unfold tkR
  (repeat' split)
  · exact rdE_fit l
  · exact hz
  · exact hz
theorem tkR_bad {l : List UInt8} (h : (tkR l).1 ≠ 0) : (tkR l).2 = rz := by
  unfold tkR at h ⊢
  (repeat' split) <;> simp_all
theorem num_one {k : Nat} {l : List UInt8} (h : (num k l).err = 0) : l = le k (num k l).val ++ (num k l).rest := ((num_good k).one l h).1
/-- What is put is taken as what it was. -/
theorem tkR_enc {r : Rc} (hf : r.fit) (h : mayB r = true) : tkR (encR r) = (0, r) := by
  have p8 : (256 : Nat) ^ 8 = 18446744073709551616 := by decide
  have s8 : ∀ n more, n < 18446744073709551616 → num 8 (le 8 n ++ more) = ⟨0, n, more⟩ := fun n more hn => num_le 8 n more (by rw [p8]; exact hn)
  have s1 : ∀ n more, n < 256 → num 1 (le 1 n ++ more) = ⟨0, n, more⟩ := fun n more hn => num_le 1 n more (by rw [Nat.pow_one]; exact hn)
  have s1' : ∀ n, n < 256 → num 1 (le 1 n) = ⟨0, n, []⟩ := fun n hn => by have := s1 n [] hn; rwa [List.append_nil] at this
  obtain ⟨k, f, o, p, q, s, i, e, y⟩ := r
  obtain ⟨k0, k1, hf, ho, hp, hq, hs, hi, he, hy⟩ := hf
  unfold mayB at h
  rw [Bool.and_eq_true] at h
  obtain ⟨hl, h⟩ := h
  simp only at h hf ho hp hq hs hi he hy
  by_cases h1 : k = 1
  · subst h1
    simp only [if_true, decide_eq_true_eq] at h
    obtain ⟨rfl, rfl, rfl, rfl, rfl, rfl⟩ := h
    have e0 : rdE (encR ⟨1, f, o, 0, 0, 0, 0, 0, 0⟩) = ⟨true, 0, [], ⟨1, f, o, 0, 0, 0, 0, 0, 0⟩⟩ := by
      simp [rdE, encR, encK, kb, s1, s8, s1', hf, ho, fin]
    unfold tkR
    rw [e0]
    simp [hl]
  · by_cases h2 : k = 2
    · subst h2
      simp only [if_true, decide_eq_true_eq] at h
      rw [if_neg (by decide)] at h
      simp only [decide_eq_true_eq] at h
      obtain ⟨rfl, rfl, rfl, rfl, rfl⟩ := h
      have e0 : rdE (encR ⟨2, f, 0, p, q, 0, 0, 0, 0⟩) = ⟨true, 0, [], ⟨2, f, 0, p, q, 0, 0, 0, 0⟩⟩ := by
        simp [rdE, encR, encK, kb, s1, s8, s1', hf, hp, hq, fin]
      unfold tkR
      rw [e0]
      simp [hl]
    · by_cases h3 : k = 3
      · subst h3
        rw [if_neg (by decide), if_neg (by decide), if_pos rfl] at h
        simp only [decide_eq_true_eq] at h
        obtain ⟨rfl, rfl, rfl, rfl⟩ := h
        have e0 : rdE (encR ⟨3, 0, 0, 0, 0, s, i, e, y⟩) = ⟨true, 0, [], ⟨3, 0, 0, 0, 0, s, i, e, y⟩⟩ := by
          simp [rdE, encR, encK, kb, s1, s8, s1', hs, hi, he, hy, fin]
        unfold tkR
        rw [e0]
        simp [hl]
      · rw [if_neg h1, if_neg h2, if_neg h3] at h
        cases h
/-- What is taken may be, and has that text. -/
theorem tkR_one {l : List UInt8} (h : (tkR l).1 = 0) : mayB (tkR l).2 = true ∧ encR (tkR l).2 = l := by
  unfold tkR at h ⊢
  by_cases he : (rdE l).err = 0
  · rw [if_pos he] at h ⊢
    by_cases hk : (rdE l).known = true ∧ (rdE l).rest = [] ∧ lowB (rdE l).val = true
    · rw [if_pos hk]
      clear h
      obtain ⟨hk1, hk2, hk3⟩ := hk
      show mayB (rdE l).val = true ∧ encR (rdE l).val = l
      unfold rdE at he hk1 hk2 hk3 ⊢
      dsimp only at he hk1 hk2 hk3 ⊢
      by_cases a1 : (num 1 l).val = 1
      · rw [if_pos a1] at he hk2 hk3 ⊢
        simp only at he hk2 hk3 ⊢
        obtain ⟨h2, h3⟩ := fin_eq_zero he
        obtain ⟨h4, h5⟩ := fin_eq_zero h2
        have e1 := num_one h4
        have e2 := num_one h5
        have e3 := num_one h3
        rw [hk2, List.append_nil] at e3
        refine ⟨by unfold mayB; rw [hk3]; simp, ?_⟩
        rw [a1] at e1
        rw [e3] at e2
        rw [e2] at e1
        simp [encR, encK, kb]
        exact e1.symm
      · rw [if_neg a1] at he hk1 hk2 hk3 ⊢
        by_cases a2 : (num 1 l).val = 2
        · rw [if_pos a2] at he hk2 hk3 ⊢
          simp only at he hk2 hk3 ⊢
          obtain ⟨h2, h3⟩ := fin_eq_zero he
          obtain ⟨h4, h5⟩ := fin_eq_zero h2
          obtain ⟨h6, h7⟩ := fin_eq_zero h4
          have e1 := num_one h6
          have e2 := num_one h7
          have e3 := num_one h5
          have e4 := num_one h3
          rw [hk2, List.append_nil] at e4
          refine ⟨by unfold mayB; rw [hk3]; simp, ?_⟩
          rw [a2] at e1
          rw [e4] at e3
          rw [e3] at e2
          rw [e2] at e1
          simp [encR, encK, kb]
          exact e1.symm
        · rw [if_neg a2] at he hk1 hk2 hk3 ⊢
          by_cases a3 : (num 1 l).val = 3
          · rw [if_pos a3] at he hk2 hk3 ⊢
            simp only at he hk2 hk3 ⊢
            obtain ⟨h2, h3⟩ := fin_eq_zero he
            obtain ⟨h4, h5⟩ := fin_eq_zero h2
            obtain ⟨h6, h7⟩ := fin_eq_zero h4
            obtain ⟨h8, h9⟩ := fin_eq_zero h6
            have e1 := num_one h8
            have e2 := num_one h9
            have e3 := num_one h7
            have e4 := num_one h5
            have e5 := num_one h3
            rw [hk2, List.append_nil] at e5
            refine ⟨by unfold mayB; rw [hk3]; simp, ?_⟩
            rw [a3] at e1
            rw [e5] at e4
            rw [e4] at e3
            rw [e3] at e2
            rw [e2] at e1
            simp [encR, encK, kb]
            exact e1.symm
          · rw [if_neg a3] at hk1
            cases hk1
    · rw [if_neg hk] at h
      cases h
  · rw [if_neg he] at h
    exact absurd h he
theorem tkR_code (l : List UInt8) : (tkR l).1 = 0 ∨ (tkR l).1 = 4 ∨ (tkR l).1 = 10 := by
  have n (k : Nat) (l : List UInt8) : (num k l).err = 0 ∨ (num k l).err = 10 := by unfold num; split <;> simp
  have g (a b : Int) (ha : a = 0 ∨ a = 10) (hb : b = 0 ∨ b = 10) : fin a b = 0 ∨ fin a b = 10 := by unfold fin; split <;> assumption
  have e : (rdE l).err = 0 ∨ (rdE l).err = 10 := by
    unfold rdE
    dsimp only
    (repeat' split)
    · exact g _ _ (g _ _ (n _ _) (n _ _)) (n _ _)
    · exact g _ _ (g _ _ (g _ _ (n _ _) (n _ _)) (n _ _)) (n _ _)
    · exact g _ _ (g _ _ (g _ _ (g _ _ (n _ _) (n _ _)) (n _ _)) (n _ _)) (n _ _)
    · exact n _ _
  unfold tkR
  (repeat' split)
  · exact .inl rfl
  · exact .inr (.inl rfl)
  · rcases e with e | e
    · exact .inl e
    · exact .inr (.inr e)
/-- The program's Put: what its Take tells of what was written. -/
theorem put_yes {r : Rc} (hf : r.fit) (h : mayB r = true) : tkR (encR r) = (0, r) := tkR_enc hf h
theorem put_no {r : Rc} (h : mayB r = false) : (tkR (encR r)).1 ≠ 0 ∨ (tkR (encR r)).2 ≠ r := by
  by_cases h1 : (tkR (encR r)).1 = 0
  · refine .inr fun h2 => ?_
    have := (tkR_one h1).1
    rw [h2, h] at this
    cases this
  · exact .inl h1
/-- No text of a record is the beginning of another one's. -/
theorem enc_pre {a b : Rc} (ha : a.fit) (hb : b.fit) (h1 : mayB a = true) (h2 : mayB b = true) (h : (encR a).isPrefixOf (encR b) = true) : a = b := by
  have h := List.isPrefixOf_iff_prefix.1 h
  have ra := tkR_enc ha h1
  have rb := tkR_enc hb h2
  obtain ⟨t, ht⟩ := h
  have hlen : (encR a).length = (encR b).length := by
    have e0 : kb a = kb b := by
      have e := congrArg (fun l => l.take 1) ht
      have f (n : Nat) (l : List UInt8) : (le 1 n ++ l).take 1 = le 1 n := by simp [le]
      simp only [encR, List.append_assoc, f] at e
      have e := congrArg un e
      rw [un_le, un_le] at e
      have := kb_lt a
      have := kb_lt b
      omega
    have hk (r : Rc) (h : mayB r = true) : r.k = 1 ∨ r.k = 2 ∨ r.k = 3 := by
      unfold mayB at h
      rw [Bool.and_eq_true] at h
      obtain ⟨_, h⟩ := h
      split at h
      · exact .inl (by assumption)
      · split at h
        · exact .inr (.inl (by assumption))
        · split at h
          · exact .inr (.inr (by assumption))
          · cases h
    have hkk : a.k = b.k := by
      have := hk a h1
      have := hk b h2
      unfold kb at e0
      omega
    unfold encR encK
    rw [hkk]
    (repeat' split) <;> simp [le_length]
  have ht0 : t = [] := by
    have := congrArg List.length ht
    rw [List.length_append] at this
    exact List.eq_nil_of_length_eq_zero (by omega)
  rw [ht0, List.append_nil] at ht
  rw [ht, rb] at ra
  exact (Prod.mk.inj ra).2.symm

/-! By places, as the document says it. -/
def fld (l : List UInt8) (a k : Nat) : Nat := un ((l.drop a).take k)
def lng (k : Nat) : Nat := if k = 1 then 10 else if k = 2 then 11 else 26
def atR (l : List UInt8) : Rc := if fld l 0 1 = 1 then ⟨1, fld l 1 8, fld l 9 1, 0, 0, 0, 0, 0, 0⟩ else if fld l 0 1 = 2 then ⟨2, fld l 1 8, 0, fld l 9 1, fld l 10 1, 0, 0, 0, 0⟩ else ⟨3, 0, 0, 0, 0, fld l 1 8, fld l 9 8, fld l 17 8, fld l 25 1⟩
def dT (l : List UInt8) : Int × Rc :=
  if l = [] then (10, rz) else if fld l 0 1 < 1 ∨ 3 < fld l 0 1 then (4, rz)
  else if l.length < lng (fld l 0 1) then (10, rz) else if lng (fld l 0 1) < l.length then (4, rz)
  else if mayB (atR l) = true then (0, atR l) else (4, rz)
theorem num_at {l : List UInt8} {a k : Nat} (h : a + k ≤ l.length) : num k (l.drop a) = ⟨0, fld l a k, l.drop (a + k)⟩ := by
  unfold num
  rw [if_pos (by rw [List.length_drop]; omega), List.drop_drop]
  rfl
theorem num_off {l : List UInt8} {a k : Nat} (h : l.length < a + k) (hk : 0 < k) : num k (l.drop a) = ⟨10, 0, []⟩ := by
  unfold num
  rw [if_neg (by rw [List.length_drop]; omega)]
theorem num_nil' {k : Nat} (hk : 0 < k) : num k [] = ⟨10, 0, []⟩ := by
  unfold num
  rw [if_neg (by simp; omega)]
theorem low_may1 (f o : Nat) : mayB ⟨1, f, o, 0, 0, 0, 0, 0, 0⟩ = lowB ⟨1, f, o, 0, 0, 0, 0, 0, 0⟩ := by simp [mayB]
theorem low_may2 (f p q : Nat) : mayB ⟨2, f, 0, p, q, 0, 0, 0, 0⟩ = lowB ⟨2, f, 0, p, q, 0, 0, 0, 0⟩ := by simp [mayB]
theorem low_may3 (s i e y : Nat) : mayB ⟨3, 0, 0, 0, 0, s, i, e, y⟩ = lowB ⟨3, 0, 0, 0, 0, s, i, e, y⟩ := by simp [mayB]
theorem drop_nil {l : List UInt8} {n : Nat} : l.drop n = [] ↔ l.length ≤ n := List.drop_eq_nil_iff
theorem tkR_dT (l : List UInt8) : tkR l = dT l := by
  have z1 := num_nil' (k := 1) (by omega)
  have z8 := num_nil' (k := 8) (by omega)
  by_cases h0 : l = []
  · subst h0
    simp [tkR, dT, rdE, z1]
  · have hl : 0 < l.length := List.length_pos_iff.2 h0
    have a0 : num 1 l = ⟨0, fld l 0 1, l.drop 1⟩ := by have := num_at (l := l) (a := 0) (k := 1) (by omega); simpa using this
    by_cases k1 : fld l 0 1 = 1
    · have ed : dT l = if l.length < 10 then (10, rz) else if 10 < l.length then (4, rz) else if mayB (atR l) = true then (0, atR l) else (4, rz) := by
        unfold dT
        rw [if_neg h0, k1, if_neg (by omega)]
        rfl
      have er : rdE l = ⟨true, fin (fin 0 (num 8 (l.drop 1)).err) (num 1 (num 8 (l.drop 1)).rest).err, (num 1 (num 8 (l.drop 1)).rest).rest, ⟨1, (num 8 (l.drop 1)).val, (num 1 (num 8 (l.drop 1)).rest).val, 0, 0, 0, 0, 0, 0⟩⟩ := by
        unfold rdE
        simp only [a0]
        rw [if_pos k1]
      rw [ed]
      unfold tkR
      rw [er]
      by_cases h9 : l.length < 1 + 8
      · rw [num_off h9 (by omega)]
        simp only [z1]
        rw [if_pos (show l.length < 10 by omega)]
        simp [fin]
      · rw [num_at (by omega)]
        by_cases h10 : l.length < 9 + 1
        · simp only [num_off h10 (show 0 < 1 by omega)]
          rw [if_pos (show l.length < 10 by omega)]
          simp [fin]
        · simp only [num_at (show 9 + 1 ≤ l.length by omega)]
          rw [if_neg (show ¬ l.length < 10 by omega), if_pos (show fin (fin 0 0) 0 = 0 from rfl)]
          have ea : atR l = ⟨1, fld l 1 8, fld l 9 1, 0, 0, 0, 0, 0, 0⟩ := by unfold atR; rw [if_pos k1]
          rw [ea, low_may1]
          by_cases h11 : 10 < l.length
          · rw [if_pos h11, if_neg (fun h => by have := drop_nil.1 h.2.1; omega)]
          · rw [if_neg h11]
            have hd : l.drop (9 + 1) = [] := drop_nil.2 (by omega)
            simp only [hd, true_and]
    · by_cases k2 : fld l 0 1 = 2
      · have ed : dT l = if l.length < 11 then (10, rz) else if 11 < l.length then (4, rz) else if mayB (atR l) = true then (0, atR l) else (4, rz) := by
          unfold dT
          rw [if_neg h0, k2, if_neg (by omega)]
          rfl
        have er : rdE l = ⟨true, fin (fin (fin 0 (num 8 (l.drop 1)).err) (num 1 (num 8 (l.drop 1)).rest).err) (num 1 (num 1 (num 8 (l.drop 1)).rest).rest).err, (num 1 (num 1 (num 8 (l.drop 1)).rest).rest).rest, ⟨2, (num 8 (l.drop 1)).val, 0, (num 1 (num 8 (l.drop 1)).rest).val, (num 1 (num 1 (num 8 (l.drop 1)).rest).rest).val, 0, 0, 0, 0⟩⟩ := by
          unfold rdE
          simp only [a0]
          rw [if_neg k1, if_pos k2]
        rw [ed]
        unfold tkR
        rw [er]
        by_cases h9 : l.length < 1 + 8
        · rw [num_off h9 (by omega)]
          simp only [z1]
          rw [if_pos (show l.length < 11 by omega)]
          simp [fin]
        · rw [num_at (by omega)]
          by_cases h10 : l.length < 9 + 1
          · simp only [num_off h10 (show 0 < 1 by omega), z1]
            rw [if_pos (show l.length < 11 by omega)]
            simp [fin]
          · simp only [num_at (show 9 + 1 ≤ l.length by omega)]
            by_cases h11 : l.length < 10 + 1
            · simp only [num_off h11 (show 0 < 1 by omega)]
              rw [if_pos (show l.length < 11 by omega)]
              simp [fin]
            · simp only [num_at (show 10 + 1 ≤ l.length by omega)]
              rw [if_neg (show ¬ l.length < 11 by omega), if_pos (show fin (fin (fin 0 0) 0) 0 = 0 from rfl)]
              have ea : atR l = ⟨2, fld l 1 8, 0, fld l 9 1, fld l 10 1, 0, 0, 0, 0⟩ := by unfold atR; rw [if_neg k1, if_pos k2]
              rw [ea, low_may2]
              by_cases h12 : 11 < l.length
              · rw [if_pos h12, if_neg (fun h => by have := drop_nil.1 h.2.1; omega)]
              · rw [if_neg h12]
                have hd : l.drop (10 + 1) = [] := drop_nil.2 (by omega)
                simp only [hd, true_and]
      · by_cases k3 : fld l 0 1 = 3
        · have ed : dT l = if l.length < 26 then (10, rz) else if 26 < l.length then (4, rz) else if mayB (atR l) = true then (0, atR l) else (4, rz) := by
            unfold dT
            rw [if_neg h0, k3, if_neg (by omega)]
            rfl
          have er : rdE l = ⟨true, fin (fin (fin (fin 0 (num 8 (l.drop 1)).err) (num 8 (num 8 (l.drop 1)).rest).err) (num 8 (num 8 (num 8 (l.drop 1)).rest).rest).err) (num 1 (num 8 (num 8 (num 8 (l.drop 1)).rest).rest).rest).err, (num 1 (num 8 (num 8 (num 8 (l.drop 1)).rest).rest).rest).rest, ⟨3, 0, 0, 0, 0, (num 8 (l.drop 1)).val, (num 8 (num 8 (l.drop 1)).rest).val, (num 8 (num 8 (num 8 (l.drop 1)).rest).rest).val, (num 1 (num 8 (num 8 (num 8 (l.drop 1)).rest).rest).rest).val⟩⟩ := by
            unfold rdE
            simp only [a0]
            rw [if_neg k1, if_neg k2, if_pos k3]
          rw [ed]
          unfold tkR
          rw [er]
          by_cases h9 : l.length < 1 + 8
          · rw [num_off h9 (by omega)]
            simp only [z1, z8]
            rw [if_pos (show l.length < 26 by omega)]
            simp [fin]
          · rw [num_at (by omega)]
            by_cases h10 : l.length < 9 + 8
            · simp only [num_off h10 (show 0 < 8 by omega), z1, z8]
              rw [if_pos (show l.length < 26 by omega)]
              simp [fin]
            · simp only [num_at (show 9 + 8 ≤ l.length by omega)]
              by_cases h11 : l.length < 17 + 8
              · simp only [num_off h11 (show 0 < 8 by omega), z1]
                rw [if_pos (show l.length < 26 by omega)]
                simp [fin]
              · simp only [num_at (show 17 + 8 ≤ l.length by omega)]
                by_cases h12 : l.length < 25 + 1
                · simp only [num_off h12 (show 0 < 1 by omega)]
                  rw [if_pos (show l.length < 26 by omega)]
                  simp [fin]
                · simp only [num_at (show 25 + 1 ≤ l.length by omega)]
                  rw [if_neg (show ¬ l.length < 26 by omega), if_pos (show fin (fin (fin (fin 0 0) 0) 0) 0 = 0 from rfl)]
                  have ea : atR l = ⟨3, 0, 0, 0, 0, fld l 1 8, fld l 9 8, fld l 17 8, fld l 25 1⟩ := by unfold atR; rw [if_neg k1, if_neg k2]
                  rw [ea, low_may3]
                  by_cases h13 : 26 < l.length
                  · rw [if_pos h13, if_neg (fun h => by have := drop_nil.1 h.2.1; omega)]
                  · rw [if_neg h13]
                    have hd : l.drop (25 + 1) = [] := drop_nil.2 (by omega)
                    simp only [hd, true_and]
        · have er : rdE l = ⟨false, 0, l.drop 1, ⟨(fld l 0 1 : Int), 0, 0, 0, 0, 0, 0, 0, 0⟩⟩ := by
            unfold rdE
            simp only [a0]
            rw [if_neg k1, if_neg k2, if_neg k3]
          unfold tkR dT
          rw [er, if_neg h0, if_pos (show fld l 0 1 < 1 ∨ 3 < fld l 0 1 by omega)]
          simp
end Go.Proofs.YthnelnfefllhpaaGreatDoor
