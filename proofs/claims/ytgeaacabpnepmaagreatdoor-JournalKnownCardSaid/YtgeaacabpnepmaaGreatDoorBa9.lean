/- Texts of the walk. -/
import Derived.Test.YtgeaacabpnepmaaGreatDoorAa9
import Derived.Test.YtgeaacabpnepmaaGreatDoorAd9
import Derived.Test.YtgeaacabpnepmaaGreatDoorAb9
import Derived.Deep.RegionHeld3
import Derived.BigQuiet
/- Records: their fields, which of them may be, their bytes, and how bytes are read: the plain mathematics of layer 15. Nothing of the program. -/
namespace Go.Proofs.YtgeaacabpnepmaaGreatDoor
open Go.RowKit
set_option linter.unusedVariables false
set_option linter.unusedSimpArgs false

/-- A record: its kind, frame, own input, pair, segment, first frame, epoch, player. -/
structure Rc where
  k : Int
  f : Nat
  o : Nat
  p : Nat
  q : Nat
  s : Nat
  i : Nat
  e : Nat
  y : Nat
def rcs (r : Rc) : Array Value := #[.int .i64 r.k, .int .u64 (r.f : Int), .int .u8 (r.o : Int), .int .u8 (r.p : Int), .int .u8 (r.q : Int), .int .u64 (r.s : Int), .int .u64 (r.i : Int), .int .u64 (r.e : Int), .int .u8 (r.y : Int)]
def rz : Rc := ⟨0, 0, 0, 0, 0, 0, 0, 0, 0⟩
theorem rc_eq {a b : Rc} : a = b ↔ a.k = b.k ∧ a.f = b.f ∧ a.o = b.o ∧ a.p = b.p ∧ a.q = b.q ∧ a.s = b.s ∧ a.i = b.i ∧ a.e = b.e ∧ a.y = b.y := by
  obtain ⟨a0, a1, a2, a3, a4, a5, a6, a7, a8⟩ := a
  obtain ⟨b0, b1, b2, b3, b4, b5, b6, b7, b8⟩ := b
  simp
structure Rc.fit (r : Rc) : Prop where
  k0 : -9223372036854775808 ≤ r.k
  k1 : r.k ≤ 9223372036854775807
  f : r.f < 18446744073709551616
  o : r.o < 256
  p : r.p < 256
  q : r.q < 256
  s : r.s < 18446744073709551616
  i : r.i < 18446744073709551616
  e : r.e < 18446744073709551616
  y : r.y < 256
/-- As the program's '==' tells. -/
def reB (a b : Rc) : Bool := (a.k == b.k) && (((a.f : Int) == (b.f : Int)) && (((a.o : Int) == (b.o : Int)) && (((a.p : Int) == (b.p : Int)) && (((a.q : Int) == (b.q : Int)) && (((a.s : Int) == (b.s : Int)) && (((a.i : Int) == (b.i : Int)) && (((a.e : Int) == (b.e : Int)) && ((a.y : Int) == (b.y : Int)))))))))
theorem reB_iff {a b : Rc} : reB a b = true ↔ a = b := by
  rw [rc_eq]
  simp [reB]
  intro _
  omega
theorem reB_self (a : Rc) : reB a a = true := reB_iff.2 rfl
theorem reB_not {a b : Rc} (h : a ≠ b) : reB a b = false := by
  cases e : reB a b with
  | false => rfl
  | true => exact absurd (reB_iff.1 e) h
def lowB (r : Rc) : Bool := decide (r.o < 64) && (decide (r.p < 64) && (decide (r.q < 64) && decide (r.y < 2)))
/-- May a record be? -/
def mayB (r : Rc) : Bool := lowB r && (if r.k = 1 then decide (r.p = 0 ∧ r.q = 0 ∧ r.s = 0 ∧ r.i = 0 ∧ r.e = 0 ∧ r.y = 0) else if r.k = 2 then decide (r.o = 0 ∧ r.s = 0 ∧ r.i = 0 ∧ r.e = 0 ∧ r.y = 0) else if r.k = 3 then decide (r.f = 0 ∧ r.o = 0 ∧ r.p = 0 ∧ r.q = 0) else false)
/-- What its kind lets be written, and the record's text. -/
def encK (r : Rc) : List UInt8 := if r.k = 1 then le 8 r.f ++ le 1 r.o else if r.k = 2 then le 8 r.f ++ le 1 r.p ++ le 1 r.q else if r.k = 3 then le 8 r.s ++ le 8 r.i ++ le 8 r.e ++ le 1 r.y else []
def kb (r : Rc) : Nat := (r.k % 256).toNat
def encR (r : Rc) : List UInt8 := le 1 (kb r) ++ encK r
theorem kb_wrap (r : Rc) : IntKind.u8.wrap r.k = (kb r : Int) := by
  simp [IntKind.wrap, IntKind.bits, IntKind.signed, kb]; omega
theorem encR_len (r : Rc) : (encR r).length ≤ 26 := by
  unfold encR encK
  (repeat' split) <;> simp [le_length]

/-- What reading gives: known or not, the error, what is left, the record. -/
structure Rg where
  known : Bool
  err : Int
  rest : List UInt8
  val : Rc
def rdE (l : List UInt8) : Rg :=
  let a := num 1 l
  if a.val = 1 then
    let b := num 8 a.rest; let c := num 1 b.rest
    ⟨true, fin (fin a.err b.err) c.err, c.rest, ⟨1, b.val, c.val, 0, 0, 0, 0, 0, 0⟩⟩
  else if a.val = 2 then
    let b := num 8 a.rest; let c := num 1 b.rest; let d := num 1 c.rest
    ⟨true, fin (fin (fin a.err b.err) c.err) d.err, d.rest, ⟨2, b.val, 0, c.val, d.val, 0, 0, 0, 0⟩⟩
  else if a.val = 3 then
    let b := num 8 a.rest; let c := num 8 b.rest; let d := num 8 c.rest; let x := num 1 d.rest
    ⟨true, fin (fin (fin (fin a.err b.err) c.err) d.err) x.err, x.rest, ⟨3, 0, 0, 0, 0, b.val, c.val, d.val, x.val⟩⟩
  else ⟨false, a.err, a.rest, ⟨(a.val : Int), 0, 0, 0, 0, 0, 0, 0, 0⟩⟩
/-- What the program's Take tells. -/
def tkR (l : List UInt8) : Int × Rc :=
  if (rdE l).err = 0 then (if (rdE l).known = true ∧ (rdE l).rest = [] ∧ lowB (rdE l).val = true then (0, (rdE l).val) else (4, rz)) else ((rdE l).err, rz)

theorem num_val (k : Nat) (l : List UInt8) : (num k l).val < 256 ^ k := by
  unfold num
  split
  · have h := un_lt (l.take k)
    rwa [show (l.take k).length = k by simp; omega] at h
  · exact Nat.pow_pos (by omega)
theorem rdE_fit (l : List UInt8) : (rdE l).val.fit := by
  have p8 : (256 : Nat) ^ 8 = 18446744073709551616 := by decide
  have n1 := fun l => num_val 1 l
  have n8 := fun l => num_val 8 l
  simp only [p8, Nat.pow_one] at n1 n8
  unfold rdE
  dsimp only
  have h0 := n1 l
  (repeat' split) <;> exact ⟨by simp <;> omega, by simp <;> omega, by simp [n8, n1], by simp [n8, n1], by simp [n8, n1], by simp [n8, n1], by simp [n8, n1], by simp [n8, n1], by simp [n8, n1], by simp [n8, n1]⟩
theorem tkR_fit (l : List UInt8) : (tkR l).2.fit := by
  have hz : rz.fit := ⟨by decide, by decide, by decide, by decide, by decide, by decide, by decide, by decide, by decide, by decide⟩
  unfold tkR
  (repeat' split)
  · exact rdE_fit l
  · exact hz
  · exact hz
theorem num_one {k : Nat} {l : List UInt8} (h : (num k l).err = 0) : l = le k (num k l).val ++ (num k l).rest := ((num_good k).one l h).1
/-- What is put is taken as what it was. -/
theorem tkR_enc {r : Rc} (hf : r.fit) (h : mayB r = true) : tkR (encR r) = (0, r) := by
  have p8 : (256 : Nat) ^ 8 = 18446744073709551616 := by decide
  have s8 : ∀ n more, n < 18446744073709551616 → num 8 (le 8 n ++ more) = ⟨0, n, more⟩ := fun n more hn => num_le 8 n more (by rw [p8]; exact hn)
  have s1 : ∀ n more, n < 256 → num 1 (le 1 n ++ more) = ⟨0, n, more⟩ := fun n more hn => num_le 1 n more (by rw [Nat.pow_one]; exact hn)
  have s1' : ∀ n, n < 256 → num 1 (le 1 n) = ⟨0, n, []⟩ := fun n hn => by have := s1 n [] hn; rwa [List.append_nil] at this
  obtain ⟨k, f, o, p, q, s, i, e, y⟩ := r
  obtain ⟨k0, k1, hf, ho, hp, hq, hs, hi, he, hy⟩ := hf
  unfold mayB at h
  rw [Bool.and_eq_true] at h
  obtain ⟨hl, h⟩ := h
  simp only at h hf ho hp hq hs hi he hy
  by_cases h1 : k = 1
  · subst h1
    simp only [if_true, decide_eq_true_eq] at h
    obtain ⟨rfl, rfl, rfl, rfl, rfl, rfl⟩ := h
    have e0 : rdE (encR ⟨1, f, o, 0, 0, 0, 0, 0, 0⟩) = ⟨true, 0, [], ⟨1, f, o, 0, 0, 0, 0, 0, 0⟩⟩ := by
      simp [rdE, encR, encK, kb, s1, s8, s1', hf, ho, fin]
    unfold tkR
    rw [e0]
    simp [hl]
  · by_cases h2 : k = 2
    · subst h2
      simp only [if_true, decide_eq_true_eq] at h
      rw [if_neg (by decide)] at h
      simp only [decide_eq_true_eq] at h
      obtain ⟨rfl, rfl, rfl, rfl, rfl⟩ := h
      have e0 : rdE (encR ⟨2, f, 0, p, q, 0, 0, 0, 0⟩) = ⟨true, 0, [], ⟨2, f, 0, p, q, 0, 0, 0, 0⟩⟩ := by
        simp [rdE, encR, encK, kb, s1, s8, s1', hf, hp, hq, fin]
      unfold tkR
      rw [e0]
      simp [hl]
    · by_cases h3 : k = 3
      · subst h3
        rw [if_neg (by decide), if_neg (by decide), if_pos rfl] at h
        simp only [decide_eq_true_eq] at h
        obtain ⟨rfl, rfl, rfl, rfl⟩ := h
        have e0 : rdE (encR ⟨3, 0, 0, 0, 0, s, i, e, y⟩) = ⟨true, 0, [], ⟨3, 0, 0, 0, 0, s, i, e, y⟩⟩ := by
          simp [rdE, encR, encK, kb, s1, s8, s1', hs, hi, he, hy, fin]
        unfold tkR
        rw [e0]
        simp [hl]
      · rw [if_neg h1, if_neg h2, if_neg h3] at h
        cases h
/-- What is taken may be, and has that text. -/
theorem tkR_one {l : List UInt8} (h : (tkR l).1 = 0) : mayB (tkR l).2 = true ∧ encR (tkR l).2 = l := by
  unfold tkR at h ⊢
  by_cases he : (rdE l).err = 0
  · rw [if_pos he] at h ⊢
    by_cases hk : (rdE l).known = true ∧ (rdE l).rest = [] ∧ lowB (rdE l).val = true
    · rw [if_pos hk]
      clear h
      obtain ⟨hk1, hk2, hk3⟩ := hk
      show mayB (rdE l).val = true ∧ encR (rdE l).val = l
      unfold rdE at he hk1 hk2 hk3 ⊢
      dsimp only at he hk1 hk2 hk3 ⊢
      by_cases a1 : (num 1 l).val = 1
      · rw [if_pos a1] at he hk2 hk3 ⊢
        simp only at he hk2 hk3 ⊢
        obtain ⟨h2, h3⟩ := fin_eq_zero he
        obtain ⟨h4, h5⟩ := fin_eq_zero h2
        have e1 := num_one h4
        have e2 := num_one h5
        have e3 := num_one h3
        rw [hk2, List.append_nil] at e3
        refine ⟨by unfold mayB; rw [hk3]; simp, ?_⟩
        rw [a1] at e1
        rw [e3] at e2
        rw [e2] at e1
        simp [encR, encK, kb]
        exact e1.symm
      · rw [if_neg a1] at he hk1 hk2 hk3 ⊢
        by_cases a2 : (num 1 l).val = 2
        · rw [if_pos a2] at he hk2 hk3 ⊢
          simp only at he hk2 hk3 ⊢
          obtain ⟨h2, h3⟩ := fin_eq_zero he
          obtain ⟨h4, h5⟩ := fin_eq_zero h2
          obtain ⟨h6, h7⟩ := fin_eq_zero h4
          have e1 := num_one h6
          have e2 := num_one h7
          have e3 := num_one h5
          have e4 := num_one h3
          rw [hk2, List.append_nil] at e4
          refine ⟨by unfold mayB; rw [hk3]; simp, ?_⟩
          rw [a2] at e1
          rw [e4] at e3
          rw [e3] at e2
          rw [e2] at e1
          simp [encR, encK, kb]
          exact e1.symm
        · rw [if_neg a2] at he hk1 hk2 hk3 ⊢
          by_cases a3 : (num 1 l).val = 3
          · rw [if_pos a3] at he hk2 hk3 ⊢
            simp only at he hk2 hk3 ⊢
            obtain ⟨h2, h3⟩ := fin_eq_zero he
            obtain ⟨h4, h5⟩ := fin_eq_zero h2
            obtain ⟨h6, h7⟩ := fin_eq_zero h4
            obtain ⟨h8, h9⟩ := fin_eq_zero h6
            have e1 := num_one h8
            have e2 := num_one h9
            have e3 := num_one h7
            have e4 := num_one h5
            have e5 := num_one h3
            rw [hk2, List.append_nil] at e5
            refine ⟨by unfold mayB; rw [hk3]; simp, ?_⟩
            rw [a3] at e1
            rw [e5] at e4
            rw [e4] at e3
            rw [e3] at e2
            rw [e2] at e1
            simp [encR, encK, kb]
            exact e1.symm
          · rw [if_neg a3] at hk1
            cases hk1
    · rw [if_neg hk] at h
      cases h
  · rw [if_neg he] at h
    exact absurd h he
theorem put_no {r : Rc} (h : mayB r = false) : (tkR (encR r)).1 ≠ 0 ∨ (tkR (encR r)).2 ≠ r := by
  by_cases h1 : (tkR (encR r)).1 = 0
  · refine .inr fun h2 => ?_
    have := (tkR_one h1).1
    rw [h2, h] at this
    cases this
  · exact .inl h1
/-! By places, as the document says it. -/
end Go.Proofs.YtgeaacabpnepmaaGreatDoor
/- Texts of elder layers, one behind the other. -/
/- Frames of texts: the plain mathematics of layer 4. Nothing of the program. -/
namespace Go.Proofs.YtgeaacabpnepmaaGreatDoor
open Go.RowKit
set_option linter.unusedVariables false

theorem upd_lt' (c : Nat) (s : List UInt8) (hc : c < 4294967296) : upd c s < 4294967296 :=
  Nat.xor_lt_two_pow (n := 32) (runs_lt _ (Nat.xor_lt_two_pow (n := 32) (by omega) (by decide))) (by decide)
/-- The length that stands at the fhead; the sum behind it; the payload behind both. -/
def fn (l : List UInt8) : Nat := un (l.take 2)
def fsum (l : List UInt8) : Nat := un ((l.drop 2).take 4)
def fpay (l : List UInt8) : List UInt8 := (l.drop 6).take (fn l)
def fck (l : List UInt8) : Nat := upd 0 (l.take 2 ++ fpay l)
/-- What is wrong with the first frame of l: 0 if nothing is. -/
def fe (l : List UInt8) : Int :=
  if l.length < 6 then 10 else if 4096 < fn l then 3 else if l.length - 6 < fn l then 10 else if fck l ≠ fsum l then 9 else 0
/-- Its payload; nothing, if something is wrong. -/
def fp (l : List UInt8) : List UInt8 := if fe l = 0 then fpay l else []
theorem fe_short {l : List UInt8} (h : l.length < 6) : fe l = 10 := by unfold fe; rw [if_pos h]
theorem fe_long {l : List UInt8} (h : 6 ≤ l.length) (h2 : 4096 < fn l) : fe l = 3 := by unfold fe; rw [if_neg (by omega), if_pos h2]
theorem fe_torn {l : List UInt8} (h : 6 ≤ l.length) (h2 : fn l ≤ 4096) (h3 : l.length - 6 < fn l) : fe l = 10 := by unfold fe; rw [if_neg (by omega), if_neg (by omega), if_pos h3]
theorem fe_sum {l : List UInt8} (h : 6 ≤ l.length) (h2 : fn l ≤ 4096) (h3 : fn l ≤ l.length - 6) (h4 : fck l ≠ fsum l) : fe l = 9 := by unfold fe; rw [if_neg (by omega), if_neg (by omega), if_neg (by omega), if_pos h4]
theorem fe_ok {l : List UInt8} (h : 6 ≤ l.length) (h2 : fn l ≤ 4096) (h3 : fn l ≤ l.length - 6) (h4 : fck l = fsum l) : fe l = 0 := by unfold fe; rw [if_neg (by omega), if_neg (by omega), if_neg (by omega), if_neg (by omega)]
theorem fp_bad {l : List UInt8} (h : fe l ≠ 0) : fp l = [] := by unfold fp; rw [if_neg h]
theorem fp_ok {l : List UInt8} (h : fe l = 0) : fp l = fpay l := by unfold fp; rw [if_pos h]
theorem fe_zero {l : List UInt8} (h : fe l = 0) : 6 ≤ l.length ∧ fn l ≤ 4096 ∧ fn l ≤ l.length - 6 ∧ fck l = fsum l := by
  unfold fe at h
  (repeat' split at h) <;> first | omega | (refine ⟨?_, ?_, ?_, ?_⟩ <;> first | omega | skip)
theorem fe_set (l : List UInt8) : fe l = 0 ∨ fe l = 3 ∨ fe l = 9 ∨ fe l = 10 := by
  unfold fe
  (repeat' split) <;> simp
theorem fpay_len {l : List UInt8} (h3 : fn l ≤ l.length - 6) : (fpay l).length = fn l := by
  unfold fpay; rw [List.length_take, List.length_drop]; omega
theorem fp_len (l : List UInt8) : (fp l).length ≤ 4096 := by
  by_cases h : fe l = 0
  · obtain ⟨h1, h2, h3, _⟩ := fe_zero h
    rw [fp_ok h, fpay_len h3]; exact h2
  · rw [fp_bad h]; simp
theorem fp_room {l : List UInt8} (h : fe l = 0) : 6 + (fp l).length ≤ l.length := by
  obtain ⟨h1, h2, h3, _⟩ := fe_zero h
  rw [fp_ok h, fpay_len h3]; omega
/-- The frame of a text. -/
def fhead (s : List UInt8) : List UInt8 := le 2 s.length ++ le 4 (upd 0 (le 2 s.length ++ s))
def frm (s : List UInt8) : List UInt8 := fhead s ++ s
theorem head_len (s : List UInt8) : (fhead s).length = 6 := by simp [fhead, le_length]
theorem frm_len (s : List UInt8) : (frm s).length = 6 + s.length := by simp [frm, head_len]
/-- What was read is the frame of the payload. -/
theorem frm_back {l : List UInt8} (h : fe l = 0) : l = frm (fp l) ++ l.drop (6 + (fp l).length) := by
  obtain ⟨h1, h2, h3, h4⟩ := fe_zero h
  rw [fp_ok h]
  have hp := fpay_len h3
  have e2 : le 2 (fpay l).length = l.take 2 := by
    rw [hp, fn]
    have := le_un (l.take 2)
    rwa [show (l.take 2).length = 2 from by rw [List.length_take]; omega] at this
  have e4 : le 4 (fsum l) = (l.drop 2).take 4 := by
    rw [fsum]
    have := le_un ((l.drop 2).take 4)
    rwa [show ((l.drop 2).take 4).length = 4 from by rw [List.length_take, List.length_drop]; omega] at this
  rw [frm, fhead, e2, show upd 0 (l.take 2 ++ fpay l) = fsum l from h4, e4, hp]
  conv => lhs; rw [← List.take_append_drop 2 l, ← List.take_append_drop 4 (l.drop 2), ← List.take_append_drop (fn l) ((l.drop 2).drop 4)]
  simp only [List.drop_drop, List.append_assoc, fpay]

/-- What All tells of bytes. -/
structure Res where
  l : List (List UInt8)
  used : Nat
  err : Int
def all (s : List UInt8) : Res :=
  if h : s = [] then ⟨[], 0, 0⟩
  else if fe s = 0 then ⟨fp s :: (all (s.drop (6 + (fp s).length))).l, 6 + (fp s).length + (all (s.drop (6 + (fp s).length))).used, (all (s.drop (6 + (fp s).length))).err⟩
  else ⟨[], 0, fe s⟩
termination_by s.length
decreasing_by
  all_goals
    have : 0 < s.length := List.length_pos_iff.2 h
    rw [List.length_drop]; omega
/-- What the range function goes through: payloads, and at last an error, if there is one. -/
structure Item where
  p : List UInt8
  e : Int
  hp : p.length ≤ 4096
def items (s : List UInt8) : List Item :=
  if h : s = [] then []
  else if fe s = 0 then ⟨fp s, 0, fp_len s⟩ :: items (s.drop (6 + (fp s).length))
  else [⟨[], fe s, by simp⟩]
termination_by s.length
decreasing_by
  have : 0 < s.length := List.length_pos_iff.2 h
  rw [List.length_drop]; omega
theorem items_nil : items [] = [] := by rw [items]; simp
theorem items_bad {s : List UInt8} (h : s ≠ []) (he : fe s ≠ 0) : items s = [⟨fp s, fe s, fp_len s⟩] := by
  rw [items, dif_neg h, if_neg he]; congr; exact (fp_bad he).symm
theorem items_ok {s : List UInt8} (he : fe s = 0) : items s = ⟨fp s, 0, fp_len s⟩ :: items (s.drop (6 + (fp s).length)) := by
  have h : s ≠ [] := by rintro rfl; have := fp_room he; simp at this
  rw [items, dif_neg h, if_pos he]
theorem items_first {s : List UInt8} (h : s ≠ []) : ∃ r, items s = ⟨fp s, fe s, fp_len s⟩ :: r := by
  by_cases he : fe s = 0
  · refine ⟨items (s.drop (6 + (fp s).length)), ?_⟩
    rw [items_ok he]
    congr 2
    exact he.symm
  · exact ⟨[], items_bad h he⟩
end Go.Proofs.YtgeaacabpnepmaaGreatDoor
/- Package frame's functions that make and take ONE frame, and the document's: one contract each. Conditions: the table of four steps lies in its variable; texts of 2^40 bytes at most. -/
namespace Go.Proofs.YtgeaacabpnepmaaGreatDoor
open Go.RowKit
set_option linter.unusedVariables false

theorem tab_b {w w' : World} {B : Nat} (h : Tab w) (hB : 1 < B) (hb : Below B w w') : Tab w' :=
  ⟨Nat.lt_of_lt_of_le h.1 hb.size, fun i hi => (hb.cell (p := ⟨1, i, none⟩) hB).trans (h.2 i hi)⟩
theorem below_on {w w1 w2 : World} {B : Nat} (h : Below B w w1) (k : w1.grownBy w2 none) (hB : B ≤ w1.heap.size) : Below B w w2 :=
  h.trans (grown_nb k (by simp) hB)
theorem ret_u32n {a b : Nat} (h : a = b) : Ending.returned (.int .u32 (a : Int)) = .returned (.int .u32 (b : Int)) := by rw [h]
theorem checksum (a b : List UInt8) (w : World) (ha : a.length ≤ maxLen) (hb : b.length ≤ maxLen) (ht : Tab w) :
    Calls Tryz.prog 230 #[.string (str a), .string (str b)] w fun E w' => E = .returned (.int .u32 ((upd 0 (a ++ b) : Nat) : Int)) ∧ w.grownBy w' none := by
  have HA := Lib.hid (upd_append 0 a b)
  have HU := Lib.hid (upd_lt' 0 a (by omega))
  have HT := Lib.hid ht
  clear ht
  go_enter Tryz.func230, Tryz.ntmps230
  go_wp2_with fail
  refine (sum a _ ha HT.out).mono ?_
  rintro E w1 ⟨rfl, hg1⟩
  have HT1 := Lib.hid (tab_grown HT.out hg1)
  have HG1 := Lib.hid hg1
  clear hg1
  go_wp2_with fail
  refine (update _ b _ HU.out hb HT1.out).mono ?_
  rintro E w2 ⟨rfl, hg2⟩
  go_wp2
  go_ret
  exact ⟨ret_u32n HA.out.symm, HG1.out.trans hg2⟩
theorem size_c (p : List UInt8) (w : World) (hp : p.length ≤ 1099511627776) :
    Calls Tryz.prog 278 #[.string (str p)] w fun E w' => E = .returned (.int .i64 ((6 + p.length : Nat) : Int)) ∧ w = w' := by
  have hs := str_size p
  have hc : ((6 + p.length : Nat) : Int) = 6 + (p.length : Int) := by omega
  rw [hc]
  go_enter Tryz.func278, Tryz.ntmps278
  go_wp2
  go_ret
  exact ⟨rfl, rfl⟩
/-- What Put gives: the frame, or nothing; the error. -/
def putS (s : List UInt8) : List UInt8 := if s.length ≤ 4096 then frm s else []
def putE (s : List UInt8) : Int := if s.length ≤ 4096 then 0 else 3
theorem fput_c (s : List UInt8) (w : World) (hs : s.length ≤ maxLen) (ht : Tab w) :
    Calls Tryz.prog 197 #[.string (str s)] w fun E w' => E = .returned (.tuple #[.string (str (putS s)), .int .i64 (putE s)]) ∧ w.grownBy w' none := by
  have hsz := str_size s
  have HS := Lib.hid hs
  unfold maxLen at hs
  by_cases h : s.length ≤ 4096
  · rw [show putS s = frm s from by rw [putS, if_pos h], show putE s = 0 from by rw [putE, if_pos h]]
    have HT := Lib.hid (tab_grown ht (World.grownBy_alloc w (.cells #[.slice none 0 0] 272) none))
    have HP := Lib.hid ht.1
    clear ht hs
    have hhl := head_len s
    have hap := str_append (fhead s) s
    have hs1 := str_size (fhead s)
    have HN := Lib.hid (wr_new w)
    have H0 := Lib.hid (show ([] : List UInt8) ++ le 2 s.length = le 2 s.length from rfl)
    have HU := Lib.hid (upd_lt' 0 (le 2 s.length ++ s) (by omega))
    have HH : Hid (le 2 s.length ++ le 4 (upd 0 (le 2 s.length ++ s)) = fhead s) := rfl
    have HF : Hid (fhead s ++ s = frm s) := rfl
    have HL := Lib.hid (le_length 2 s.length)
    go_enter Tryz.func197, Tryz.ntmps197
    go_wp2_with fail
    refine (wrU16 w.heap.size s.length [] _ HN.out (by simp) (by omega)).mono ?_
    rintro E w1 ⟨rfl, hw1, hb1⟩
    rw [H0.out] at hw1
    have HB1 := Lib.hid (((Below.refl w.heap.size w).alloc (Nat.le_refl _) _).trans hb1)
    have HT1 := Lib.hid (tab_b HT.out HP.out hb1)
    have hgl1 := Lib.hid (wr_lt hw1)
    clear hb1
    go_wp2_with fail
    refine (wrBytes _ _ _ hw1).mono ?_
    rintro E w2 ⟨rfl, rfl⟩
    go_wp2_with fail
    refine (checksum _ s _ (by rw [HL.out]; decide) HS.out HT1.out).mono ?_
    rintro E w2 ⟨rfl, hg2⟩
    have hw2 := wr_on0 hw1 hg2
    have HB2 := Lib.hid (below_on HB1.out hg2 (Nat.le_of_lt hgl1.out))
    clear hg2 hw1
    go_wp2_with fail
    refine (wrU32 w.heap.size _ _ _ hw2 (by rw [HL.out]; omega) HU.out).mono ?_
    rintro E w3 ⟨rfl, hw3, hb3⟩
    rw [HH.out] at hw3
    have HB3 := Lib.hid (HB2.out.trans hb3)
    clear hb3 hw2
    go_wp2_with fail
    refine (wrBytes _ _ _ hw3).mono ?_
    rintro E w4 ⟨rfl, rfl⟩
    rw [HF.out] at hap
    go_wp2
    go_ret2
    exact ⟨rfl, grown_of_below HB3.out⟩
  · rw [show putS s = [] from by rw [putS, if_neg h], show putE s = 3 from by rw [putE, if_neg h]]
    go_enter Tryz.func197, Tryz.ntmps197
    go_wp2
    go_ret2
    exact ⟨rfl, grown_refl _ _⟩
/-- What the reader tells of a frame's fhead. -/
theorem rd_short {s : List UInt8} (h : s.length < 6) : fin (fin 0 (num 2 s).err) (num 4 (num 2 s).rest).err = 10 := by
  by_cases h2 : 2 ≤ s.length
  · have e : num 2 s = ⟨0, un (s.take 2), s.drop 2⟩ := by unfold num; rw [if_pos h2]
    rw [e]
    have e4 : num 4 (s.drop 2) = ⟨10, 0, []⟩ := by unfold num; rw [if_neg (by rw [List.length_drop]; omega)]
    simp [e4, fin]
  · have e : num 2 s = ⟨10, 0, []⟩ := by unfold num; rw [if_neg h2]
    rw [e]
    simp [fin]
theorem rd_long {s : List UInt8} (h : 6 ≤ s.length) : num 2 s = ⟨0, fn s, s.drop 2⟩ ∧ num 4 (s.drop 2) = ⟨0, fsum s, s.drop 6⟩ := by
  refine ⟨by unfold num; rw [if_pos (by omega)]; rfl, ?_⟩
  unfold num
  rw [if_pos (by rw [List.length_drop]; omega), List.drop_drop]; rfl
theorem un2_lt (s : List UInt8) : un (s.take 2) < 65536 := by
  have h1 := un_lt (s.take 2)
  have h2 : 256 ^ (s.take 2).length ≤ 256 ^ 2 := Nat.pow_le_pow_right (by omega) (by rw [List.length_take]; omega)
  omega
theorem two_first {s p : List UInt8} {e : Int} (h : fe s = e ∧ fp s = p) : Ending.returned (.tuple #[.string (str p), .int .i64 e]) = Ending.returned (.tuple #[.string (str (fp s)), .int .i64 (fe s)]) := by rw [h.1, h.2]
theorem num2_lt (s : List UInt8) : (num 2 s).val < 65536 := by
  unfold num
  split
  · exact un2_lt s
  · show 0 < 65536; omega
theorem drew_grown {w w' : World} {r : Option Nat} (h : w.drew.grownBy w' r) : w.grownBy w' r := ⟨h.os, h.tape, h.output, h.size, h.block⟩
theorem grown_new {w w1 w2 : World} {g : Nat} (h : w.grownBy w1 none) (k : w1.grownBy w2 (some g)) (hg : w.heap.size ≤ g) : w.grownBy w2 none :=
  grown_of_below ((below_of_grown h).grown k h.size (fun k e => by cases e; exact hg))
set_option maxHeartbeats 1000000 in
theorem ffirst_c (s : List UInt8) (w : World) (hs : s.length ≤ 1099511627776) (ht : Tab w) :
    Calls Tryz.prog 305 #[.string (str s)] w fun E w' => E = .returned (.tuple #[.string (str (fp s)), .int .i64 (fe s)]) ∧ w.grownBy w' none := by
  have HT := Lib.hid ht
  clear ht
  by_cases h6 : s.length < 6
  · have he := fe_short h6
    have hp : fp s = [] := fp_bad (by rw [he]; decide)
    rw [he, hp]
    have HE := Lib.hid (rd_short h6)
    have hv := num2_lt s
    clear he hp
    go_enter Tryz.func305, Tryz.ntmps305
    go_wp2_with fail
    refine (rdNew s _ hs).mono ?_
    rintro E w1 ⟨rfl, hr1, hg1, hz1⟩
    have HG1 := Lib.hid hg1
    clear hg1
    go_wp2_with fail
    refine (rdU16 _ _ _ _ hr1).mono ?_
    rintro E w2 ⟨rfl, hr2, hg2⟩
    have HG2 := Lib.hid hg2
    clear hg2 hr1
    go_wp2_with fail
    refine (rdU32 _ _ _ _ hr2).mono ?_
    rintro E w3 ⟨rfl, hr3, hg3⟩
    have HG3 := Lib.hid hg3
    rw [HE.out] at hr3
    clear hg3 hr2
    go_wp2_with fail
    refine (rdRest _ _ _ _ hr3).mono ?_
    rintro E w4 ⟨rfl, rfl⟩
    go_wp2_with fail
    refine (rdErr _ _ _ _ hr3).mono ?_
    rintro E w4 ⟨rfl, rfl⟩
    go_wp2_with fail
    refine (rdErr _ _ _ _ hr3).mono ?_
    rintro E w4 ⟨rfl, rfl⟩
    go_wp2
    go_ret2
    exact ⟨rfl, grown_new (grown_new HG1.out HG2.out (Nat.le_refl _)) HG3.out (Nat.le_refl _)⟩
  · obtain ⟨e2, e4⟩ := rd_long (s := s) (by omega)
    have hn2 : fn s < 65536 := un2_lt s
    have hd := List.length_drop (i := 6) (l := s)
    have hsz := str_size (s.drop 6)
    have hss := str_size s
    have hst := str_cut s 2
    have hpt : (str (s.drop 6)).extract 0 (fn s) = str (fpay s) := str_cut _ _
    have H6 := Lib.hid (Nat.le_of_not_lt h6)
    have E2 := Lib.hid e2
    have E4 := Lib.hid e4
    clear e2 e4
    go_enter Tryz.func305, Tryz.ntmps305
    go_wp2_with fail
    refine (rdNew s _ hs).mono ?_
    rintro E w1 ⟨rfl, hr1, hg1, hz1⟩
    have HG1 := Lib.hid hg1
    clear hg1
    go_wp2_with fail
    refine (rdU16 _ _ _ _ hr1).mono ?_
    rintro E w2 ⟨rfl, hr2, hg2⟩
    rw [E2.out] at hr2
    rw [E2.out]
    have HG2 := Lib.hid hg2
    clear hg2 hr1
    go_wp2_with fail
    refine (rdU32 _ _ _ _ hr2).mono ?_
    rintro E w3 ⟨rfl, hr3, hg3⟩
    rw [E4.out] at hr3
    rw [E4.out]
    have HG3 := Lib.hid hg3
    clear hg3 hr2
    have hr4 : Rd w3 w.heap.size (s.drop 6) 0 := hr3
    clear hr3
    go_wp2_with fail
    refine (rdRest _ _ _ _ hr4).mono ?_
    rintro E w4 ⟨rfl, rfl⟩
    go_wp2_with fail
    refine (rdErr _ _ _ _ hr4).mono ?_
    rintro E w4 ⟨rfl, rfl⟩
    have HG : Hid (w.grownBy w3 none) := Lib.hid (grown_new (grown_new HG1.out HG2.out (Nat.le_refl _)) HG3.out (Nat.le_refl _))
    have HT3 := Lib.hid (tab_grown HT.out HG.out)
    rw [hd] at hsz
    clear hd
    have h6 := H6.out
    by_cases hbig : 4096 < fn s
    · have he := fe_long H6.out hbig
      have HE : Hid (fe s = 3 ∧ fp s = []) := ⟨he, fp_bad (by rw [he]; decide)⟩
      clear he
      go_wp2
      go_ret2
      exact ⟨two_first HE.out, HG.out⟩
    · have hle : fn s ≤ 4096 := by omega
      by_cases htorn : s.length - 6 < fn s
      · have he := fe_torn H6.out hle htorn
        have HE : Hid (fe s = 10 ∧ fp s = []) := ⟨he, fp_bad (by rw [he]; decide)⟩
        clear he
        go_wp2
        go_ret2
        exact ⟨two_first HE.out, HG.out⟩
      · have hroom : fn s ≤ s.length - 6 := by omega
        have hpl := fpay_len hroom
        have hck : fck s = upd 0 (s.take 2 ++ fpay s) := rfl
        have HCK := Lib.hid hck
        clear hck
        have h2l : (s.take 2).length ≤ 2 := by rw [List.length_take]; omega
        have H2L := Lib.hid h2l
        clear h2l
        have HC := Lib.hid (checksum (s.take 2) (fpay s) w3.drew (by have := H2L.out; unfold maxLen; omega) (by unfold maxLen; omega) HT3.out)
        have i2 : (2 : Int) ≤ (s.length : Int) := by omega
        have i3 : (fn s : Int) ≤ ((s.length - 6 : Nat) : Int) := by omega
        rw [← HCK.out] at HC
        by_cases hsum : fck s = fsum s
        · have he := fe_ok H6.out hle hroom hsum
          have HE : Hid (fe s = 0 ∧ fp s = fpay s) := ⟨he, fp_ok he⟩
          clear he
          rw [hsum] at HC
          clear hsum
          go_wp2
          go_region_held3 (fun w' => Tab w') (first | assumption | exact HT3.out) (first | (go_at_call 230; refine HC.out.mono ?_; rintro E w4 ⟨rfl, hg4⟩; have hg5 := drew_grown hg4; have hT4 := tab_grown HT3.out hg5))
          go_wp2
          go_ret2
          exact ⟨two_first HE.out, HG.out.trans hg5⟩
        · have he := fe_sum H6.out hle hroom hsum
          have HE : Hid (fe s = 9 ∧ fp s = []) := ⟨he, fp_bad (by rw [he]; decide)⟩
          have hb : (((fck s : Nat) : Int) == ((fsum s : Nat) : Int)) = false := beq_eq_false_iff_ne.2 (by omega)
          clear he
          go_wp2
          go_region_held3 (fun w' => Tab w') (first | assumption | exact HT3.out) (first | (go_at_call 230; refine HC.out.mono ?_; rintro E w4 ⟨rfl, hg4⟩; have hg5 := drew_grown hg4; have hT4 := tab_grown HT3.out hg5))
          go_wp2
          go_ret2
          exact ⟨two_first HE.out, HG.out.trans hg5⟩
end Go.Proofs.YtgeaacabpnepmaaGreatDoor
/- The document's functions that make and take ONE frame: one contract each. -/
namespace Go.Proofs.YtgeaacabpnepmaaGreatDoor
open Go.RowKit
set_option linter.unusedVariables false

/-- How many bytes the first frame takes. -/
def fu (s : List UInt8) : Nat := if fe s = 0 then 6 + (fp s).length else 0
theorem fu_bad {s : List UInt8} {e : Int} (h : fe s = e) (he : e ≠ 0) : fe s = e ∧ fp s = [] ∧ fu s = 0 := by
  subst h; exact ⟨rfl, fp_bad he, by rw [fu, if_neg he]⟩
theorem str_toList (a : List UInt8) : (str a).toList = a := by rw [ByteArray.toList_eq]; simp [str]
end Go.Proofs.YtgeaacabpnepmaaGreatDoor
/- A segment's records one behind the other: what they say so far, which go on and agree, and what bytes begin with: the plain mathematics of layer 16. Nothing of the program. -/
namespace Go.Proofs.YtgeaacabpnepmaaGreatDoor
open Go.RowKit
set_option linter.unusedVariables false
set_option linter.unusedSimpArgs false

/-- What records say so far: is there a Head, the Head, the others, count, owned. -/
structure Sg where
  b : Bool
  h : Rc
  l : List Rc
  c : Nat
  o : Nat
def sg0 : Sg := ⟨false, rz, [], 0, 0⟩
/-- The own input of a frame. -/
def inp (l : List Rc) (f : Nat) : Nat := l.foldl (fun i r => if r.k = 1 ∧ r.f = f then r.o else i) 0
theorem inp_snoc (l : List Rc) (r : Rc) (f : Nat) : inp (l ++ [r]) f = if r.k = 1 ∧ r.f = f then r.o else inp l f := by simp [inp]
def side (r : Rc) (y : Nat) : Nat := if y = 0 then r.p else r.q
/-- What is wrong with a record behind those. -/
def tkS (n : Nat) (x : Sg) (r : Rc) : Int :=
  if r.k = 3 then (if x.b = true ∨ r.s ≠ n then 11 else 0)
  else if x.b = false then 11
  else if r.k = 1 then (if r.f ≠ x.o ∨ 12 ≤ x.o - x.c ∨ r.f = 18446744073709551615 then 11 else 0)
  else if r.f ≠ x.c ∨ x.o ≤ x.c then 11
  else if side r x.h.y ≠ inp x.l r.f then 14 else 0
def adS (x : Sg) (r : Rc) : Sg :=
  if r.k = 3 then ⟨true, r, x.l, r.i, r.i⟩ else if r.k = 1 then ⟨x.b, x.h, x.l ++ [r], x.c, x.o + 1⟩ else ⟨x.b, x.h, x.l ++ [r], x.c + 1, x.o⟩
/-- What holds of them all the way. -/
structure Okg (n : Nat) (x : Sg) : Prop where
  hb : x.b = true → x.h.k = 3 ∧ x.h.y < 2 ∧ x.h.s = n ∧ mayB x.h = true
  nb : x.b = false → x.h = rz ∧ x.l = [] ∧ x.c = 0 ∧ x.o = 0
  co : x.c ≤ x.o
  oc : x.o ≤ x.c + 12
  o64 : x.o < 18446744073709551616
  hf : x.h.fit
  lf : ∀ r ∈ x.l, r.fit ∧ mayB r = true ∧ (r.k = 1 ∨ r.k = 2)
theorem rz_fit : rz.fit := ⟨by decide, by decide, by decide, by decide, by decide, by decide, by decide, by decide, by decide, by decide⟩
theorem okg0 (n : Nat) : Okg n sg0 := ⟨fun h => (by cases h), fun _ => ⟨rfl, rfl, rfl, rfl⟩, Nat.le_refl _, by decide, by decide, rz_fit, fun r h => (by cases h)⟩
theorem may_k {r : Rc} (h : mayB r = true) : r.k = 1 ∨ r.k = 2 ∨ r.k = 3 := by
  unfold mayB at h
  rw [Bool.and_eq_true] at h
  obtain ⟨_, h⟩ := h
  split at h
  · exact .inl (by assumption)
  · split at h
    · exact .inr (.inl (by assumption))
    · split at h
      · exact .inr (.inr (by assumption))
      · cases h
theorem may_low {r : Rc} (h : mayB r = true) : r.o < 64 ∧ r.p < 64 ∧ r.q < 64 ∧ r.y < 2 := by
  unfold mayB at h
  rw [Bool.and_eq_true] at h
  simpa [lowB] using h.1
theorem okg_ad {n : Nat} {x : Sg} {r : Rc} (h : Okg n x) (hf : r.fit) (hm : mayB r = true) (h0 : tkS n x r = 0) : Okg n (adS x r) := by
  have hk := may_k hm
  have hl := may_low hm
  unfold tkS at h0
  unfold adS
  by_cases k3 : r.k = 3
  · rw [if_pos k3] at h0 ⊢
    split at h0
    · cases h0
    · rename_i hn
      have hx : x.b = false := by cases hx : x.b <;> simp_all
      have hs : r.s = n := by rcases Nat.decEq r.s n with h1 | h1; exact absurd (.inr h1) hn; exact h1
      obtain ⟨_, hl0, _, _⟩ := h.nb hx
      exact ⟨fun _ => ⟨k3, hl.2.2.2, hs, hm⟩, fun h => (by cases h), Nat.le_refl _, by show r.i ≤ r.i + 12; omega, hf.i, hf, fun r' hr => (by rw [hl0] at hr; cases hr)⟩
  · rw [if_neg k3] at h0 ⊢
    split at h0
    · cases h0
    · rename_i hb
      have hx : x.b = true := by cases hx : x.b <;> simp_all
      by_cases k1 : r.k = 1
      · rw [if_pos k1] at h0 ⊢
        split at h0
        · cases h0
        · rename_i hn
          have h1 : r.f = x.o ∧ x.o - x.c < 12 ∧ r.f ≠ 18446744073709551615 := by omega
          have := hf.f
          have := h.co
          refine ⟨h.hb, fun h => (by rw [hx] at h; cases h), by show x.c ≤ x.o + 1; omega, by show x.o + 1 ≤ x.c + 12; omega, by show x.o + 1 < _; omega, h.hf, fun r' hr => ?_⟩
          rcases List.mem_append.1 hr with hr | hr
          · exact h.lf r' hr
          · rw [List.mem_singleton] at hr; subst hr; exact ⟨hf, hm, .inl k1⟩
      · rw [if_neg k1] at h0 ⊢
        split at h0
        · cases h0
        · rename_i hn
          have h1 : r.f = x.c ∧ x.c < x.o := by omega
          have := h.oc
          refine ⟨h.hb, fun h => (by rw [hx] at h; cases h), by show x.c + 1 ≤ x.o; omega, by show x.o ≤ x.c + 1 + 12; omega, h.o64, h.hf, fun r' hr => ?_⟩
          rcases List.mem_append.1 hr with hr | hr
          · exact h.lf r' hr
          · rw [List.mem_singleton] at hr; subst hr; exact ⟨hf, hm, .inr (by omega)⟩
/-- The program's own inputs, each at its frame's remainder: those that may be asked for are right. -/
def Inps (x : Sg) (v : List Nat) : Prop := v.length = 12 ∧ ∀ f, x.c ≤ f → f < x.o → v[f % 12]? = some (inp x.l f)
theorem inps0 : Inps sg0 (List.replicate 12 0) := ⟨by simp, fun f h1 h2 => absurd h2 (by show ¬ f < 0; omega)⟩
theorem inps_ad {n : Nat} {x : Sg} {r : Rc} {v : List Nat} (h : Okg n x) (hv : Inps x v) (hm : mayB r = true) (h0 : tkS n x r = 0) :
    (r.k = 1 → Inps (adS x r) (v.set (r.f % 12) r.o)) ∧ (r.k ≠ 1 → Inps (adS x r) v) := by
  unfold tkS at h0
  unfold adS
  by_cases k3 : r.k = 3
  · rw [if_pos k3]
    refine ⟨fun h => (by omega), fun _ => ⟨hv.1, fun f h1 h2 => ?_⟩⟩
    have h1 : r.i ≤ f := h1
    have h2 : f < r.i := h2
    omega
  · rw [if_neg k3] at h0 ⊢
    split at h0
    · cases h0
    · by_cases k1 : r.k = 1
      · rw [if_pos k1] at h0 ⊢
        refine ⟨fun _ => ?_, fun h => absurd k1 h⟩
        split at h0
        · cases h0
        · have h1 : r.f = x.o ∧ x.o - x.c < 12 ∧ r.f ≠ 18446744073709551615 := by omega
          refine ⟨by rw [List.length_set]; exact hv.1, fun f h2 h3 => ?_⟩
          have h2 : x.c ≤ f := h2
          have h3 : f < x.o + 1 := h3
          show _ = some (inp (x.l ++ [r]) f)
          rw [inp_snoc, List.getElem?_set, hv.1]
          by_cases he : f = r.f
          · subst he
            rw [if_pos rfl, if_pos (by omega), if_pos ⟨k1, rfl⟩]
          · rw [if_neg (by omega), if_neg (fun h => he h.2.symm)]
            exact hv.2 f h2 (by omega)
      · rw [if_neg k1] at h0 ⊢
        refine ⟨fun h => absurd h k1, fun _ => ⟨hv.1, fun f h2 h3 => ?_⟩⟩
        have h2 : x.c + 1 ≤ f := h2
        have h3 : f < x.o := h3
        show _ = some (inp (x.l ++ [r]) f)
        rw [inp_snoc, if_neg (fun h => k1 h.1)]
        exact hv.2 f (by omega) h3

/-- What Scan tells from where it is: what the records say, how many bytes they are, what ends them. -/
structure Sc where
  x : Sg
  a : Nat
  e : Int
def scn (n : Nat) (x : Sg) (a : Nat) (s : List UInt8) : Sc :=
  if s = [] ∧ x.b = true then ⟨x, a, 0⟩
  else if h : fe s = 0 then
    if (tkR (fp s)).1 = 0 then
      if tkS n x (tkR (fp s)).2 = 0 then scn n (adS x (tkR (fp s)).2) (a + (6 + (fp s).length)) (s.drop (6 + (fp s).length))
      else ⟨x, a, tkS n x (tkR (fp s)).2⟩
    else ⟨x, a, (tkR (fp s)).1⟩
  else ⟨x, a, fe s⟩
termination_by s.length
decreasing_by
  have := fp_room h
  rw [List.length_drop]; omega
theorem scn_end {n : Nat} {x : Sg} {a : Nat} (h : x.b = true) : scn n x a [] = ⟨x, a, 0⟩ := by rw [scn]; rw [if_pos ⟨rfl, h⟩]
theorem scn_fe {n : Nat} {x : Sg} {a : Nat} {s : List UInt8} (h : ¬ (s = [] ∧ x.b = true)) (he : fe s ≠ 0) : scn n x a s = ⟨x, a, fe s⟩ := by rw [scn]; rw [if_neg h, dif_neg he]
theorem fe_ne {s : List UInt8} (he : fe s = 0) : s ≠ [] := by rintro rfl; have := fp_room he; simp at this
theorem scn_tk {n : Nat} {x : Sg} {a : Nat} {s : List UInt8} (he : fe s = 0) (h2 : (tkR (fp s)).1 ≠ 0) : scn n x a s = ⟨x, a, (tkR (fp s)).1⟩ := by
  rw [scn]; rw [if_neg (fun h => fe_ne he h.1), dif_pos he, if_neg h2]
theorem scn_no {n : Nat} {x : Sg} {a : Nat} {s : List UInt8} (he : fe s = 0) (h2 : (tkR (fp s)).1 = 0) (h3 : tkS n x (tkR (fp s)).2 ≠ 0) : scn n x a s = ⟨x, a, tkS n x (tkR (fp s)).2⟩ := by
  rw [scn]; rw [if_neg (fun h => fe_ne he h.1), dif_pos he, if_pos h2, if_neg h3]
theorem scn_go {n : Nat} {x : Sg} {a : Nat} {s : List UInt8} (he : fe s = 0) (h2 : (tkR (fp s)).1 = 0) (h3 : tkS n x (tkR (fp s)).2 = 0) : scn n x a s = scn n (adS x (tkR (fp s)).2) (a + (6 + (fp s).length)) (s.drop (6 + (fp s).length)) := by
  rw [scn]; rw [if_neg (fun h => fe_ne he h.1), dif_pos he, if_pos h2, if_pos h3]
theorem adS_b {n : Nat} {x : Sg} {r : Rc} (h0 : tkS n x r = 0) : (adS x r).b = true := by
  unfold tkS at h0
  unfold adS
  by_cases k3 : r.k = 3
  · rw [if_pos k3]
  · rw [if_neg k3] at h0 ⊢
    split at h0
    · cases h0
    · have hx : x.b = true := by cases hx : x.b <;> simp_all
      split <;> exact hx

/-! The bytes of records. -/
def byR (r : Rc) : List UInt8 := frm (encR r)
def bys (l : List Rc) : List UInt8 := (l.map byR).flatten
theorem byR_len (r : Rc) : (byR r).length = 6 + (encR r).length := frm_len _
theorem byR_lo (r : Rc) : 6 ≤ (byR r).length := by rw [byR_len]; omega
theorem byR_hi (r : Rc) : (byR r).length ≤ 32 := by rw [byR_len]; have := encR_len r; omega
theorem bys_cons (r : Rc) (l : List Rc) : bys (r :: l) = byR r ++ bys l := rfl
theorem bys_len (l : List Rc) : (bys l).length ≤ 32 * l.length := by
  induction l with
  | nil => simp [bys]
  | cons r l ih => rw [bys_cons, List.length_append, List.length_cons]; have := byR_hi r; omega
/-- What was read is the bytes of the records. -/
theorem fe_one {s : List UInt8} (he : fe s = 0) (h2 : (tkR (fp s)).1 = 0) : s = byR (tkR (fp s)).2 ++ s.drop (6 + (fp s).length) ∧ (byR (tkR (fp s)).2).length = 6 + (fp s).length := by
  have e := (tkR_one h2).2
  have := frm_back he
  refine ⟨?_, ?_⟩
  · unfold byR; rw [e]; exact this
  · rw [byR_len, e]
/-- Records that go on and agree. -/
def runS (x : Sg) (l : List Rc) : Sg := l.foldl adS x
theorem runS_cons (x : Sg) (r : Rc) (l : List Rc) : runS x (r :: l) = runS (adS x r) l := rfl
def Goes (n : Nat) : Sg → List Rc → Prop
  | _, [] => True
  | x, r :: l => r.fit ∧ mayB r = true ∧ tkS n x r = 0 ∧ Goes n (adS x r) l
theorem runS_b {n : Nat} : ∀ {l : List Rc} {x : Sg}, Goes n x l → l ≠ [] → (runS x l).b = true
  | [r], x, ⟨h1, h2, h3, h4⟩, _ => adS_b h3
  | r :: s :: l, x, ⟨h1, h2, h3, h4⟩, _ => runS_b (l := s :: l) h4 (by simp)
/-- How many are whole. -/
def whole : List Rc → Nat → Nat
  | [], _ => 0
  | r :: l, k => if (byR r).length ≤ k then whole l (k - (byR r).length) + 1 else 0
/-- What is read of any bytes goes on, and its bytes are the first ones. -/
theorem scn_told (n : Nat) : ∀ (m : Nat) (s : List UInt8) (x : Sg) (a : Nat), s.length ≤ m → Okg n x → ∃ l, Goes n x l ∧ scn n x a s = ⟨runS x l, a + (bys l).length, (scn n x a s).e⟩ ∧ (bys l) <+: s
  | 0, s, x, a, hm, hx => by
    obtain rfl : s = [] := List.eq_nil_of_length_eq_zero (by omega)
    refine ⟨[], trivial, ?_, List.nil_prefix⟩
    by_cases hb : x.b = true
    · rw [scn_end hb]; rfl
    · rw [scn_fe (fun h => hb h.2) (by rw [fe_short (by simp)]; decide)]; rfl
  | m + 1, s, x, a, hm, hx => by
    by_cases h : s = [] ∧ x.b = true
    · obtain ⟨rfl, hb⟩ := h
      exact ⟨[], trivial, by rw [scn_end hb]; rfl, List.nil_prefix⟩
    · by_cases he : fe s = 0
      · by_cases h2 : (tkR (fp s)).1 = 0
        · by_cases h3 : tkS n x (tkR (fp s)).2 = 0
          · have hr := fp_room he
            have hf := tkR_fit (fp s)
            have hmm := (tkR_one h2).1
            obtain ⟨l, g1, g2, g3⟩ := scn_told n m (s.drop (6 + (fp s).length)) (adS x (tkR (fp s)).2) (a + (6 + (fp s).length)) (by rw [List.length_drop]; omega) (okg_ad hx hf hmm h3)
            obtain ⟨e1, e2⟩ := fe_one he h2
            refine ⟨(tkR (fp s)).2 :: l, ⟨hf, hmm, h3, g1⟩, ?_, ?_⟩
            · rw [scn_go he h2 h3]
              conv => lhs; rw [g2]
              rw [runS_cons, bys_cons, List.length_append, e2, Nat.add_assoc]
            · rw [bys_cons]
              conv => rhs; rw [e1]
              exact (List.prefix_append_right_inj _).2 g3
          · exact ⟨[], trivial, by rw [scn_no he h2 h3]; rfl, List.nil_prefix⟩
        · exact ⟨[], trivial, by rw [scn_tk he h2]; rfl, List.nil_prefix⟩
      · exact ⟨[], trivial, by rw [scn_fe h he]; rfl, List.nil_prefix⟩
/-- The records themselves. -/
theorem runS_l {n : Nat} : ∀ {l : List Rc} {x : Sg}, Goes n x l → x.b = true → (runS x l).h = x.h ∧ (runS x l).l = x.l ++ l
  | [], x, _, _ => ⟨rfl, by simp [runS]⟩
  | r :: l, x, ⟨h1, h2, h3, h4⟩, hb => by
    have k3 : r.k ≠ 3 := by
      intro k3
      unfold tkS at h3
      rw [if_pos k3, if_pos (.inl hb)] at h3
      cases h3
    have e : (adS x r).h = x.h ∧ (adS x r).l = x.l ++ [r] ∧ (adS x r).b = true := by
      unfold adS
      rw [if_neg k3]
      split <;> exact ⟨rfl, rfl, hb⟩
    obtain ⟨g1, g2⟩ := runS_l h4 e.2.2
    rw [runS_cons, g1, g2, e.1, e.2.1]
    exact ⟨rfl, by simp⟩
theorem goes_head {n : Nat} {r : Rc} {l : List Rc} (h : Goes n sg0 (r :: l)) : r.k = 3 ∧ adS sg0 r = ⟨true, r, [], r.i, r.i⟩ := by
  obtain ⟨h1, h2, h3, h4⟩ := h
  have k3 : r.k = 3 := by
    rcases Int.decEq r.k 3 with k3 | k3
    · unfold tkS at h3
      rw [if_neg k3, if_pos (show sg0.b = false from rfl)] at h3
      cases h3
    · exact k3
  exact ⟨k3, by unfold adS; rw [if_pos k3]; rfl⟩
theorem runS_told {n : Nat} {r : Rc} {l : List Rc} (h : Goes n sg0 (r :: l)) : (runS sg0 (r :: l)).h = r ∧ (runS sg0 (r :: l)).l = l ∧ (runS sg0 (r :: l)).b = true := by
  obtain ⟨k3, e⟩ := goes_head h
  obtain ⟨h1, h2, h3, h4⟩ := h
  rw [e] at h4
  obtain ⟨g1, g2⟩ := runS_l h4 rfl
  rw [runS_cons, e]
  refine ⟨g1, by simpa using g2, ?_⟩
  cases l with
  | nil => rfl
  | cons a l => exact runS_b h4 (by simp)
end Go.Proofs.YtgeaacabpnepmaaGreatDoor
