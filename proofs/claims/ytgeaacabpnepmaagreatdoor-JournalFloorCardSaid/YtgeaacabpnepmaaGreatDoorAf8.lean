/- Texts of the walk. -/
import Derived.Test.YtgeaacabpnepmaaGreatDoorAa8
import Derived.Test.YtgeaacabpnepmaaGreatDoorAd8
import Derived.Test.YtgeaacabpnepmaaGreatDoorAb8
import Derived.Deep.RegionHeld3
import Derived.BigQuiet
/- Records: their fields, which of them may be, their bytes, and how bytes are read: the plain mathematics of layer 15. Nothing of the program. -/
namespace Go.Proofs.YtgeaacabpnepmaaGreatDoor
open Go.RowKit
set_option linter.unusedVariables false
set_option linter.unusedSimpArgs false

structure Rc where
  k : Int
  f : Nat
  o : Nat
  p : Nat
  q : Nat
  s : Nat
  i : Nat
  e : Nat
  y : Nat
def rcs (r : Rc) : Array Value := #[.int .i64 r.k, .int .u64 (r.f : Int), .int .u8 (r.o : Int), .int .u8 (r.p : Int), .int .u8 (r.q : Int), .int .u64 (r.s : Int), .int .u64 (r.i : Int), .int .u64 (r.e : Int), .int .u8 (r.y : Int)]
def rz : Rc := ⟨0, 0, 0, 0, 0, 0, 0, 0, 0⟩
theorem rc_eq {a b : Rc} : a = b ↔ a.k = b.k ∧ a.f = b.f ∧ a.o = b.o ∧ a.p = b.p ∧ a.q = b.q ∧ a.s = b.s ∧ a.i = b.i ∧ a.e = b.e ∧ a.y = b.y := by
  obtain ⟨a0, a1, a2, a3, a4, a5, a6, a7, a8⟩ := a
  obtain ⟨b0, b1, b2, b3, b4, b5, b6, b7, b8⟩ := b
  simp
structure Rc.fit (r : Rc) : Prop where
  k0 : -9223372036854775808 ≤ r.k
  k1 : r.k ≤ 9223372036854775807
  f : r.f < 18446744073709551616
  o : r.o < 256
  p : r.p < 256
  q : r.q < 256
  s : r.s < 18446744073709551616
  i : r.i < 18446744073709551616
  e : r.e < 18446744073709551616
  y : r.y < 256
def reB (a b : Rc) : Bool := (a.k == b.k) && (((a.f : Int) == (b.f : Int)) && (((a.o : Int) == (b.o : Int)) && (((a.p : Int) == (b.p : Int)) && (((a.q : Int) == (b.q : Int)) && (((a.s : Int) == (b.s : Int)) && (((a.i : Int) == (b.i : Int)) && (((a.e : Int) == (b.e : Int)) && ((a.y : Int) == (b.y : Int)))))))))
theorem reB_iff {a b : Rc} : reB a b = true ↔ a = b := by
  rw [rc_eq]
  simp [reB]
  intro _
  omega
theorem reB_self (a : Rc) : reB a a = true := reB_iff.2 rfl
theorem reB_not {a b : Rc} (h : a ≠ b) : reB a b = false := by
  cases e : reB a b with
  | false => rfl
  | true => exact absurd (reB_iff.1 e) h
def lowB (r : Rc) : Bool := decide (r.o < 64) && (decide (r.p < 64) && (decide (r.q < 64) && decide (r.y < 2)))
def mayB (r : Rc) : Bool := lowB r && (if r.k = 1 then decide (r.p = 0 ∧ r.q = 0 ∧ r.s = 0 ∧ r.i = 0 ∧ r.e = 0 ∧ r.y = 0) else if r.k = 2 then decide (r.o = 0 ∧ r.s = 0 ∧ r.i = 0 ∧ r.e = 0 ∧ r.y = 0) else if r.k = 3 then decide (r.f = 0 ∧ r.o = 0 ∧ r.p = 0 ∧ r.q = 0) else false)
def encK (r : Rc) : List UInt8 := if r.k = 1 then le 8 r.f ++ le 1 r.o else if r.k = 2 then le 8 r.f ++ le 1 r.p ++ le 1 r.q else if r.k = 3 then le 8 r.s ++ le 8 r.i ++ le 8 r.e ++ le 1 r.y else []
def kb (r : Rc) : Nat := (r.k % 256).toNat
def encR (r : Rc) : List UInt8 := le 1 (kb r) ++ encK r
theorem kb_wrap (r : Rc) : IntKind.u8.wrap r.k = (kb r : Int) := by
  simp [IntKind.wrap, IntKind.bits, IntKind.signed, kb]; omega
theorem encR_len (r : Rc) : (encR r).length ≤ 26 := by
  unfold encR encK
  (repeat' split) <;> simp [le_length]

structure Rg where
  known : Bool
  err : Int
  rest : List UInt8
  val : Rc
def rdE (l : List UInt8) : Rg :=
  let a := num 1 l
  if a.val = 1 then
    let b := num 8 a.rest; let c := num 1 b.rest
    ⟨true, fin (fin a.err b.err) c.err, c.rest, ⟨1, b.val, c.val, 0, 0, 0, 0, 0, 0⟩⟩
  else if a.val = 2 then
    let b := num 8 a.rest; let c := num 1 b.rest; let d := num 1 c.rest
    ⟨true, fin (fin (fin a.err b.err) c.err) d.err, d.rest, ⟨2, b.val, 0, c.val, d.val, 0, 0, 0, 0⟩⟩
  else if a.val = 3 then
    let b := num 8 a.rest; let c := num 8 b.rest; let d := num 8 c.rest; let x := num 1 d.rest
    ⟨true, fin (fin (fin (fin a.err b.err) c.err) d.err) x.err, x.rest, ⟨3, 0, 0, 0, 0, b.val, c.val, d.val, x.val⟩⟩
  else ⟨false, a.err, a.rest, ⟨(a.val : Int), 0, 0, 0, 0, 0, 0, 0, 0⟩⟩
def tkR (l : List UInt8) : Int × Rc :=
  if (rdE l).err = 0 then (if (rdE l).known = true ∧ (rdE l).rest = [] ∧ lowB (rdE l).val = true then (0, (rdE l).val) else (4, rz)) else ((rdE l).err, rz)

theorem num_val (k : Nat) (l : List UInt8) : (num k l).val < 256 ^ k := by
  unfold num
  split
  · have h := un_lt (l.take k)
    rwa [show (l.take k).length = k by simp; omega] at h
  · exact Nat.pow_pos (by omega)
theorem rdE_fit (l : List UInt8) : (rdE l).val.fit := by
  have p8 : (256 : Nat) ^ 8 = 18446744073709551616 := by decide
  have n1 := fun l => num_val 1 l
  have n8 := fun l => num_val 8 l
  simp only [p8, Nat.pow_one] at n1 n8
  unfold rdE
  dsimp only
  have h0 := n1 l
  (repeat' split) <;> exact ⟨by simp <;> omega, by simp <;> omega, by simp [n8, n1], by simp [n8, n1], by simp [n8, n1], by simp [n8, n1], by simp [n8, n1], by simp [n8, n1], by simp [n8, n1], by simp [n8, n1]⟩
theorem tkR_fit (l : List UInt8) : (tkR l).2.fit := by
  have hz : rz.fit := ⟨by decide, by decide, by decide, by decide, by decide, by decide, by decide, by decide, by decide, by decide⟩
  unfold tkR
  (repeat' split)
  · exact rdE_fit l
  · exact hz
  · exact hz
theorem num_one {k : Nat} {l : List UInt8} (h : (num k l).err = 0) : l = le k (num k l).val ++ (num k l).rest := ((num_good k).one l h).1
theorem tkR_enc {r : Rc} (hf : r.fit) (h : mayB r = true) : tkR (encR r) = (0, r) := by
  have p8 : (256 : Nat) ^ 8 = 18446744073709551616 := by decide
  have s8 : ∀ n more, n < 18446744073709551616 → num 8 (le 8 n ++ more) = ⟨0, n, more⟩ := fun n more hn => num_le 8 n more (by rw [p8]; exact hn)
  have s1 : ∀ n more, n < 256 → num 1 (le 1 n ++ more) = ⟨0, n, more⟩ := fun n more hn => num_le 1 n more (by rw [Nat.pow_one]; exact hn)
  have s1' : ∀ n, n < 256 → num 1 (le 1 n) = ⟨0, n, []⟩ := fun n hn => by have := s1 n [] hn; rwa [List.append_nil] at this
  obtain ⟨k, f, o, p, q, s, i, e, y⟩ := r
  obtain ⟨k0, k1, hf, ho, hp, hq, hs, hi, he, hy⟩ := hf
  unfold mayB at h
  rw [Bool.and_eq_true] at h
  obtain ⟨hl, h⟩ := h
  simp only at h hf ho hp hq hs hi he hy
  by_cases h1 : k = 1
  · subst h1
    simp only [if_true, decide_eq_true_eq] at h
    obtain ⟨rfl, rfl, rfl, rfl, rfl, rfl⟩ := h
    have e0 : rdE (encR ⟨1, f, o, 0, 0, 0, 0, 0, 0⟩) = ⟨true, 0, [], ⟨1, f, o, 0, 0, 0, 0, 0, 0⟩⟩ := by
      simp [rdE, encR, encK, kb, s1, s8, s1', hf, ho, fin]
    unfold tkR
    rw [e0]
    simp [hl]
  · by_cases h2 : k = 2
    · subst h2
      simp only [if_true, decide_eq_true_eq] at h
      rw [if_neg (by decide)] at h
      simp only [decide_eq_true_eq] at h
      obtain ⟨rfl, rfl, rfl, rfl, rfl⟩ := h
      have e0 : rdE (encR ⟨2, f, 0, p, q, 0, 0, 0, 0⟩) = ⟨true, 0, [], ⟨2, f, 0, p, q, 0, 0, 0, 0⟩⟩ := by
        simp [rdE, encR, encK, kb, s1, s8, s1', hf, hp, hq, fin]
      unfold tkR
      rw [e0]
      simp [hl]
    · by_cases h3 : k = 3
      · subst h3
        rw [if_neg (by decide), if_neg (by decide), if_pos rfl] at h
        simp only [decide_eq_true_eq] at h
        obtain ⟨rfl, rfl, rfl, rfl⟩ := h
        have e0 : rdE (encR ⟨3, 0, 0, 0, 0, s, i, e, y⟩) = ⟨true, 0, [], ⟨3, 0, 0, 0, 0, s, i, e, y⟩⟩ := by
          simp [rdE, encR, encK, kb, s1, s8, s1', hs, hi, he, hy, fin]
        unfold tkR
        rw [e0]
        simp [hl]
      · rw [if_neg h1, if_neg h2, if_neg h3] at h
        cases h
theorem tkR_one {l : List UInt8} (h : (tkR l).1 = 0) : mayB (tkR l).2 = true ∧ encR (tkR l).2 = l := by
  unfold tkR at h ⊢
  by_cases he : (rdE l).err = 0
  · rw [if_pos he] at h ⊢
    by_cases hk : (rdE l).known = true ∧ (rdE l).rest = [] ∧ lowB (rdE l).val = true
    · rw [if_pos hk]
      clear h
      obtain ⟨hk1, hk2, hk3⟩ := hk
      show mayB (rdE l).val = true ∧ encR (rdE l).val = l
      unfold rdE at he hk1 hk2 hk3 ⊢
      dsimp only at he hk1 hk2 hk3 ⊢
      by_cases a1 : (num 1 l).val = 1
      · rw [if_pos a1] at he hk2 hk3 ⊢
        simp only at he hk2 hk3 ⊢
        obtain ⟨h2, h3⟩ := fin_eq_zero he
        obtain ⟨h4, h5⟩ := fin_eq_zero h2
        have e1 := num_one h4
        have e2 := num_one h5
        have e3 := num_one h3
        rw [hk2, List.append_nil] at e3
        refine ⟨by unfold mayB; rw [hk3]; simp, ?_⟩
        rw [a1] at e1
        rw [e3] at e2
        rw [e2] at e1
        simp [encR, encK, kb]
        exact e1.symm
      · rw [if_neg a1] at he hk1 hk2 hk3 ⊢
        by_cases a2 : (num 1 l).val = 2
        · rw [if_pos a2] at he hk2 hk3 ⊢
          simp only at he hk2 hk3 ⊢
          obtain ⟨h2, h3⟩ := fin_eq_zero he
          obtain ⟨h4, h5⟩ := fin_eq_zero h2
          obtain ⟨h6, h7⟩ := fin_eq_zero h4
          have e1 := num_one h6
          have e2 := num_one h7
          have e3 := num_one h5
          have e4 := num_one h3
          rw [hk2, List.append_nil] at e4
          refine ⟨by unfold mayB; rw [hk3]; simp, ?_⟩
          rw [a2] at e1
          rw [e4] at e3
          rw [e3] at e2
          rw [e2] at e1
          simp [encR, encK, kb]
          exact e1.symm
        · rw [if_neg a2] at he hk1 hk2 hk3 ⊢
          by_cases a3 : (num 1 l).val = 3
          · rw [if_pos a3] at he hk2 hk3 ⊢
            simp only at he hk2 hk3 ⊢
            obtain ⟨h2, h3⟩ := fin_eq_zero he
            obtain ⟨h4, h5⟩ := fin_eq_zero h2
            obtain ⟨h6, h7⟩ := fin_eq_zero h4
            obtain ⟨h8, h9⟩ := fin_eq_zero h6
            have e1 := num_one h8
            have e2 := num_one h9
            have e3 := num_one h7
            have e4 := num_one h5
            have e5 := num_one h3
            rw [hk2, List.append_nil] at e5
            refine ⟨by unfold mayB; rw [hk3]; simp, ?_⟩
            rw [a3] at e1
            rw [e5] at e4
            rw [e4] at e3
            rw [e3] at e2
            rw [e2] at e1
            simp [encR, encK, kb]
            exact e1.symm
          · rw [if_neg a3] at hk1
            cases hk1
    · rw [if_neg hk] at h
      cases h
  · rw [if_neg he] at h
    exact absurd h he
theorem put_no {r : Rc} (h : mayB r = false) : (tkR (encR r)).1 ≠ 0 ∨ (tkR (encR r)).2 ≠ r := by
  by_cases h1 : (tkR (encR r)).1 = 0
  · refine .inr fun h2 => ?_
    have := (tkR_one h1).1
    rw [h2, h] at this
    cases this
  · exact .inl h1
/-! By places, as the document says it. -/
end Go.Proofs.YtgeaacabpnepmaaGreatDoor
/- Texts of elder layers, one behind the other. -/
/- Frames of texts: the plain mathematics of layer 4. Nothing of the program. -/
namespace Go.Proofs.YtgeaacabpnepmaaGreatDoor
open Go.RowKit
set_option linter.unusedVariables false

theorem upd_lt' (c : Nat) (s : List UInt8) (hc : c < 4294967296) : upd c s < 4294967296 :=
  Nat.xor_lt_two_pow (n := 32) (runs_lt _ (Nat.xor_lt_two_pow (n := 32) (by omega) (by decide))) (by decide)
def fn (l : List UInt8) : Nat := un (l.take 2)
def fsum (l : List UInt8) : Nat := un ((l.drop 2).take 4)
def fpay (l : List UInt8) : List UInt8 := (l.drop 6).take (fn l)
def fck (l : List UInt8) : Nat := upd 0 (l.take 2 ++ fpay l)
def fe (l : List UInt8) : Int :=
  if l.length < 6 then 10 else if 4096 < fn l then 3 else if l.length - 6 < fn l then 10 else if fck l ≠ fsum l then 9 else 0
def fp (l : List UInt8) : List UInt8 := if fe l = 0 then fpay l else []
theorem fe_short {l : List UInt8} (h : l.length < 6) : fe l = 10 := by unfold fe; rw [if_pos h]
theorem fe_long {l : List UInt8} (h : 6 ≤ l.length) (h2 : 4096 < fn l) : fe l = 3 := by unfold fe; rw [if_neg (by omega), if_pos h2]
theorem fe_torn {l : List UInt8} (h : 6 ≤ l.length) (h2 : fn l ≤ 4096) (h3 : l.length - 6 < fn l) : fe l = 10 := by unfold fe; rw [if_neg (by omega), if_neg (by omega), if_pos h3]
theorem fe_sum {l : List UInt8} (h : 6 ≤ l.length) (h2 : fn l ≤ 4096) (h3 : fn l ≤ l.length - 6) (h4 : fck l ≠ fsum l) : fe l = 9 := by unfold fe; rw [if_neg (by omega), if_neg (by omega), if_neg (by omega), if_pos h4]
theorem fe_ok {l : List UInt8} (h : 6 ≤ l.length) (h2 : fn l ≤ 4096) (h3 : fn l ≤ l.length - 6) (h4 : fck l = fsum l) : fe l = 0 := by unfold fe; rw [if_neg (by omega), if_neg (by omega), if_neg (by omega), if_neg (by omega)]
theorem fp_bad {l : List UInt8} (h : fe l ≠ 0) : fp l = [] := by unfold fp; rw [if_neg h]
theorem fp_ok {l : List UInt8} (h : fe l = 0) : fp l = fpay l := by unfold fp; rw [if_pos h]
theorem fe_zero {l : List UInt8} (h : fe l = 0) : 6 ≤ l.length ∧ fn l ≤ 4096 ∧ fn l ≤ l.length - 6 ∧ fck l = fsum l := by
  unfold fe at h
  (repeat' split at h) <;> first | omega | (refine ⟨?_, ?_, ?_, ?_⟩ <;> first | omega | skip)
theorem fe_set (l : List UInt8) : fe l = 0 ∨ fe l = 3 ∨ fe l = 9 ∨ fe l = 10 := by
  unfold fe
  (repeat' split) <;> simp
theorem fpay_len {l : List UInt8} (h3 : fn l ≤ l.length - 6) : (fpay l).length = fn l := by
  unfold fpay; rw [List.length_take, List.length_drop]; omega
theorem fp_len (l : List UInt8) : (fp l).length ≤ 4096 := by
  by_cases h : fe l = 0
  · obtain ⟨h1, h2, h3, _⟩ := fe_zero h
    rw [fp_ok h, fpay_len h3]; exact h2
  · rw [fp_bad h]; simp
theorem fp_room {l : List UInt8} (h : fe l = 0) : 6 + (fp l).length ≤ l.length := by
  obtain ⟨h1, h2, h3, _⟩ := fe_zero h
  rw [fp_ok h, fpay_len h3]; omega
def fhead (s : List UInt8) : List UInt8 := le 2 s.length ++ le 4 (upd 0 (le 2 s.length ++ s))
def frm (s : List UInt8) : List UInt8 := fhead s ++ s
theorem head_len (s : List UInt8) : (fhead s).length = 6 := by simp [fhead, le_length]
theorem frm_len (s : List UInt8) : (frm s).length = 6 + s.length := by simp [frm, head_len]
theorem take2 (s m : List UInt8) : (fhead s ++ m).take 2 = le 2 s.length := by
  rw [fhead, List.append_assoc, List.take_append_of_le_length (by rw [le_length]; omega), List.take_of_length_le (by rw [le_length]; omega)]
theorem drop2 (s m : List UInt8) : ((fhead s ++ m).drop 2).take 4 = le 4 (upd 0 (le 2 s.length ++ s)) := by
  rw [fhead, List.append_assoc, List.drop_append_of_le_length (by rw [le_length]; omega), List.drop_of_length_le (by rw [le_length]; omega), List.nil_append, List.take_append_of_le_length (by rw [le_length]; omega), List.take_of_length_le (by rw [le_length]; omega)]
theorem drop6 (s m : List UInt8) : (fhead s ++ m).drop 6 = m := by
  rw [List.drop_append_of_le_length (by rw [head_len]; omega), List.drop_of_length_le (by rw [head_len]; omega), List.nil_append]
theorem fn_head (s m : List UInt8) (h : s.length < 65536) : fn (fhead s ++ m) = s.length := by
  rw [fn, take2, un_le]; exact Nat.mod_eq_of_lt (by simpa using h)
theorem fsum_head (s m : List UInt8) : fsum (fhead s ++ m) = upd 0 (le 2 s.length ++ s) := by
  rw [fsum, drop2, un_le]; exact Nat.mod_eq_of_lt (by have := upd_lt' 0 (le 2 s.length ++ s) (by omega); simpa using this)
theorem frm_ok (s m : List UInt8) (h : s.length ≤ 4096) : fe (frm s ++ m) = 0 ∧ fp (frm s ++ m) = s := by
  have e : frm s ++ m = fhead s ++ (s ++ m) := by rw [frm, List.append_assoc]
  have hn : fn (frm s ++ m) = s.length := by rw [e]; exact fn_head _ _ (by omega)
  have hl : (frm s ++ m).length = 6 + s.length + m.length := by rw [List.length_append, frm_len]
  have hp : fpay (frm s ++ m) = s := by rw [fpay, hn, e, drop6]; simp
  have h0 : fe (frm s ++ m) = 0 := fe_ok (by omega) (by omega) (by omega) (by rw [fck, hp, e, take2, fsum_head])
  exact ⟨h0, by rw [fp_ok h0, hp]⟩
theorem frm_cut (s m : List UInt8) (k : Nat) (h : s.length ≤ 4096) (hk : k < 6 + s.length) : fe ((frm s ++ m).take k) = 10 := by
  have hl : ((frm s ++ m).take k).length = k := by rw [List.length_take, List.length_append, frm_len]; omega
  by_cases h6 : k < 6
  · exact fe_short (by omega)
  · have e : (frm s ++ m).take k = fhead s ++ (s ++ m).take (k - 6) := by
      rw [frm, List.append_assoc, List.take_append, head_len, List.take_of_length_le (by rw [head_len]; omega)]
    have hn : fn ((frm s ++ m).take k) = s.length := by rw [e]; exact fn_head _ _ (by omega)
    exact fe_torn (by omega) (by omega) (by omega)
theorem frm_back {l : List UInt8} (h : fe l = 0) : l = frm (fp l) ++ l.drop (6 + (fp l).length) := by
  obtain ⟨h1, h2, h3, h4⟩ := fe_zero h
  rw [fp_ok h]
  have hp := fpay_len h3
  have e2 : le 2 (fpay l).length = l.take 2 := by
    rw [hp, fn]
    have := le_un (l.take 2)
    rwa [show (l.take 2).length = 2 from by rw [List.length_take]; omega] at this
  have e4 : le 4 (fsum l) = (l.drop 2).take 4 := by
    rw [fsum]
    have := le_un ((l.drop 2).take 4)
    rwa [show ((l.drop 2).take 4).length = 4 from by rw [List.length_take, List.length_drop]; omega] at this
  rw [frm, fhead, e2, show upd 0 (l.take 2 ++ fpay l) = fsum l from h4, e4, hp]
  conv => lhs; rw [← List.take_append_drop 2 l, ← List.take_append_drop 4 (l.drop 2), ← List.take_append_drop (fn l) ((l.drop 2).drop 4)]
  simp only [List.drop_drop, List.append_assoc, fpay]

structure Res where
  l : List (List UInt8)
  used : Nat
  err : Int
def all (s : List UInt8) : Res :=
  if h : s = [] then ⟨[], 0, 0⟩
  else if fe s = 0 then ⟨fp s :: (all (s.drop (6 + (fp s).length))).l, 6 + (fp s).length + (all (s.drop (6 + (fp s).length))).used, (all (s.drop (6 + (fp s).length))).err⟩
  else ⟨[], 0, fe s⟩
termination_by s.length
decreasing_by
  all_goals
    have : 0 < s.length := List.length_pos_iff.2 h
    rw [List.length_drop]; omega
structure Item where
  p : List UInt8
  e : Int
  hp : p.length ≤ 4096
def items (s : List UInt8) : List Item :=
  if h : s = [] then []
  else if fe s = 0 then ⟨fp s, 0, fp_len s⟩ :: items (s.drop (6 + (fp s).length))
  else [⟨[], fe s, by simp⟩]
termination_by s.length
decreasing_by
  have : 0 < s.length := List.length_pos_iff.2 h
  rw [List.length_drop]; omega
theorem items_nil : items [] = [] := by rw [items]; simp
theorem items_bad {s : List UInt8} (h : s ≠ []) (he : fe s ≠ 0) : items s = [⟨fp s, fe s, fp_len s⟩] := by
  rw [items, dif_neg h, if_neg he]; congr; exact (fp_bad he).symm
theorem items_ok {s : List UInt8} (he : fe s = 0) : items s = ⟨fp s, 0, fp_len s⟩ :: items (s.drop (6 + (fp s).length)) := by
  have h : s ≠ [] := by rintro rfl; have := fp_room he; simp at this
  rw [items, dif_neg h, if_pos he]
theorem items_first {s : List UInt8} (h : s ≠ []) : ∃ r, items s = ⟨fp s, fe s, fp_len s⟩ :: r := by
  by_cases he : fe s = 0
  · refine ⟨items (s.drop (6 + (fp s).length)), ?_⟩
    rw [items_ok he]
    congr 2
    exact he.symm
  · exact ⟨[], items_bad h he⟩
end Go.Proofs.YtgeaacabpnepmaaGreatDoor
/- Package frame's functions that make and take ONE frame, and the document's: one contract each. Conditions: the table of four steps lies in its variable; texts of 2^40 bytes at most. -/
namespace Go.Proofs.YtgeaacabpnepmaaGreatDoor
open Go.RowKit
set_option linter.unusedVariables false

theorem tab_b {w w' : World} {B : Nat} (h : Tab w) (hB : 1 < B) (hb : Below B w w') : Tab w' :=
  ⟨Nat.lt_of_lt_of_le h.1 hb.size, fun i hi => (hb.cell (p := ⟨1, i, none⟩) hB).trans (h.2 i hi)⟩
theorem below_on {w w1 w2 : World} {B : Nat} (h : Below B w w1) (k : w1.grownBy w2 none) (hB : B ≤ w1.heap.size) : Below B w w2 :=
  h.trans (grown_nb k (by simp) hB)
theorem ret_u32n {a b : Nat} (h : a = b) : Ending.returned (.int .u32 (a : Int)) = .returned (.int .u32 (b : Int)) := by rw [h]
theorem checksum (a b : List UInt8) (w : World) (ha : a.length ≤ maxLen) (hb : b.length ≤ maxLen) (ht : Tab w) :
    Calls Tryz.prog 230 #[.string (str a), .string (str b)] w fun E w' => E = .returned (.int .u32 ((upd 0 (a ++ b) : Nat) : Int)) ∧ w.grownBy w' none := by
  have HA := Lib.hid (upd_append 0 a b)
  have HU := Lib.hid (upd_lt' 0 a (by omega))
  have HT := Lib.hid ht
  clear ht
  go_enter Tryz.func230, Tryz.ntmps230
  go_wp2_with fail
  refine (sum a _ ha HT.out).mono ?_
  rintro E w1 ⟨rfl, hg1⟩
  have HT1 := Lib.hid (tab_grown HT.out hg1)
  have HG1 := Lib.hid hg1
  clear hg1
  go_wp2_with fail
  refine (update _ b _ HU.out hb HT1.out).mono ?_
  rintro E w2 ⟨rfl, hg2⟩
  go_wp2
  go_ret
  exact ⟨ret_u32n HA.out.symm, HG1.out.trans hg2⟩
theorem size_c (p : List UInt8) (w : World) (hp : p.length ≤ 1099511627776) :
    Calls Tryz.prog 278 #[.string (str p)] w fun E w' => E = .returned (.int .i64 ((6 + p.length : Nat) : Int)) ∧ w = w' := by
  have hs := str_size p
  have hc : ((6 + p.length : Nat) : Int) = 6 + (p.length : Int) := by omega
  rw [hc]
  go_enter Tryz.func278, Tryz.ntmps278
  go_wp2
  go_ret
  exact ⟨rfl, rfl⟩
def putS (s : List UInt8) : List UInt8 := if s.length ≤ 4096 then frm s else []
def putE (s : List UInt8) : Int := if s.length ≤ 4096 then 0 else 3
theorem fput_c (s : List UInt8) (w : World) (hs : s.length ≤ maxLen) (ht : Tab w) :
    Calls Tryz.prog 197 #[.string (str s)] w fun E w' => E = .returned (.tuple #[.string (str (putS s)), .int .i64 (putE s)]) ∧ w.grownBy w' none := by
  have hsz := str_size s
  have HS := Lib.hid hs
  unfold maxLen at hs
  by_cases h : s.length ≤ 4096
  · rw [show putS s = frm s from by rw [putS, if_pos h], show putE s = 0 from by rw [putE, if_pos h]]
    have HT := Lib.hid (tab_grown ht (World.grownBy_alloc w (.cells #[.slice none 0 0] 272) none))
    have HP := Lib.hid ht.1
    clear ht hs
    have hhl := head_len s
    have hap := str_append (fhead s) s
    have hs1 := str_size (fhead s)
    have HN := Lib.hid (wr_new w)
    have H0 := Lib.hid (show ([] : List UInt8) ++ le 2 s.length = le 2 s.length from rfl)
    have HU := Lib.hid (upd_lt' 0 (le 2 s.length ++ s) (by omega))
    have HH : Hid (le 2 s.length ++ le 4 (upd 0 (le 2 s.length ++ s)) = fhead s) := rfl
    have HF : Hid (fhead s ++ s = frm s) := rfl
    have HL := Lib.hid (le_length 2 s.length)
    go_enter Tryz.func197, Tryz.ntmps197
    go_wp2_with fail
    refine (wrU16 w.heap.size s.length [] _ HN.out (by simp) (by omega)).mono ?_
    rintro E w1 ⟨rfl, hw1, hb1⟩
    rw [H0.out] at hw1
    have HB1 := Lib.hid (((Below.refl w.heap.size w).alloc (Nat.le_refl _) _).trans hb1)
    have HT1 := Lib.hid (tab_b HT.out HP.out hb1)
    have hgl1 := Lib.hid (wr_lt hw1)
    clear hb1
    go_wp2_with fail
    refine (wrBytes _ _ _ hw1).mono ?_
    rintro E w2 ⟨rfl, rfl⟩
    go_wp2_with fail
    refine (checksum _ s _ (by rw [HL.out]; decide) HS.out HT1.out).mono ?_
    rintro E w2 ⟨rfl, hg2⟩
    have hw2 := wr_on0 hw1 hg2
    have HB2 := Lib.hid (below_on HB1.out hg2 (Nat.le_of_lt hgl1.out))
    clear hg2 hw1
    go_wp2_with fail
    refine (wrU32 w.heap.size _ _ _ hw2 (by rw [HL.out]; omega) HU.out).mono ?_
    rintro E w3 ⟨rfl, hw3, hb3⟩
    rw [HH.out] at hw3
    have HB3 := Lib.hid (HB2.out.trans hb3)
    clear hb3 hw2
    go_wp2_with fail
    refine (wrBytes _ _ _ hw3).mono ?_
    rintro E w4 ⟨rfl, rfl⟩
    rw [HF.out] at hap
    go_wp2
    go_ret2
    exact ⟨rfl, grown_of_below HB3.out⟩
  · rw [show putS s = [] from by rw [putS, if_neg h], show putE s = 3 from by rw [putE, if_neg h]]
    go_enter Tryz.func197, Tryz.ntmps197
    go_wp2
    go_ret2
    exact ⟨rfl, grown_refl _ _⟩
theorem rd_short {s : List UInt8} (h : s.length < 6) : fin (fin 0 (num 2 s).err) (num 4 (num 2 s).rest).err = 10 := by
  by_cases h2 : 2 ≤ s.length
  · have e : num 2 s = ⟨0, un (s.take 2), s.drop 2⟩ := by unfold num; rw [if_pos h2]
    rw [e]
    have e4 : num 4 (s.drop 2) = ⟨10, 0, []⟩ := by unfold num; rw [if_neg (by rw [List.length_drop]; omega)]
    simp [e4, fin]
  · have e : num 2 s = ⟨10, 0, []⟩ := by unfold num; rw [if_neg h2]
    rw [e]
    simp [fin]
theorem rd_long {s : List UInt8} (h : 6 ≤ s.length) : num 2 s = ⟨0, fn s, s.drop 2⟩ ∧ num 4 (s.drop 2) = ⟨0, fsum s, s.drop 6⟩ := by
  refine ⟨by unfold num; rw [if_pos (by omega)]; rfl, ?_⟩
  unfold num
  rw [if_pos (by rw [List.length_drop]; omega), List.drop_drop]; rfl
theorem un2_lt (s : List UInt8) : un (s.take 2) < 65536 := by
  have h1 := un_lt (s.take 2)
  have h2 : 256 ^ (s.take 2).length ≤ 256 ^ 2 := Nat.pow_le_pow_right (by omega) (by rw [List.length_take]; omega)
  omega
theorem two_first {s p : List UInt8} {e : Int} (h : fe s = e ∧ fp s = p) : Ending.returned (.tuple #[.string (str p), .int .i64 e]) = Ending.returned (.tuple #[.string (str (fp s)), .int .i64 (fe s)]) := by rw [h.1, h.2]
theorem num2_lt (s : List UInt8) : (num 2 s).val < 65536 := by
  unfold num
  split
  · exact un2_lt s
  · show 0 < 65536; omega
theorem drew_grown {w w' : World} {r : Option Nat} (h : w.drew.grownBy w' r) : w.grownBy w' r := ⟨h.os, h.tape, h.output, h.size, h.block⟩
theorem grown_new {w w1 w2 : World} {g : Nat} (h : w.grownBy w1 none) (k : w1.grownBy w2 (some g)) (hg : w.heap.size ≤ g) : w.grownBy w2 none :=
  grown_of_below ((below_of_grown h).grown k h.size (fun k e => by cases e; exact hg))
set_option maxHeartbeats 1000000 in
theorem ffirst_c (s : List UInt8) (w : World) (hs : s.length ≤ 1099511627776) (ht : Tab w) :
    Calls Tryz.prog 305 #[.string (str s)] w fun E w' => E = .returned (.tuple #[.string (str (fp s)), .int .i64 (fe s)]) ∧ w.grownBy w' none := by
  have HT := Lib.hid ht
  clear ht
  by_cases h6 : s.length < 6
  · have he := fe_short h6
    have hp : fp s = [] := fp_bad (by rw [he]; decide)
    rw [he, hp]
    have HE := Lib.hid (rd_short h6)
    have hv := num2_lt s
    clear he hp
    go_enter Tryz.func305, Tryz.ntmps305
    go_wp2_with fail
    refine (rdNew s _ hs).mono ?_
    rintro E w1 ⟨rfl, hr1, hg1, hz1⟩
    have HG1 := Lib.hid hg1
    clear hg1
    go_wp2_with fail
    refine (rdU16 _ _ _ _ hr1).mono ?_
    rintro E w2 ⟨rfl, hr2, hg2⟩
    have HG2 := Lib.hid hg2
    clear hg2 hr1
    go_wp2_with fail
    refine (rdU32 _ _ _ _ hr2).mono ?_
    rintro E w3 ⟨rfl, hr3, hg3⟩
    have HG3 := Lib.hid hg3
    rw [HE.out] at hr3
    clear hg3 hr2
    go_wp2_with fail
    refine (rdRest _ _ _ _ hr3).mono ?_
    rintro E w4 ⟨rfl, rfl⟩
    go_wp2_with fail
    refine (rdErr _ _ _ _ hr3).mono ?_
    rintro E w4 ⟨rfl, rfl⟩
    go_wp2_with fail
    refine (rdErr _ _ _ _ hr3).mono ?_
    rintro E w4 ⟨rfl, rfl⟩
    go_wp2
    go_ret2
    exact ⟨rfl, grown_new (grown_new HG1.out HG2.out (Nat.le_refl _)) HG3.out (Nat.le_refl _)⟩
  · obtain ⟨e2, e4⟩ := rd_long (s := s) (by omega)
    have hn2 : fn s < 65536 := un2_lt s
    have hd := List.length_drop (i := 6) (l := s)
    have hsz := str_size (s.drop 6)
    have hss := str_size s
    have hst := str_cut s 2
    have hpt : (str (s.drop 6)).extract 0 (fn s) = str (fpay s) := str_cut _ _
    have H6 := Lib.hid (Nat.le_of_not_lt h6)
    have E2 := Lib.hid e2
    have E4 := Lib.hid e4
    clear e2 e4
    go_enter Tryz.func305, Tryz.ntmps305
    go_wp2_with fail
    refine (rdNew s _ hs).mono ?_
    rintro E w1 ⟨rfl, hr1, hg1, hz1⟩
    have HG1 := Lib.hid hg1
    clear hg1
    go_wp2_with fail
    refine (rdU16 _ _ _ _ hr1).mono ?_
    rintro E w2 ⟨rfl, hr2, hg2⟩
    rw [E2.out] at hr2
    rw [E2.out]
    have HG2 := Lib.hid hg2
    clear hg2 hr1
    go_wp2_with fail
    refine (rdU32 _ _ _ _ hr2).mono ?_
    rintro E w3 ⟨rfl, hr3, hg3⟩
    rw [E4.out] at hr3
    rw [E4.out]
    have HG3 := Lib.hid hg3
    clear hg3 hr2
    have hr4 : Rd w3 w.heap.size (s.drop 6) 0 := hr3
    clear hr3
    go_wp2_with fail
    refine (rdRest _ _ _ _ hr4).mono ?_
    rintro E w4 ⟨rfl, rfl⟩
    go_wp2_with fail
    refine (rdErr _ _ _ _ hr4).mono ?_
    rintro E w4 ⟨rfl, rfl⟩
    have HG : Hid (w.grownBy w3 none) := Lib.hid (grown_new (grown_new HG1.out HG2.out (Nat.le_refl _)) HG3.out (Nat.le_refl _))
    have HT3 := Lib.hid (tab_grown HT.out HG.out)
    rw [hd] at hsz
    clear hd
    have h6 := H6.out
    by_cases hbig : 4096 < fn s
    · have he := fe_long H6.out hbig
      have HE : Hid (fe s = 3 ∧ fp s = []) := ⟨he, fp_bad (by rw [he]; decide)⟩
      clear he
      go_wp2
      go_ret2
      exact ⟨two_first HE.out, HG.out⟩
    · have hle : fn s ≤ 4096 := by omega
      by_cases htorn : s.length - 6 < fn s
      · have he := fe_torn H6.out hle htorn
        have HE : Hid (fe s = 10 ∧ fp s = []) := ⟨he, fp_bad (by rw [he]; decide)⟩
        clear he
        go_wp2
        go_ret2
        exact ⟨two_first HE.out, HG.out⟩
      · have hroom : fn s ≤ s.length - 6 := by omega
        have hpl := fpay_len hroom
        have hck : fck s = upd 0 (s.take 2 ++ fpay s) := rfl
        have HCK := Lib.hid hck
        clear hck
        have h2l : (s.take 2).length ≤ 2 := by rw [List.length_take]; omega
        have H2L := Lib.hid h2l
        clear h2l
        have HC := Lib.hid (checksum (s.take 2) (fpay s) w3.drew (by have := H2L.out; unfold maxLen; omega) (by unfold maxLen; omega) HT3.out)
        have i2 : (2 : Int) ≤ (s.length : Int) := by omega
        have i3 : (fn s : Int) ≤ ((s.length - 6 : Nat) : Int) := by omega
        rw [← HCK.out] at HC
        by_cases hsum : fck s = fsum s
        · have he := fe_ok H6.out hle hroom hsum
          have HE : Hid (fe s = 0 ∧ fp s = fpay s) := ⟨he, fp_ok he⟩
          clear he
          rw [hsum] at HC
          clear hsum
          go_wp2
          go_region_held3 (fun w' => Tab w') (first | assumption | exact HT3.out) (first | (go_at_call 230; refine HC.out.mono ?_; rintro E w4 ⟨rfl, hg4⟩; have hg5 := drew_grown hg4; have hT4 := tab_grown HT3.out hg5))
          go_wp2
          go_ret2
          exact ⟨two_first HE.out, HG.out.trans hg5⟩
        · have he := fe_sum H6.out hle hroom hsum
          have HE : Hid (fe s = 9 ∧ fp s = []) := ⟨he, fp_bad (by rw [he]; decide)⟩
          have hb : (((fck s : Nat) : Int) == ((fsum s : Nat) : Int)) = false := beq_eq_false_iff_ne.2 (by omega)
          clear he
          go_wp2
          go_region_held3 (fun w' => Tab w') (first | assumption | exact HT3.out) (first | (go_at_call 230; refine HC.out.mono ?_; rintro E w4 ⟨rfl, hg4⟩; have hg5 := drew_grown hg4; have hT4 := tab_grown HT3.out hg5))
          go_wp2
          go_ret2
          exact ⟨two_first HE.out, HG.out.trans hg5⟩
end Go.Proofs.YtgeaacabpnepmaaGreatDoor
/- The document's functions that make and take ONE frame: one contract each. -/
namespace Go.Proofs.YtgeaacabpnepmaaGreatDoor
open Go.RowKit
set_option linter.unusedVariables false

def fu (s : List UInt8) : Nat := if fe s = 0 then 6 + (fp s).length else 0
theorem fu_bad {s : List UInt8} {e : Int} (h : fe s = e) (he : e ≠ 0) : fe s = e ∧ fp s = [] ∧ fu s = 0 := by
  subst h; exact ⟨rfl, fp_bad he, by rw [fu, if_neg he]⟩
theorem str_toList (a : List UInt8) : (str a).toList = a := by rw [ByteArray.toList_eq]; simp [str]
end Go.Proofs.YtgeaacabpnepmaaGreatDoor
