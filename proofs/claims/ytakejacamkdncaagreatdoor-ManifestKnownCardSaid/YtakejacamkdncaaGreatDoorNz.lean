/- Texts of elder layers, one behind the other. -/
import Derived.Test.YtakejacamkdncaaGreatDoorAa
import Derived.Lib.Bytealg
import Derived.Test.YtakejacamkdncaaGreatDoorRows
import Derived.WalkKit
import Derived.ProofKit
import Derived.OpenShut
import Derived.Handy
import Derived.Below
import Derived.Lib.Hide
import Derived.Lib.Strings
import Derived.Deep.DeepCutAuto
import Derived.BigQuiet
/- Plain words on names: hexadecimal digits, the numbers that they are, what a text names. Nothing of the program. -/
namespace Go.Proofs.YtakejacamkdncaaGreatDoor
open Go.RowKit
set_option linter.unusedVariables false

/-- The sixteen digits. -/
def dgs : List UInt8 := [48, 49, 50, 51, 52, 53, 54, 55, 56, 57, 97, 98, 99, 100, 101, 102]
def dig (k : Nat) : UInt8 := dgs.getD k 0
/-- A digit's number; below 0: it is none. -/
def udg (b : UInt8) : Int := if 48 ≤ b.toNat ∧ b.toNat ≤ 57 then (b.toNat : Int) - 48 else if 97 ≤ b.toNat ∧ b.toNat ≤ 102 then (b.toNat : Int) - 87 else -1
theorem all256 {p : UInt8 → Prop} (h : ∀ i : Fin 256, p (UInt8.ofNat i.val)) (b : UInt8) : p b := by
  have := h ⟨b.toNat, b.toNat_lt⟩
  simpa using this
theorem udg_range (b : UInt8) : -1 ≤ udg b ∧ udg b ≤ 15 := by
  unfold udg
  split
  · omega
  · split <;> omega
theorem udg_index (b : UInt8) : Lib.indexByte dgs b = udg b := all256 (p := fun b => Lib.indexByte dgs b = udg b) (by decide +kernel) b
theorem udg_dig {k : Nat} (h : k < 16) : udg (dig k) = k := by
  have : ∀ i : Fin 16, udg (dig i.val) = i.val := by decide
  exact this ⟨k, h⟩
theorem dig_udg {b : UInt8} (h : 0 ≤ udg b) : dig (udg b).toNat = b :=
  all256 (p := fun b => 0 ≤ udg b → dig (udg b).toNat = b) (by decide +kernel) b h
theorem dig_lt : ∀ {i k : Nat}, i < k → k < 16 → dig i < dig k := by
  have : ∀ i k : Fin 16, i.val < k.val → dig i.val < dig k.val := by decide
  intro i k h hk
  exact this ⟨i, by omega⟩ ⟨k, hk⟩ h
theorem dig_inj {i k : Nat} (hi : i < 16) (hk : k < 16) (h : dig i = dig k) : i = k := by
  have e : (i : Int) = k := by rw [← udg_dig hi, h, udg_dig hk]
  omega

/-- The k lowest digits of a number. -/
def low : Nat → Nat → List UInt8
  | 0, _ => []
  | k + 1, n => dig (n / 16 ^ k % 16) :: low k n
theorem low_len (k n : Nat) : (low k n).length = k := by induction k with | zero => rfl | succ k ih => simp [low, ih]
theorem low_at (n : Nat) : ∀ (k i : Nat) (h : i < (low k n).length), (low k n)[i]'h = dig (n / 16 ^ (k - 1 - i) % 16)
  | 0, i, h => by simp [low] at h
  | k + 1, 0, h => by simp [low]
  | k + 1, i + 1, h => by
    have h' : i < (low k n).length := by simpa [low] using h
    have := low_at n k i h'
    simp only [low, List.getElem_cons_succ, this]
    rw [show k + 1 - 1 - (i + 1) = k - 1 - i by omega]
/-- The number that digits are, behind a number. -/
def vl : List UInt8 → Nat → Nat
  | [], a => a
  | b :: l, a => vl l (16 * a + (udg b).toNat)
def hx (l : List UInt8) : Bool := l.all fun b => decide (0 ≤ udg b)
theorem vl_append (l m : List UInt8) (a : Nat) : vl (l ++ m) a = vl m (vl l a) := by
  induction l generalizing a with
  | nil => rfl
  | cons b l ih => exact ih _
theorem vl_lt : ∀ (l : List UInt8) (a k : Nat), a < 16 ^ k → vl l a < 16 ^ (k + l.length)
  | [], a, k, h => h
  | b :: l, a, k, h => by
    have hb := udg_range b
    have : 16 * a + (udg b).toNat < 16 ^ (k + 1) := by rw [Nat.pow_succ]; omega
    have := vl_lt l _ (k + 1) this
    rw [List.length_cons, show k + (l.length + 1) = k + 1 + l.length by omega]
    exact this
theorem low_hx (k n : Nat) : hx (low k n) = true := by
  induction k with
  | zero => rfl
  | succ k ih =>
    have h : udg (dig (n / 16 ^ k % 16)) = ((n / 16 ^ k % 16 : Nat) : Int) := udg_dig (Nat.mod_lt _ (by decide))
    simp only [low, hx, List.all_cons, h]
    rw [show (low k n).all (fun b => decide (0 ≤ udg b)) = true from ih]
    simp only [Bool.and_true, decide_eq_true_eq]
    exact Int.natCast_nonneg _
theorem vl_low (n : Nat) : ∀ k a, vl (low k n) a = 16 ^ k * a + n % 16 ^ k
  | 0, a => by simp [low, vl, Nat.mod_one]
  | k + 1, a => by
    have h : udg (dig (n / 16 ^ k % 16)) = ((n / 16 ^ k % 16 : Nat) : Int) := udg_dig (Nat.mod_lt _ (by decide))
    simp only [low, vl, h, Int.toNat_natCast]
    rw [vl_low n k, Nat.mul_add, ← Nat.mul_assoc, ← Nat.pow_succ, Nat.add_assoc]
    congr 1
    rw [Nat.pow_succ, Nat.mod_mul]
    omega
/-- A number's sixteen digits. -/
def hex (n : Nat) : List UInt8 := low 16 n
theorem hex_len (n : Nat) : (hex n).length = 16 := low_len 16 n
theorem hex_hx (n : Nat) : hx (hex n) = true := low_hx 16 n
theorem vl_hex {n : Nat} (h : n < 18446744073709551616) : vl (hex n) 0 = n := by
  have := vl_low n 16 0
  rw [Nat.mul_zero, Nat.zero_add, Nat.mod_eq_of_lt (by simpa using h)] at this
  exact this
theorem hex_inj {a b : Nat} (ha : a < 18446744073709551616) (hb : b < 18446744073709551616) (h : hex a = hex b) : a = b := by rw [← vl_hex ha, h, vl_hex hb]
theorem low_less (a b : Nat) : ∀ k, a % 16 ^ k < b % 16 ^ k → low k a < low k b
  | 0, h => by simp [Nat.mod_one] at h
  | k + 1, h => by
    have e1 : a % 16 ^ (k + 1) = a % 16 ^ k + 16 ^ k * (a / 16 ^ k % 16) := by rw [Nat.pow_succ, Nat.mod_mul]
    have e2 : b % 16 ^ (k + 1) = b % 16 ^ k + 16 ^ k * (b / 16 ^ k % 16) := by rw [Nat.pow_succ, Nat.mod_mul]
    rw [e1, e2] at h
    have p0 : 0 < 16 ^ k := Nat.pow_pos (by decide)
    have m1 := Nat.mod_lt a p0
    have m2 := Nat.mod_lt b p0
    have l1 : a / 16 ^ k % 16 < 16 := Nat.mod_lt _ (by decide)
    have l2 : b / 16 ^ k % 16 < 16 := Nat.mod_lt _ (by decide)
    have ih := low_less a b k
    unfold low
    generalize a / 16 ^ k % 16 = x at *
    generalize b / 16 ^ k % 16 = y at *
    rcases Nat.lt_trichotomy x y with hlt | rfl | hgt
    · exact List.Lex.rel (dig_lt hlt l2)
    · exact List.Lex.cons (ih (by omega))
    · exfalso
      have : 16 ^ k * (y + 1) ≤ 16 ^ k * x := Nat.mul_le_mul_left _ hgt
      rw [Nat.mul_add, Nat.mul_one] at this
      omega
theorem hex_less {a b : Nat} (ha : a < 18446744073709551616) (hb : b < 18446744073709551616) : hex a < hex b ↔ a < b := by
  have up : ∀ {a b : Nat}, a < 18446744073709551616 → b < 18446744073709551616 → a < b → hex a < hex b := fun {a b} ha hb h => low_less a b 16 (by
    rw [Nat.mod_eq_of_lt (by simpa using ha), Nat.mod_eq_of_lt (by simpa using hb)]; exact h)
  constructor
  · intro h
    rcases Nat.lt_trichotomy a b with hlt | rfl | hgt
    · exact hlt
    · exact absurd h (List.lt_irrefl _)
    · exact absurd h (List.lt_asymm (up hb ha hgt))
  · exact up ha hb

/-! What is left of a text without its beginning, or its end. -/
def offP (l p : List UInt8) : List UInt8 := if p.isPrefixOf l then l.drop p.length else l
def offS (l p : List UInt8) : List UInt8 := if p.isSuffixOf l then l.take (l.length - p.length) else l
/-- .new and manifest. -/
def nw : List UInt8 := [46, 110, 101, 119]
def mani : List UInt8 := [109, 97, 110, 105, 102, 101, 115, 116]
def isNw (s : List UInt8) : Bool := nw.isSuffixOf s
def bse (s : List UInt8) : List UInt8 := offS s nw
/-- What sixteen digits are: their number, and whether they are digits. -/
def rdd (l : List UInt8) : Nat × Bool := if l.length = 16 ∧ hx l = true then (vl l 0, true) else (0, false)
/-- What digits behind a letter name. -/
def nmb (k : Nat) (l : List UInt8) : Nat × Nat × Bool := if (rdd l).2 then (k, (rdd l).1, true) else (0, 0, false)
/-- What a text that is not a fresh one's names: a kind, a number, and whether it names something. -/
def lst : List UInt8 → Nat × Nat × Bool
  | [] => (0, 0, false)
  | c :: r => if c :: r = mani then (3, 0, true) else if c = 115 then nmb 1 r else if c = 99 then nmb 2 r else (0, 0, false)
/-- What a text names. -/
def prs (s : List UInt8) : Nat × Nat × Bool × Bool := ((lst (bse s)).1, (lst (bse s)).2.1, isNw s && (lst (bse s)).2.2, (lst (bse s)).2.2)
theorem rdd_hex {n : Nat} (h : n < 18446744073709551616) : rdd (hex n) = (n, true) := by
  rw [rdd, if_pos ⟨hex_len n, hex_hx n⟩, vl_hex h]
theorem bse_new (s : List UInt8) : isNw (s ++ nw) = true ∧ bse (s ++ nw) = s := by
  have h : isNw (s ++ nw) = true := by
    unfold isNw
    exact List.isSuffixOf_iff_suffix.2 (List.suffix_append _ _)
  refine ⟨h, ?_⟩
  unfold bse offS
  rw [if_pos (show nw.isSuffixOf (s ++ nw) = true from h), List.length_append, Nat.add_sub_cancel]
  simp
theorem udg_46 : ∀ b : UInt8, b = 46 ∨ b = 110 ∨ b = 119 → udg b = -1 := by
  rintro b (rfl | rfl | rfl) <;> decide
theorem not_new {c : UInt8} {l : List UInt8} (h : hx l = true) (hl : l.length = 16) : isNw (c :: l) = false := by
  cases hs : isNw (c :: l) with
  | false => rfl
  | true =>
    exfalso
    obtain ⟨m, hm⟩ := List.isSuffixOf_iff_suffix.1 (show nw.isSuffixOf (c :: l) = true from hs)
    have hmem : (119 : UInt8) ∈ l := by
      cases m with
      | nil =>
        have := congrArg List.length hm
        simp [nw, hl] at this
      | cons a m =>
        have e := (List.cons.inj hm).2
        rw [← e]
        simp [nw]
    have := List.all_eq_true.1 h _ hmem
    revert this
    decide
theorem bse_old {s : List UInt8} (h : isNw s = false) : bse s = s := by
  unfold bse offS
  rw [if_neg (by rw [show nw.isSuffixOf s = false from h]; decide)]
theorem mani_ne {c : UInt8} {l : List UInt8} (hl : l.length = 16) : ¬ c :: l = mani := by
  intro e
  have := congrArg List.length e
  simp [mani, hl] at this
theorem lst_seg {n : Nat} (h : n < 18446744073709551616) : lst (115 :: hex n) = (1, n, true) := by
  rw [lst, if_neg (mani_ne (hex_len n)), if_pos rfl, nmb, rdd_hex h]; rfl
theorem lst_chk {n : Nat} (h : n < 18446744073709551616) : lst (99 :: hex n) = (2, n, true) := by
  rw [lst, if_neg (mani_ne (hex_len n)), if_neg (by decide), if_pos rfl, nmb, rdd_hex h]; rfl
theorem lst_mani : lst mani = (3, 0, true) := by decide
theorem prs_old {s : List UInt8} {k n : Nat} (h : isNw s = false) (hl : lst s = (k, n, true)) : prs s = (k, n, false, true) := by
  unfold prs; rw [bse_old h, hl, h]; rfl
theorem prs_new {s : List UInt8} {k n : Nat} (hl : lst s = (k, n, true)) : prs (s ++ nw) = (k, n, true, true) := by
  unfold prs; rw [(bse_new s).2, hl, (bse_new s).1]; rfl
theorem prs_seg {n : Nat} (h : n < 18446744073709551616) : prs (115 :: hex n) = (1, n, false, true) := prs_old (not_new (hex_hx n) (hex_len n)) (lst_seg h)
theorem prs_chk {n : Nat} (h : n < 18446744073709551616) : prs (99 :: hex n) = (2, n, false, true) := prs_old (not_new (hex_hx n) (hex_len n)) (lst_chk h)
theorem prs_segn {n : Nat} (h : n < 18446744073709551616) : prs (115 :: hex n ++ nw) = (1, n, true, true) := prs_new (lst_seg h)
theorem prs_chkn {n : Nat} (h : n < 18446744073709551616) : prs (99 :: hex n ++ nw) = (2, n, true, true) := prs_new (lst_chk h)
theorem prs_manin : prs (mani ++ nw) = (3, 0, true, true) := prs_new lst_mani
end Go.Proofs.YtakejacamkdncaaGreatDoor
/- The library's HasPrefix, HasSuffix, CutPrefix, CutSuffix, IndexByte here; a digit's number, and what sixteen digits are, both sides'. One contract each. -/
namespace Go.Proofs.YtakejacamkdncaaGreatDoor
open Go.RowKit
set_option linter.unusedVariables false
set_option linter.unusedSimpArgs false
set_option maxRecDepth 20000

theorem ret_i {k : IntKind} {a b : Int} (h : a = b) : Ending.returned (.int k a) = .returned (.int k b) := by rw [h]
theorem nret_b {a b : Bool} (h : a = b) : Ending.returned (.bool a) = .returned (.bool b) := by rw [h]
theorem two_str {a b : ByteArray} {r : Bool} (h : a = b) : Ending.returned (.tuple #[.string a, .bool r]) = .returned (.tuple #[.string b, .bool r]) := by rw [h]
theorem str_tl (l : List UInt8) : (str l).toList = l := by rw [ByteArray.toList_eq, str_data]
/-! How a beginning and an end of a text are told: by a cut as long as what is asked for. -/
theorem pre_cut (l p : List UInt8) (h : p.length ≤ l.length) : (((str l).extract 0 p.length).toList == (str p).toList) = p.isPrefixOf l := by
  rw [str_cut, str_tl, str_tl, Bool.eq_iff_iff, beq_iff_eq, List.isPrefixOf_iff_prefix, List.prefix_iff_eq_take]
  exact eq_comm
theorem suf_cut (l p : List UInt8) (h : p.length ≤ l.length) : (((str l).extract (l.length - p.length) l.length).toList == (str p).toList) = p.isSuffixOf l := by
  rw [str_rest, str_tl, str_tl, Bool.eq_iff_iff, beq_iff_eq, List.isSuffixOf_iff_suffix, List.suffix_iff_eq_drop]
  exact eq_comm
theorem pre_short {l p : List UInt8} (h : l.length < p.length) : p.isPrefixOf l = false := by
  cases e : p.isPrefixOf l with
  | false => rfl
  | true => have := (List.isPrefixOf_iff_prefix.1 e).length_le; omega
theorem suf_short {l p : List UInt8} (h : l.length < p.length) : p.isSuffixOf l = false := by
  cases e : p.isSuffixOf l with
  | false => rfl
  | true => have := (List.isSuffixOf_iff_suffix.1 e).length_le; omega
theorem pre_le {l p : List UInt8} (h : p.isPrefixOf l = true) : p.length ≤ l.length := (List.isPrefixOf_iff_prefix.1 h).length_le
theorem suf_le {l p : List UInt8} (h : p.isSuffixOf l = true) : p.length ≤ l.length := (List.isSuffixOf_iff_suffix.1 h).length_le
end Go.Proofs.YtakejacamkdncaaGreatDoor
/- What sixteen digits are, what a text names: both sides'. One contract each. -/
namespace Go.Proofs.YtakejacamkdncaaGreatDoor
open Go.RowKit
set_option linter.unusedVariables false
set_option linter.unusedSimpArgs false
set_option maxRecDepth 20000

theorem hx_step {l : List UInt8} {k : Nat} (h : k < l.length) : hx (l.take (k + 1)) = (hx (l.take k) && decide (0 ≤ udg (l[k]'h))) := by
  unfold hx
  rw [List.take_succ_eq_append_getElem h, List.all_append]
  simp
theorem hx_no {l : List UInt8} {k : Nat} (h : k < l.length) (hn : udg (l[k]'h) < 0) : hx l = false := by
  unfold hx
  rw [List.all_eq_false]
  exact ⟨_, List.getElem_mem h, by simp; omega⟩
theorem vl_step {l : List UInt8} {k : Nat} (h : k < l.length) : vl (l.take (k + 1)) 0 = 16 * vl (l.take k) 0 + (udg (l[k]'h)).toNat := by
  rw [List.take_succ_eq_append_getElem h, vl_append]
  rfl
theorem vl_small {l : List UInt8} {k : Nat} (hk : k ≤ l.length) (h : k ≤ 15) : vl (l.take k) 0 < 1152921504606846976 := by
  have h1 := vl_lt (l.take k) 0 0 (by decide)
  rw [List.length_take, Nat.min_eq_left hk, Nat.zero_add] at h1
  exact Nat.lt_of_lt_of_le h1 (Nat.pow_le_pow_right (by decide) h)
theorem rdd_len {l : List UInt8} (h : l.length ≠ 16) : rdd l = (0, false) := by rw [rdd, if_neg (fun e => h e.1)]
theorem rdd_no {l : List UInt8} (h : hx l = false) : rdd l = (0, false) := by rw [rdd, if_neg (fun e => by rw [h] at e; exact Bool.false_ne_true e.2)]
theorem rdd_yes {l : List UInt8} (hl : l.length = 16) (h : hx l = true) : rdd l = (vl l 0, true) := by rw [rdd, if_pos ⟨hl, h⟩]
theorem or_says (n d : Nat) (hn : n < 1152921504606846976) (hd : d < 16) : bits .or .u64 (IntKind.u64.wrap ((n : Int) * 16)) (d : Int) = ((16 * n + d : Nat) : Int) := by
  have h1 : IntKind.u64.wrap ((n : Int) * 16) = ((n * 16 : Nat) : Int) := by
    have e : ((n : Int) * 16) = ((n * 16 : Nat) : Int) := by omega
    rw [e]
    simp [IntKind.wrap, IntKind.signed, IntKind.bits]
    omega
  rw [h1, u64_or_nat (n * 16) d (by omega) (by omega)]
  congr 1
  have := Nat.shiftLeft_add_eq_or_of_lt (i := 4) (b := d) (by simpa using hd) n
  rw [Nat.shiftLeft_eq] at this
  rw [show n * 16 = n * 2 ^ 4 from rfl, ← this]
  omega
theorem pre_cons (b c : UInt8) (l : List UInt8) : [c].isPrefixOf (b :: l) = decide (b = c) := by
  simp only [List.isPrefixOf, Bool.and_true]
  by_cases h : b = c
  · subst h; simp
  · rw [decide_eq_false h]
    exact beq_eq_false_iff_ne.2 fun e => h e.symm
theorem ncut_yes (c : UInt8) (l : List UInt8) : offP (c :: l) [c] = l := by
  unfold offP
  rw [pre_cons]; simp
theorem str_is {l m : List UInt8} (h : l = m) : ((str l).toList == m) = true := by rw [str_tl, h]; exact beq_self_eq_true _
theorem str_not {l m : List UInt8} (h : ¬ l = m) : ((str l).toList == m) = false := by rw [str_tl]; exact beq_eq_false_iff_ne.2 h
theorem bse_len (l : List UInt8) : (bse l).length ≤ l.length := by
  unfold bse offS
  split
  · rw [List.length_take]; omega
  · exact Nat.le_refl _
/-- What a text names, as a result. -/
def prv (l : List UInt8) : Value := .tuple #[.int .i64 ((prs l).1 : Nat), .int .u64 ((prs l).2.1 : Nat), .bool (prs l).2.2.1, .bool (prs l).2.2.2]
end Go.Proofs.YtakejacamkdncaaGreatDoor
/- What a text names, by the document. One contract. -/
namespace Go.Proofs.YtakejacamkdncaaGreatDoor
open Go.RowKit
set_option linter.unusedVariables false
set_option linter.unusedSimpArgs false
set_option maxRecDepth 20000

theorem new_len {l : List UInt8} (h : isNw l = true) : 4 ≤ l.length := by
  obtain ⟨m, hm⟩ := List.isSuffixOf_iff_suffix.1 (show nw.isSuffixOf l = true from h)
  rw [← hm, List.length_append]
  simp [nw]
theorem new_raw (l : List UInt8) (h : 4 ≤ l.length) : (((str l).extract (l.length - 4) l.length).toList == [46, 110, 101, 119]) = isNw l := by
  have := suf_cut l nw h
  rw [str_tl nw] at this
  exact this
theorem bse_new' {l : List UInt8} (h : isNw l = true) : (str l).extract 0 (l.length - 4) = str (bse l) := by
  rw [str_cut]
  unfold bse offS
  rw [if_pos (show nw.isSuffixOf l = true from h)]
  rfl
theorem lst_len {l : List UInt8} (hm : ¬ l = mani) (h : l.length ≠ 17) : lst l = (0, 0, false) := by
  cases l with
  | nil => rfl
  | cons c r =>
    have hr : rdd r = (0, false) := rdd_len (by simp only [List.length_cons] at h; omega)
    rw [lst, if_neg hm, nmb, nmb, hr]
    simp
theorem get_str (m : List UInt8) (k : Nat) (hk : k < m.length) : ∀ h, (str m)[k]'h = m[k]'hk := fun _ => rfl
theorem lst_seg' (r : List UInt8) (hl : r.length = 16) : lst (115 :: r) = nmb 1 r := by rw [lst, if_neg (mani_ne hl), if_pos rfl]
theorem lst_chk' (r : List UInt8) (hl : r.length = 16) : lst (99 :: r) = nmb 2 r := by rw [lst, if_neg (mani_ne hl), if_neg (by decide), if_pos rfl]
theorem lst_other (c : UInt8) (r : List UInt8) (hl : r.length = 16) (h1 : c ≠ 115) (h2 : c ≠ 99) : lst (c :: r) = (0, 0, false) := by rw [lst, if_neg (mani_ne hl), if_neg h1, if_neg h2]
end Go.Proofs.YtakejacamkdncaaGreatDoor
/- The names of numbers, both sides'. One contract each. -/
namespace Go.Proofs.YtakejacamkdncaaGreatDoor
open Go.RowKit
set_option linter.unusedVariables false
set_option linter.unusedSimpArgs false
set_option maxRecDepth 20000

theorem dig_lit {k : Nat} (hk : k < 16) : ∀ h, (({ data := #[48, 49, 50, 51, 52, 53, 54, 55, 56, 57, 97, 98, 99, 100, 101, 102] } : ByteArray))[k]'h = dig k := by
  have : ∀ i : Fin 16, (str dgs)[i.val]'(by rw [str_size]; exact i.2) = dig i.val := by decide
  exact fun h => this ⟨k, hk⟩
theorem cell_nw (w : World) (v : Value) (t : TypeId) : (w.alloc (.cells #[v] t)).cell? ⟨w.heap.size, 0, none⟩ = some v := by
  rw [(Cells.made w t #[v]).cell]; rfl
theorem conv_one (a : UInt8) (W : World) (g : Nat) (h : W.cell? ⟨g, 0, none⟩ = some (.int .u8 (a.toNat : Int))) :
    (convert 113 9 (.slice (some ⟨g, 0, none⟩) 1 1)).run Tryz.prog W = .ok (.string (str [a])) W := by
  refine run_convert_bytes_back W _ _ 5 _ _ [a] Tryz.underlying113 Tryz.underlying5 Tryz.underlying9 (fun j hj => ?_)
  have : j = 0 := by simp at hj; omega
  subst this
  have e : (⟨g, 0, none⟩ : Addr).add 0 = ⟨g, 0, none⟩ := rfl
  rw [e]; exact h
theorem conv_new (a : UInt8) (W : World) : (convert 113 9 (.slice (some ⟨W.heap.size, 0, none⟩) 1 1)).run Tryz.prog (W.alloc (.cells #[.int .u8 (a.toNat : Int)] 5)) = .ok (.string (str [a])) (W.alloc (.cells #[.int .u8 (a.toNat : Int)] 5)) :=
  conv_one a _ _ (cell_nw _ _ _)
/-- The program's digits so far, in an array. -/
def rowA (n k : Nat) : Array Value := Array.ofFn fun i : Fin 16 => if i.val < k then .int .u8 ((dig (n / 16 ^ (15 - i.val) % 16)).toNat : Int) else .int .u8 0
theorem rowA_nil (n : Nat) : rowA n 0 = #[.int .u8 0, .int .u8 0, .int .u8 0, .int .u8 0, .int .u8 0, .int .u8 0, .int .u8 0, .int .u8 0, .int .u8 0, .int .u8 0, .int .u8 0, .int .u8 0, .int .u8 0, .int .u8 0, .int .u8 0, .int .u8 0] := by
  unfold rowA
  simp only [Nat.not_lt_zero, if_false]
  rfl
theorem rowA_at (n k i : Nat) (h : i < 16) : (rowA n k)[i]? = some (if i < k then .int .u8 ((dig (n / 16 ^ (15 - i) % 16)).toNat : Int) else .int .u8 0) := by
  unfold rowA
  rw [Array.getElem?_ofFn, dif_pos h]
theorem rowA_set {n k : Nat} (h : k < 16) : (rowA n k).setIfInBounds k (.int .u8 ((dig (n / 16 ^ (15 - k) % 16)).toNat : Int)) = rowA n (k + 1) := by
  have hs : ∀ m, (rowA n m).size = 16 := fun m => by unfold rowA; simp
  apply Array.ext
  · simp [hs]
  · intro i h1 h2
    rw [hs] at h2
    apply Option.some.inj
    rw [← Array.getElem?_eq_getElem, ← Array.getElem?_eq_getElem, rowA_at n (k + 1) i h2, Array.getElem?_setIfInBounds]
    by_cases e : k = i
    · subst e
      rw [if_pos rfl, if_pos (by rw [hs]; exact h), if_pos (by omega)]
    · rw [if_neg e, rowA_at n k i h2]
      by_cases hlt : i < k
      · rw [if_pos hlt, if_pos (by omega)]
      · rw [if_neg hlt, if_neg (by omega)]
theorem shr_says (n k : Nat) (h : k < 16) : ((n : Int) / 2 ^ (4 * (15 - k))).tmod 16 = ((n / 16 ^ (15 - k) % 16 : Nat) : Int) := by
  have e : (2 : Int) ^ (4 * (15 - k)) = ((16 ^ (15 - k) : Nat) : Int) := by
    rw [Int.pow_mul]
    simp
  rw [e]
  rfl
theorem ret_str {a b : ByteArray} (h : a = b) : Ending.returned (.string a) = .returned (.string b) := by rw [h]
theorem nnew_c (l : List UInt8) (w : World) (hl : l.length ≤ 9223372036854770000) :
    Calls Tryz.prog 29 #[.string (str l)] w fun e w' => e = .returned (.string (str (l ++ nw))) ∧ w = w' := by
  have hsz := str_size l
  have HA : Hid (str l ++ str nw = str (l ++ nw)) := str_append _ _
  have h4 : (⟨#[46, 110, 101, 119]⟩ : ByteArray).size = 4 := rfl
  have hno : ¬ (9223372036854775807 < (str l).size + 4) := by rw [hsz]; omega
  clear hsz
  generalize str l = s at *
  go_enter Tryz.func29, Tryz.ntmps29
  go_wp2_with fail
  go_ret
  exact ⟨ret_str HA.out, rfl⟩
end Go.Proofs.YtakejacamkdncaaGreatDoor
