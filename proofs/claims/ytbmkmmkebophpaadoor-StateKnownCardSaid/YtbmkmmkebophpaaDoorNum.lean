/- Numbers and strings as bytes: the plain mathematics of layer 2. Nothing of the program. -/
import Derived.Test.YtbmkmmkebophpaaDoorMem
import Derived.Laws.BitsAllLaws
namespace Go.Proofs.YtbmkmmkebophpaaDoor
open Go.RowKit
set_option linter.unusedVariables false

/-- k bytes of a number, the lowest first. -/
def le : Nat → Nat → List UInt8
  | 0, _ => []
  | k + 1, n => UInt8.ofNat (n % 256) :: le k (n / 256)
/-- The number that bytes are. -/
def un : List UInt8 → Nat
  | [] => 0
  | b :: r => b.toNat + 256 * un r
/-- The bytes of a var; the first argument bounds their count. -/
def vrF : Nat → Nat → List UInt8
  | 0, n => [UInt8.ofNat n]
  | f + 1, n => if n < 128 then [UInt8.ofNat n] else UInt8.ofNat (n % 128 + 128) :: vrF f (n / 128)
def vr (n : Nat) : List UInt8 := vrF 9 n
def tx (s : List UInt8) : List UInt8 := vr s.length ++ s

/-- What reading gives: the error (0: none), the value, what is left. -/
structure Got (α : Type) where
  err : Int
  val : α
  rest : List UInt8
def tk (n : Nat) (l : List UInt8) : Got (List UInt8) := if n ≤ l.length then ⟨0, l.take n, l.drop n⟩ else ⟨10, [], []⟩
def num (k : Nat) (l : List UInt8) : Got Nat := if k ≤ l.length then ⟨0, un (l.take k), l.drop k⟩ else ⟨10, 0, []⟩
def vd : Nat → List UInt8 → Got Nat
  | _, [] => ⟨10, 0, []⟩
  | i, b :: r =>
    if i = 9 ∧ 1 < b.toNat then ⟨3, 0, []⟩
    else if 0 < i ∧ b.toNat = 0 then ⟨4, 0, []⟩
    else if b.toNat < 128 then ⟨0, b.toNat, r⟩
    else if (vd (i + 1) r).err = 0 then ⟨0, b.toNat % 128 + 128 * (vd (i + 1) r).val, (vd (i + 1) r).rest⟩
    else ⟨(vd (i + 1) r).err, 0, []⟩
def txd (l : List UInt8) : Got (List UInt8) := if (vd 0 l).err = 0 then tk (vd 0 l).val (vd 0 l).rest else ⟨(vd 0 l).err, [], []⟩
/-- The error behind an error. -/
def fin (e c : Int) : Int := if e = 0 then c else e

theorem fin_zero (e : Int) : fin e 0 = e := by unfold fin; split <;> omega
theorem fin_fin (e c d : Int) : fin (fin e c) d = fin e (fin c d) := by unfold fin; (repeat' split) <;> omega
theorem fin_of (c : Int) : fin 0 c = c := by simp [fin]

theorem tk_err {n : Nat} {l : List UInt8} (h : (tk n l).err ≠ 0) : (tk n l).rest = [] := by
  unfold tk at h ⊢; split <;> simp_all
theorem num_err {n : Nat} {l : List UInt8} (h : (num n l).err ≠ 0) : (num n l).rest = [] ∧ (num n l).val = 0 := by
  unfold num at h ⊢; split <;> simp_all
theorem vd_err : ∀ {l : List UInt8} {i : Nat}, (vd i l).err ≠ 0 → (vd i l).rest = [] ∧ (vd i l).val = 0
  | [], i, _ => by simp [vd]
  | b :: r, i, h => by
    unfold vd at h ⊢
    (repeat' split) <;> simp_all
theorem tk_len (n : Nat) (l : List UInt8) : (tk n l).rest.length ≤ l.length ∧ (tk n l).val.length ≤ l.length := by
  unfold tk; split <;> simp [Nat.min_le_right]
theorem num_len (n : Nat) (l : List UInt8) : (num n l).rest.length ≤ l.length := by
  unfold num; split <;> simp
theorem vd_len : ∀ (l : List UInt8) (i : Nat), (vd i l).rest.length ≤ l.length
  | [], i => by simp [vd]
  | b :: r, i => by
    have := vd_len r (i + 1)
    unfold vd
    (repeat' split) <;> simp <;> omega
theorem un_lt : ∀ (l : List UInt8), un l < 256 ^ l.length
  | [] => by simp [un]
  | b :: r => by
    have := un_lt r
    have hb := b.toNat_lt
    simp only [un, List.length_cons, Nat.pow_succ]
    omega
theorem un_append : ∀ (a b : List UInt8), un (a ++ b) = un a + 256 ^ a.length * un b
  | [], b => by simp [un]
  | x :: a, b => by
    simp only [List.cons_append, un, un_append a b, List.length_cons, Nat.pow_succ]
    rw [Nat.mul_add, Nat.mul_comm (256 ^ a.length) 256, Nat.mul_assoc]
    omega
theorem un_le : ∀ (k n : Nat), un (le k n) = n % 256 ^ k
  | 0, n => by simp [un, le, Nat.mod_one]
  | k + 1, n => by
    have h : (UInt8.ofNat (n % 256)).toNat = n % 256 := by simp
    simp only [le, un, un_le k, h, Nat.pow_succ]
    rw [Nat.mul_comm (256 ^ k) 256, Nat.mod_mul]
theorem le_length : ∀ (k n : Nat), (le k n).length = k
  | 0, _ => rfl
  | k + 1, n => by simp [le, le_length k]
theorem le_un : ∀ (l : List UInt8), le l.length (un l) = l
  | [] => rfl
  | b :: r => by
    have hb := b.toNat_lt
    simp only [List.length_cons, le, un]
    rw [show (b.toNat + 256 * un r) / 256 = un r from by omega, le_un r, show (b.toNat + 256 * un r) % 256 = b.toNat from by omega]
    simp
theorem vrF_pos (f n : Nat) : 0 < (vrF f n).length := by
  cases f <;> unfold vrF <;> (try split) <;> simp
theorem vrF_len : ∀ (f n : Nat), (vrF f n).length ≤ f + 1
  | 0, n => by simp [vrF]
  | f + 1, n => by
    have := vrF_len f (n / 128)
    unfold vrF
    split <;> simp <;> omega
theorem vr_len (n : Nat) : 0 < (vr n).length ∧ (vr n).length ≤ 10 := ⟨vrF_pos 9 n, vrF_len 9 n⟩

/-- What is written is read. -/
theorem vd_vrF : ∀ (f i n : Nat) (more : List UInt8), i + f = 9 → n < 2 ^ (64 - 7 * i) → (0 < i → 0 < n) → vd i (vrF f n ++ more) = ⟨0, n, more⟩
  | 0, i, n, more, hi, hn, h0 => by
    have hi9 : i = 9 := by omega
    subst hi9
    have hn2 : n < 2 := by simpa using hn
    have ht : (UInt8.ofNat n).toNat = n := by simp; omega
    have := h0 (by omega)
    have h1 : n = 1 := by omega
    subst h1
    simp [vrF, vd]
  | f + 1, i, n, more, hi, hn, h0 => by
    unfold vrF
    by_cases h : n < 128
    · rw [if_pos h]
      have ht : (UInt8.ofNat n).toNat = n := by simp; omega
      simp only [List.cons_append, List.nil_append, vd, ht]
      rw [if_neg (by omega), if_neg (by omega), if_pos h]
    · rw [if_neg h]
      have ht : (UInt8.ofNat (n % 128 + 128)).toNat = n % 128 + 128 := by simp; omega
      have hp : 2 ^ (64 - 7 * i) = 2 ^ (64 - 7 * (i + 1)) * 128 := by
        rw [show 64 - 7 * i = (64 - 7 * (i + 1)) + 7 from by omega, Nat.pow_add]
      have hn' : n / 128 < 2 ^ (64 - 7 * (i + 1)) := by
        rw [hp] at hn
        exact Nat.div_lt_of_lt_mul (by rw [Nat.mul_comm]; exact hn)
      have ih := vd_vrF f (i + 1) (n / 128) more (by omega) hn' (by omega)
      simp only [List.cons_append, vd, ht, ih]
      rw [if_neg (by omega), if_neg (by omega), if_neg (by omega)]
      simp
      omega
theorem vd_vr (n : Nat) (more : List UInt8) (hn : n < 18446744073709551616) : vd 0 (vr n ++ more) = ⟨0, n, more⟩ :=
  vd_vrF 9 0 n more rfl (by simpa using hn) (by omega)
/-- A proper beginning of a var lacks bytes. -/
theorem vd_vrF_cut : ∀ (f i n : Nat) (p s : List UInt8), vrF f n = p ++ s → s ≠ [] → i + f ≤ 9 → vd i p = ⟨10, 0, []⟩
  | 0, i, n, p, s, he, hs, hi => by
    unfold vrF at he
    cases p with
    | nil => simp [vd]
    | cons b p => simp at he; exact absurd he.2.2 hs
  | f + 1, i, n, p, s, he, hs, hi => by
    unfold vrF at he
    by_cases h : n < 128
    · rw [if_pos h] at he
      cases p with
      | nil => simp [vd]
      | cons b p => simp at he; exact absurd he.2.2 hs
    · rw [if_neg h] at he
      cases p with
      | nil => simp [vd]
      | cons b p =>
        simp only [List.cons_append, List.cons.injEq] at he
        obtain ⟨rfl, he⟩ := he
        have ht : (UInt8.ofNat (n % 128 + 128)).toNat = n % 128 + 128 := by simp; omega
        have ih := vd_vrF_cut f (i + 1) (n / 128) p s he hs (by omega)
        simp only [vd, ht, ih]
        rw [if_neg (by omega), if_neg (by omega), if_neg (by omega), if_neg (by omega)]
/-- What was read is what it is written as. -/
theorem vrF_vd : ∀ (f i : Nat) (l : List UInt8), i + f = 9 → (vd i l).err = 0 → l = vrF f (vd i l).val ++ (vd i l).rest ∧ (0 < i → 0 < (vd i l).val) ∧ (vd i l).val < 2 ^ (64 - 7 * i)
  | f, i, [], hi, h => by simp [vd] at h
  | 0, i, b :: r, hi, h => by
    have hi9 : i = 9 := by omega
    subst hi9
    unfold vd at h ⊢
    by_cases h1 : (9 = 9 ∧ 1 < b.toNat)
    · rw [if_pos h1] at h; simp at h
    · rw [if_neg h1] at h ⊢
      by_cases h2 : (0 < 9 ∧ b.toNat = 0)
      · rw [if_pos h2] at h; simp at h
      · rw [if_neg h2] at h ⊢
        rw [if_pos (by omega)]
        simp [vrF]
        omega
  | f + 1, i, b :: r, hi, h => by
    have hb := b.toNat_lt
    unfold vd at h ⊢
    by_cases h1 : (i = 9 ∧ 1 < b.toNat)
    · rw [if_pos h1] at h; simp at h
    · rw [if_neg h1] at h ⊢
      by_cases h2 : (0 < i ∧ b.toNat = 0)
      · rw [if_pos h2] at h; simp at h
      · rw [if_neg h2] at h ⊢
        by_cases h3 : b.toNat < 128
        · rw [if_pos h3]
          have hp : 2 ^ 7 ≤ 2 ^ (64 - 7 * i) := Nat.pow_le_pow_right (by omega) (by omega)
          refine ⟨by simp [vrF, h3], fun hi0 => ?_, Nat.lt_of_lt_of_le (show b.toNat < 2 ^ 7 from by simpa using h3) hp⟩
          show 0 < b.toNat
          omega
        · rw [if_neg h3] at h ⊢
          by_cases h4 : (vd (i + 1) r).err = 0
          · rw [if_pos h4]
            obtain ⟨e1, e2, e3⟩ := vrF_vd f (i + 1) r (by omega) h4
            have hp : 2 ^ (64 - 7 * i) = 2 ^ (64 - 7 * (i + 1)) * 128 := by
              rw [show 64 - 7 * i = (64 - 7 * (i + 1)) + 7 from by omega, Nat.pow_add]
            have hv := e2 (by omega)
            refine ⟨?_, fun _ => by show 0 < b.toNat % 128 + 128 * _; omega, by show b.toNat % 128 + 128 * _ < _; rw [hp]; omega⟩
            show b :: r = vrF (f + 1) (b.toNat % 128 + 128 * (vd (i + 1) r).val) ++ (vd (i + 1) r).rest
            unfold vrF
            rw [if_neg (by omega), show (b.toNat % 128 + 128 * (vd (i + 1) r).val) / 128 = (vd (i + 1) r).val from by omega, List.cons_append, ← e1,
              show (b.toNat % 128 + 128 * (vd (i + 1) r).val) % 128 + 128 = b.toNat from by omega]
            simp
          · rw [if_neg h4] at h
            exact absurd h h4
theorem vr_vd (l : List UInt8) (h : (vd 0 l).err = 0) : l = vr (vd 0 l).val ++ (vd 0 l).rest ∧ (vd 0 l).val < 18446744073709551616 := by
  obtain ⟨a, _, c⟩ := vrF_vd 9 0 l rfl h
  exact ⟨a, by simpa using c⟩
theorem u64_id (n : Int) (h : 0 ≤ n) (h2 : n < 18446744073709551616) : IntKind.u64.wrap n = n := by
  simp [IntKind.wrap, IntKind.bits, IntKind.signed]; omega
/-- A number's next group is laid over those ahead of it. -/
theorem or_sh (a b s : Nat) (hs64 : s < 64) (ha : a < 2 ^ s) (hb : b * 2 ^ s < 18446744073709551616) : bits .or .u64 (a : Int) (IntKind.u64.wrap (IntKind.u64.wrap (b : Int) * 2 ^ s)) = ((a + 2 ^ s * b : Nat) : Int) := by
  have hp : 0 < 2 ^ s := Nat.two_pow_pos s
  have hb1 : b ≤ b * 2 ^ s := Nat.le_mul_of_pos_right b hp
  have hs : 2 ^ s ≤ 2 ^ 63 := Nat.pow_le_pow_right (by omega) (by omega)
  have e1 : IntKind.u64.wrap (b : Int) = b := u64_id _ (by omega) (by omega)
  have e2 : ((b : Int) * 2 ^ s) = ((b * 2 ^ s : Nat) : Int) := by push_cast; rfl
  rw [e1, e2, u64_id _ (by omega) (by omega)]
  rw [u64_or_nat _ _ (by omega) hb, Nat.or_comm, nat_join s _ _ (Nat.mul_mod_left _ _) ha, Nat.mul_comm b]
  congr 1
  omega
theorem un_step (x : List UInt8) (k : Nat) (hk : k < x.length) (h8 : x.length ≤ 8) :
    bits .or .u64 (un (x.take k) : Int) (IntKind.u64.wrap (IntKind.u64.wrap ((x[k]'hk).toNat : Int) * 2 ^ (8 * k))) = (un (x.take (k + 1)) : Int) := by
  have h1 := un_lt (x.take k)
  have hb := (x[k]'hk).toNat_lt
  have hp : 256 ^ k = 2 ^ (8 * k) := by rw [show (256 : Nat) = 2 ^ 8 from rfl, ← Nat.pow_mul]
  have hp2 : 2 ^ (8 * k) ≤ 2 ^ 56 := Nat.pow_le_pow_right (by omega) (by omega)
  rw [List.length_take, Nat.min_eq_left (by omega), hp] at h1
  rw [or_sh _ _ _ (by omega) h1 (Nat.lt_of_le_of_lt (Nat.mul_le_mul (Nat.le_of_lt_succ hb) hp2) (by decide))]
  congr 1
  rw [List.take_succ_eq_append_getElem hk, un_append, List.length_take, Nat.min_eq_left (by omega), hp]
  simp [un]
theorem un_take_lt (x : List UInt8) (k : Nat) : un (x.take k) < 256 ^ x.length := by
  refine Nat.lt_of_lt_of_le (un_lt _) (Nat.pow_le_pow_right (by omega) ?_)
  rw [List.length_take]; omega
/-- What is wrong with byte b at place i of a var. -/
def vf (i b : Nat) : Int := if i = 9 ∧ 1 < b then 3 else if 0 < i ∧ b = 0 then 4 else 0
/-- A var of l is read up to byte i: n so far, li left. -/
def VdAt (l : List UInt8) (i n : Nat) (li : List UInt8) : Prop :=
  i ≤ 9 ∧ n < 2 ^ (7 * i) ∧ vd 0 l = (if (vd i li).err = 0 then ⟨0, n + 2 ^ (7 * i) * (vd i li).val, (vd i li).rest⟩ else ⟨(vd i li).err, 0, []⟩)
theorem vdAt_start (l : List UInt8) : VdAt l 0 0 l := by
  refine ⟨by omega, by simp, ?_⟩
  split
  · rename_i h; cases hv : vd 0 l; simp_all
  · rename_i h
    obtain ⟨h1, h2⟩ := vd_err h
    cases hv : vd 0 l; simp_all
theorem vdAt_nil {l : List UInt8} {i n : Nat} (h : VdAt l i n []) : vd 0 l = ⟨10, 0, []⟩ := by
  rw [h.2.2]; simp [vd]
theorem vdAt_fault {l r : List UInt8} {i n : Nat} {b : UInt8} (h : VdAt l i n (b :: r)) (hc : vf i b.toNat ≠ 0) : vd 0 l = ⟨vf i b.toNat, 0, []⟩ := by
  rw [h.2.2]
  unfold vf at hc ⊢
  unfold vd
  (repeat' split) <;> simp_all
theorem vdAt_last {l r : List UInt8} {i n : Nat} {b : UInt8} (h : VdAt l i n (b :: r)) (hc : vf i b.toNat = 0) (hb : b.toNat < 128) : vd 0 l = ⟨0, n + 2 ^ (7 * i) * b.toNat, r⟩ := by
  rw [h.2.2]
  unfold vf at hc
  unfold vd
  split at hc
  · omega
  · rename_i h1
    split at hc
    · omega
    · rename_i h2
      rw [if_neg h1, if_neg h2, if_pos hb]
      simp
theorem vdAt_next {l r : List UInt8} {i n : Nat} {b : UInt8} (h : VdAt l i n (b :: r)) (hc : vf i b.toNat = 0) (hb : 128 ≤ b.toNat) : VdAt l (i + 1) (n + 2 ^ (7 * i) * (b.toNat % 128)) r := by
  obtain ⟨hi, hn, he⟩ := h
  have hp : 2 ^ (7 * (i + 1)) = 2 ^ (7 * i) * 128 := by rw [show 7 * (i + 1) = 7 * i + 7 from by omega, Nat.pow_add]
  unfold vf at hc
  split at hc
  · omega
  · rename_i h1
    split at hc
    · omega
    · rename_i h2
      refine ⟨by omega, ?_, ?_⟩
      · rw [hp]
        have h7 : b.toNat % 128 ≤ 127 := by omega
        have := Nat.mul_le_mul_left (2 ^ (7 * i)) h7
        omega
      · have hv : vd i (b :: r) = if (vd (i + 1) r).err = 0 then ⟨0, b.toNat % 128 + 128 * (vd (i + 1) r).val, (vd (i + 1) r).rest⟩ else ⟨(vd (i + 1) r).err, 0, []⟩ := by
          rw [vd, if_neg h1, if_neg h2, if_neg (by omega)]
        rw [he, hv]
        generalize vd (i + 1) r = T
        by_cases h4 : T.err = 0
        · rw [if_pos h4, if_pos rfl, if_pos h4, hp]
          congr 1
          show n + 2 ^ (7 * i) * (b.toNat % 128 + 128 * T.val) = n + 2 ^ (7 * i) * (b.toNat % 128) + 2 ^ (7 * i) * 128 * T.val
          rw [Nat.mul_add, Nat.mul_assoc]
          omega
        · rw [if_neg h4, if_neg h4, if_neg h4]
theorem var_step (i n b : Nat) (hi : i ≤ 9) (hn : n < 2 ^ (7 * i)) (hb : b < 256) (hc : vf i b = 0) (h128 : i = 9 → b < 128) :
    bits .or .u64 (n : Int) (IntKind.u64.wrap (IntKind.u64.wrap (bits .andNot .u8 (b : Int) 128) * 2 ^ (7 * i))) = ((n + 2 ^ (7 * i) * (b % 128) : Nat) : Int) := by
  have e1 : bits .andNot .u8 (b : Int) 128 = ((b % 128 : Nat) : Int) := by
    have := u8_andNot_nat b 128 hb (by decide)
    rw [nat_mask7] at this
    exact this
  rw [e1]
  refine or_sh n (b % 128) (7 * i) (by omega) hn ?_
  by_cases h9 : i = 9
  · subst h9
    have : b ≤ 1 := by
      unfold vf at hc
      split at hc
      · omega
      · omega
    have h2 : b % 128 ≤ 1 := by omega
    exact Nat.lt_of_le_of_lt (Nat.mul_le_mul_right _ h2) (by decide)
  · have h7 : b % 128 ≤ 127 := by omega
    have hp2 : 2 ^ (7 * i) ≤ 2 ^ 56 := Nat.pow_le_pow_right (by omega) (by omega)
    exact Nat.lt_of_le_of_lt (Nat.mul_le_mul h7 hp2) (by decide)
theorem var_lt {n b i : Nat} (hi : i ≤ 9) (hn : n < 2 ^ (7 * i)) (hb : b < 256) (hc : vf i b = 0) : n + 2 ^ (7 * i) * (b % 128) < 18446744073709551616 := by
  by_cases h9 : i = 9
  · subst h9
    have : b ≤ 1 := by
      unfold vf at hc
      split at hc
      · omega
      · omega
    have h2 : b % 128 ≤ 1 := by omega
    have := Nat.mul_le_mul_left (2 ^ (7 * 9)) h2
    have h3 : 2 ^ (7 * 9) = 9223372036854775808 := by decide
    omega
  · have h7 : b % 128 ≤ 127 := by omega
    have hp2 : 2 ^ (7 * i) ≤ 2 ^ 56 := Nat.pow_le_pow_right (by omega) (by omega)
    have := Nat.mul_le_mul hp2 h7
    have h3 : 2 ^ 56 * 127 + 2 ^ 56 < 18446744073709551616 := by decide
    omega
end Go.Proofs.YtbmkmmkebophpaaDoor
