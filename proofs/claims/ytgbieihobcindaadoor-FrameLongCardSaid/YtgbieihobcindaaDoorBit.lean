/- Bits of bytes, one by one; a bit that is turned; a block of bytes that the call has made. Plain mathematics, and words on memory. -/
import Derived.Test.YtgbieihobcindaaDoorMem
import Derived.Test.YtgbieihobcindaaDoorCrc
import Derived.Below
namespace Go.Proofs.YtgbieihobcindaaDoor
open Go.RowKit
set_option linter.unusedVariables false

def bitAt (l : List UInt8) (q : Nat) : Nat := (l.getD (q / 8) 0).toNat / 2 ^ (q % 8) % 2
def maskAt (a k m q : Nat) : Nat := if a ≤ q ∧ q < a + k then m / 2 ^ (q - a) % 2 else 0
theorem bitsOf_get : ∀ (k n i : Nat), i < k → (bitsOf k n)[i]? = some (n / 2 ^ i % 2)
  | 0, _, _, h => by omega
  | k + 1, n, 0, _ => by simp [bitsOf]
  | k + 1, n, i + 1, h => by
    rw [bitsOf, List.getElem?_cons_succ, bitsOf_get k (n / 2) i (by omega), Nat.div_div_eq_div_mul, Nat.pow_succ, Nat.mul_comm 2]
theorem bitsAll_get : ∀ (l : List UInt8) (q : Nat), q < 8 * l.length → (bitsAll l)[q]? = some (bitAt l q)
  | [], q, h => by simp at h
  | b :: r, q, h => by
    rw [bitsAll]
    by_cases hq : q < 8
    · rw [List.getElem?_append_left (by rw [bitsOf_length]; exact hq), bitsOf_get _ _ _ hq]
      have h1 : q / 8 = 0 := by omega
      have h2 : q % 8 = q := by omega
      simp [bitAt, h1, h2]
    · rw [List.getElem?_append_right (by rw [bitsOf_length]; omega), bitsOf_length, bitsAll_get r (q - 8) (by simp at h; omega)]
      have h1 : q / 8 = (q - 8) / 8 + 1 := by omega
      have h2 : q % 8 = (q - 8) % 8 := by omega
      simp [bitAt, h1, h2]
theorem mask_get (a k m n q : Nat) (h : q < a + k + n) : (zeros a ++ bitsOf k (m % 2 ^ k) ++ zeros n)[q]? = some (maskAt a k m q) := by
  rw [bitsOf_mod, List.append_assoc]
  unfold maskAt
  by_cases h1 : q < a
  · rw [List.getElem?_append_left (by simp [zeros, h1]), if_neg (by omega)]
    simp [zeros, h1]
  · rw [List.getElem?_append_right (by simp [zeros]; omega)]
    simp only [zeros, List.length_replicate]
    by_cases h2 : q < a + k
    · rw [List.getElem?_append_left (by rw [bitsOf_length]; omega), bitsOf_get _ _ _ (by omega), if_pos ⟨by omega, h2⟩]
    · rw [List.getElem?_append_right (by rw [bitsOf_length]; omega), bitsOf_length, if_neg (by omega), List.getElem?_replicate, if_pos (by omega)]
/-- Bytes in which the bits of m stand turned, from place a on, k of them. -/
def Turned (s bs : List UInt8) (a k m : Nat) : Prop := bs.length = s.length ∧ ∀ q, q < 8 * s.length → bitAt bs q = bitAt s q ^^^ maskAt a k m q
theorem turned_bits {s bs : List UInt8} {a k m : Nat} (h : Turned s bs a k m) (hk : a + k ≤ 8 * s.length) :
    bitsAll bs = List.zipWith (· ^^^ ·) (bitsAll s) (zeros a ++ bitsOf k (m % 2 ^ k) ++ zeros (8 * s.length - a - k)) := by
  apply List.ext_getElem?
  intro q
  rw [List.getElem?_zipWith]
  by_cases hq : q < 8 * s.length
  · rw [bitsAll_get bs q (by rw [h.1]; exact hq), bitsAll_get s q hq, mask_get a k m _ q (by omega), h.2 q hq]
  · rw [List.getElem?_eq_none (by rw [bitsAll_length, h.1]; omega), List.getElem?_eq_none (l := bitsAll s) (by rw [bitsAll_length]; omega)]
theorem turned_start (s : List UInt8) (a m : Nat) : Turned s s a 0 m :=
  ⟨rfl, fun q _ => by unfold maskAt; rw [if_neg (by omega), Nat.xor_zero]⟩
theorem turned_stay {s bs : List UInt8} {a k m : Nat} (h : Turned s bs a k m) (hd : m / 2 ^ k % 2 = 0) : Turned s bs a (k + 1) m :=
  ⟨h.1, fun q hq => by
    rw [h.2 q hq]
    congr 1
    unfold maskAt
    by_cases h1 : a ≤ q ∧ q < a + k
    · rw [if_pos h1, if_pos (by omega)]
    · by_cases h2 : q = a + k
      · subst h2
        rw [if_neg h1, if_pos (by omega), Nat.add_sub_cancel_left, hd]
      · rw [if_neg h1, if_neg (by omega)]⟩
theorem flip_bit (x j i : Nat) : (x ^^^ 2 ^ j) / 2 ^ i % 2 = (x / 2 ^ i % 2) ^^^ (if i = j then 1 else 0) := by
  rw [← Nat.toNat_testBit, ← Nat.toNat_testBit, Nat.testBit_xor, Nat.testBit_two_pow]
  by_cases h : j = i
  · subst h
    cases x.testBit j <;> simp
  · rw [if_neg (fun e => h e.symm)]
    cases x.testBit i <;> simp [h]
theorem turned_flip {s bs : List UInt8} {a k m : Nat} (h : Turned s bs a k m) (hk : a + k < 8 * s.length) (hd : m / 2 ^ k % 2 = 1) (x : UInt8)
    (hx : x.toNat = (bs.getD ((a + k) / 8) 0).toNat ^^^ 2 ^ ((a + k) % 8)) : Turned s (bs.set ((a + k) / 8) x) a (k + 1) m :=
  ⟨by simp [h.1], fun q hq => by
    have hlt : (a + k) / 8 < bs.length := by rw [h.1]; omega
    have e1 : bitAt (bs.set ((a + k) / 8) x) q = bitAt bs q ^^^ (if q = a + k then 1 else 0) := by
      unfold bitAt
      by_cases h8 : q / 8 = (a + k) / 8
      · rw [h8]
        have : (bs.set ((a + k) / 8) x).getD ((a + k) / 8) 0 = x := by simp [List.getD_eq_getElem?_getD, hlt]
        rw [this, hx, flip_bit]
        congr 1
        by_cases he : q = a + k
        · rw [if_pos (by rw [he]), if_pos he]
        · rw [if_neg (by omega), if_neg he]
      · have : (bs.set ((a + k) / 8) x).getD (q / 8) 0 = bs.getD (q / 8) 0 := by rw [List.getD_eq_getElem?_getD, List.getElem?_set_ne (fun e => h8 e.symm), ← List.getD_eq_getElem?_getD]
        rw [this, if_neg (by omega), Nat.xor_zero]
    rw [e1, h.2 q hq, Nat.xor_assoc]
    congr 1
    unfold maskAt
    by_cases h1 : a ≤ q ∧ q < a + k
    · rw [if_pos h1, if_neg (by omega), if_pos (by omega), Nat.xor_zero]
    · by_cases h2 : q = a + k
      · subst h2
        rw [if_neg h1, if_pos rfl, if_pos (by omega), Nat.add_sub_cancel_left, hd, Nat.zero_xor]
      · rw [if_neg h1, if_neg h2, if_neg (by omega), Nat.xor_zero]⟩
theorem mod_next (m k : Nat) : m % 2 ^ (k + 1) = 0 ↔ m % 2 ^ k = 0 ∧ m / 2 ^ k % 2 = 0 := by
  rw [Nat.mod_pow_succ]
  have := Nat.two_pow_pos k
  constructor
  · intro h
    have h1 : m % 2 ^ k = 0 := by omega
    have h2 : 2 ^ k * (m / 2 ^ k % 2) = 0 := by omega
    rcases Nat.mul_eq_zero.1 h2 with h3 | h3
    · omega
    · exact ⟨h1, h3⟩
  · rintro ⟨h1, h2⟩
    rw [h1, h2]; simp
/-- The sum of turned bytes. -/
theorem turned_sum {s bs : List UInt8} {a k m : Nat} (h : Turned s bs a k m) (hk : k ≤ 32) (ha : a + k ≤ 8 * s.length) (he : upd 0 bs = upd 0 s) : m % 2 ^ k = 0 := by
  unfold upd at he
  have he2 : runs (0 ^^^ ones) (bitsAll s) = runs (0 ^^^ ones) (bitsAll bs) := by
    have := congrArg (· ^^^ ones) he
    simp only [xor_self'] at this
    exact this.symm
  rw [turned_bits h ha] at he2
  exact runs_burst k (m % 2 ^ k) a (8 * s.length - a - k) _ _ hk (Nat.mod_lt _ (Nat.two_pow_pos k)) (by rw [bitsAll_length]; omega) he2
theorem bits_inj : ∀ (a b : List UInt8), a.length = b.length → bitsAll a = bitsAll b → a = b
  | [], [], _, _ => rfl
  | x :: a, y :: b, hl, h => by
    simp only [bitsAll] at h
    obtain ⟨h1, h2⟩ := List.append_inj h (by rw [bitsOf_length, bitsOf_length])
    rw [bits_inj a b (by simpa using hl) h2]
    congr 1
    have hx := UInt8.toNat_lt x
    have hy := UInt8.toNat_lt y
    apply UInt8.toNat_inj.1
    have key : ∀ (k n : Nat), n < 2 ^ k → ∀ m, m < 2 ^ k → bitsOf k n = bitsOf k m → n = m := by
      intro k
      induction k with
      | zero => intro n hn m hm _; simp at hn hm; omega
      | succ k ih =>
        intro n hn m hm he
        simp only [bitsOf, List.cons.injEq] at he
        have := ih (n / 2) (by rw [Nat.pow_succ] at hn; omega) (m / 2) (by rw [Nat.pow_succ] at hm; omega) he.2
        omega
    exact key 8 _ hx _ hy h1
theorem turned_none {s bs : List UInt8} {a k m : Nat} (h : Turned s bs a k m) (hk : a + k ≤ 8 * s.length) (h0 : m % 2 ^ k = 0) : bs = s := by
  refine bits_inj _ _ h.1 ?_
  rw [turned_bits h hk, h0, bitsOf_zero]
  have e : zeros a ++ zeros k ++ zeros (8 * s.length - a - k) = zeros (bitsAll s).length := by
    rw [bitsAll_length]
    simp only [zeros, List.replicate_append_replicate]
    congr 1
    omega
  rw [e, zip_zeros]

/-- Block g holds these bytes at its beginning, none of them frozen. -/
def Blk (w : World) (g : Nat) (e : TypeId) (bs : List UInt8) : Prop :=
  ∃ cs fr, w.heap[g]? = some (.cells cs e fr) ∧ bs.length ≤ fr.1 ∧ ∀ i (h : i < bs.length), cs[i]? = some (bv (bs[i]'h))
section
variable {w w' : World} {g : Nat} {e : TypeId} {bs : List UInt8}
theorem Blk.cell (h : Blk w g e bs) (i : Nat) (hi : i < bs.length) : w.cell? ⟨g, i, none⟩ = some (.int .u8 ((bs[i]'hi).toNat : Nat)) := by
  obtain ⟨cs, fr, hh, _, hc⟩ := h
  rw [cell_of_row w g i cs e fr hh, hc i hi]
  rfl
theorem Blk.frozen (h : Blk w g e bs) (i : Nat) (hi : i < bs.length) : w.frozen? ⟨g, i, none⟩ = false := by
  obtain ⟨cs, ⟨lo, up⟩, hh, hl, hc⟩ := h
  simp only [World.frozen?, hh]
  simp only at hl
  simp
  omega
theorem Blk.set (h : Blk w g e bs) (i : Nat) (b : UInt8) : Blk (w.setCell ⟨g, i, none⟩ (.int .u8 (b.toNat : Nat))) g e (bs.set i b) := by
  obtain ⟨cs, fr, hh, hl, hc⟩ := h
  refine ⟨cs.setIfInBounds i (.int .u8 (b.toNat : Nat)), fr, ?_, by simpa using hl, fun j hj => ?_⟩
  · simp [World.setCell, Array.getElem?_modify, hh]
  · have hj' : j < bs.length := by simpa using hj
    have hcj := hc j hj'
    by_cases hij : i = j
    · subst hij
      have hlt := (Array.getElem?_eq_some_iff.1 hcj).1
      simp [hlt, bv]
    · rw [Array.getElem?_setIfInBounds_ne hij, hcj, List.getElem_set_ne hij]
theorem Blk.drewN (h : Blk w g e bs) (n : Nat) : Blk (w.drewN n) g e bs := h
theorem Blk.drew (h : Blk w g e bs) : Blk w.drew g e bs := h
end
theorem blk_bytes (w : World) (e : TypeId) (s : List UInt8) : Blk (Lib.bytesWorld w e (str s)) w.heap.size e s := by
  refine ⟨_, _, Lib.bytesWorld_at_new w e (str s), ?_, fun i hi => ?_⟩
  · simp [Lib.bytesCells, str]
  · simp [Lib.bytesCells, str, bv, Array.getElem?_append, hi]
end Go.Proofs.YtgbieihobcindaaDoor
