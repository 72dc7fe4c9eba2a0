/- Frames in which bits were turned: the plain mathematics. -/
import Derived.Test.YtgbieihobcindaaDoorFr
import Derived.Test.YtgbieihobcindaaDoorBit
namespace Go.Proofs.YtgbieihobcindaaDoor
open Go.RowKit
set_option linter.unusedVariables false

theorem bitAt_left (x y : List UInt8) (q : Nat) (h : q < 8 * x.length) : bitAt (x ++ y) q = bitAt x q := by
  unfold bitAt
  rw [List.getD_eq_getElem?_getD, List.getElem?_append_left (by omega), ← List.getD_eq_getElem?_getD]
theorem bitAt_right (x y : List UInt8) (q n : Nat) (hn : x.length = n) : bitAt (x ++ y) (8 * n + q) = bitAt y q := by
  subst hn
  unfold bitAt
  rw [List.getD_eq_getElem?_getD, List.getElem?_append_right (by omega), ← List.getD_eq_getElem?_getD]
  congr 3
  · congr 1; omega
  · omega
theorem bitAt_take (l : List UInt8) (n q : Nat) (hn : n ≤ l.length) (h : q < 8 * n) : bitAt (l.take n) q = bitAt l q := by
  have := bitAt_left (l.take n) (l.drop n) q (by rw [List.length_take]; omega)
  rw [List.take_append_drop] at this
  exact this.symm
theorem bitAt_drop (l : List UInt8) (n q : Nat) (hn : n ≤ l.length) : bitAt (l.drop n) q = bitAt l (8 * n + q) := by
  have := bitAt_right (l.take n) (l.drop n) q n (by rw [List.length_take]; omega)
  rw [List.take_append_drop] at this
  exact this.symm
theorem eq_of_bits {a b : List UInt8} (hl : a.length = b.length) (h : ∀ q, q < 8 * a.length → bitAt a q = bitAt b q) : a = b := by
  refine bits_inj a b hl (List.ext_getElem? fun q => ?_)
  rcases Nat.lt_or_ge q (8 * a.length) with h1 | h1
  · rw [bitsAll_get a q h1, bitsAll_get b q (by omega), h q h1]
  · rw [List.getElem?_eq_none (by rw [bitsAll_length]; omega), List.getElem?_eq_none (by rw [bitsAll_length]; omega)]
theorem mask_off {a k m q : Nat} (h : q < a ∨ a + k ≤ q) : maskAt a k m q = 0 := by
  unfold maskAt; rw [if_neg (by omega)]
theorem xor_zero' (x : Nat) : x ^^^ 0 = x := by simp
theorem upd_tail_ne {s x : List UInt8} {n : List UInt8} {a k m : Nat} (h : Turned (n ++ s) (n ++ x) a k m) (hk : k ≤ 32) (ha : a + k ≤ 8 * (n ++ s).length) (hm : m % 2 ^ k ≠ 0) : upd 0 (n ++ x) ≠ upd 0 (n ++ s) :=
  fun he => hm (turned_sum h hk ha he)
/-- Bits of the sum, or bits of the payload within 32, turned: told. -/
theorem turned_frame (s bs more : List UInt8) (a k m : Nat) (hs : s.length ≤ 4096) (h : Turned (frm s) bs a k m) (hk : k ≤ 32) (hm : m % 2 ^ k ≠ 0)
    (hc : (16 ≤ a ∧ a + k ≤ 48) ∨ (48 ≤ a ∧ a + k ≤ 48 + 8 * s.length)) : fe (bs ++ more) = 9 := by
  obtain ⟨hlen, hbits⟩ := h
  have hfl := frm_len s
  have hh := head_len s
  have hlen6 : 6 ≤ bs.length := by omega
  have t2 : (frm s).take 2 = le 2 s.length := take2 s s
  have b2 : bs.take 2 = le 2 s.length := by
    rw [← t2]
    refine eq_of_bits (by rw [List.length_take, List.length_take, hlen]) fun q hq => ?_
    rw [List.length_take] at hq
    have hq16 : q < 16 := by omega
    rw [bitAt_take bs 2 q (by omega) (by omega), bitAt_take (frm s) 2 q (by omega) (by omega), hbits q (by omega), mask_off (by omega), xor_zero']
  have hb : (bs ++ more).take 2 = le 2 s.length := by rw [List.take_append_of_le_length (by omega), b2]
  have hn : fn (bs ++ more) = s.length := by rw [fn, hb, un_le]; exact Nat.mod_eq_of_lt (by omega)
  have hl : (bs ++ more).length = 6 + s.length + more.length := by rw [List.length_append, hlen, hfl]
  have hpay : fpay (bs ++ more) = bs.drop 6 := by
    rw [fpay, hn, List.drop_append_of_le_length (by omega), List.take_append_of_le_length (by rw [List.length_drop]; omega), List.take_of_length_le (by rw [List.length_drop]; omega)]
  have hsum : fsum (bs ++ more) = un ((bs.drop 2).take 4) := by
    rw [fsum, List.drop_append_of_le_length (by omega), List.take_append_of_le_length (by rw [List.length_drop]; omega)]
  refine fe_sum (by omega) (by omega) (by omega) ?_
  rw [fck, hb, hpay, hsum]
  have old : un (((frm s).drop 2).take 4) = upd 0 (le 2 s.length ++ s) := fsum_head s s
  have d6 : (frm s).drop 6 = s := drop6 s s
  rcases hc with ⟨h1, h2⟩ | ⟨h1, h2⟩
  · -- the sum
    have p6 : bs.drop 6 = s := by
      conv => rhs; rw [← d6]
      refine eq_of_bits (by rw [List.length_drop, List.length_drop, hlen]) fun q hq => ?_
      rw [List.length_drop] at hq
      rw [bitAt_drop bs 6 q (by omega), bitAt_drop (frm s) 6 q (by omega), hbits _ (by omega), mask_off (by omega), xor_zero']
    rw [p6, ← old]
    intro he
    have e4 : (bs.drop 2).take 4 = ((frm s).drop 2).take 4 := by
      have x1 := le_un ((bs.drop 2).take 4)
      have x2 := le_un (((frm s).drop 2).take 4)
      rw [show ((bs.drop 2).take 4).length = 4 from by rw [List.length_take, List.length_drop]; omega] at x1
      rw [show (((frm s).drop 2).take 4).length = 4 from by rw [List.length_take, List.length_drop]; omega] at x2
      rw [← x1, ← x2, he]
    have e : bs = frm s := by
      have z : ∀ l : List UInt8, l = l.take 2 ++ ((l.drop 2).take 4 ++ l.drop 6) := fun l => by
        conv => lhs; rw [← List.take_append_drop 2 l, ← List.take_append_drop 4 (l.drop 2), List.drop_drop]
      rw [z bs, z (frm s), b2, t2, e4, p6, d6]
    subst e
    exact hm (turned_sum ⟨rfl, hbits⟩ hk (by omega) rfl)
  · -- the payload
    have b6 : (bs.drop 2).take 4 = ((frm s).drop 2).take 4 := by
      refine eq_of_bits (by rw [List.length_take, List.length_take, List.length_drop, List.length_drop, hlen]) fun q hq => ?_
      rw [List.length_take, List.length_drop] at hq
      rw [bitAt_take _ 4 q (by rw [List.length_drop]; omega) (by omega), bitAt_take _ 4 q (by rw [List.length_drop]; omega) (by omega), bitAt_drop bs 2 q (by omega), bitAt_drop (frm s) 2 q (by omega), hbits _ (by omega), mask_off (by omega), xor_zero']
    rw [b6, old]
    have hl2 := le_length 2 s.length
    refine upd_tail_ne (a := a - 32) (k := k) (m := m) ⟨by rw [List.length_append, List.length_append, List.length_drop]; omega, fun q hq => ?_⟩ hk (by rw [List.length_append]; omega) hm
    rcases Nat.lt_or_ge q 16 with h3 | h3
    · rw [bitAt_left _ _ q (by omega), bitAt_left _ _ q (by omega), mask_off (by omega), xor_zero']
    · obtain ⟨r, rfl⟩ : ∃ r, q = 8 * 2 + r := ⟨q - 16, by omega⟩
      rw [List.length_append] at hq
      rw [bitAt_right _ _ r 2 hl2, bitAt_right _ _ r 2 hl2, bitAt_drop bs 6 r (by omega), hbits _ (by omega)]
      have e1 : bitAt (frm s) (8 * 6 + r) = bitAt s r := bitAt_right (head s) s r 6 hh
      rw [e1]
      congr 1
      unfold maskAt
      by_cases h5 : a ≤ 8 * 6 + r ∧ 8 * 6 + r < a + k
      · rw [if_pos h5, if_pos (by omega)]; congr 3; omega
      · rw [if_neg h5, if_neg (by omega)]
end Go.Proofs.YtgbieihobcindaaDoor
