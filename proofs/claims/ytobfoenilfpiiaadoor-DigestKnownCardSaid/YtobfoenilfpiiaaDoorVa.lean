/- Plain mathematics of digests: a step by a byte is one to one in the number and in the byte; two steps are so in the pair of bytes. Nothing is assumed beyond each fact's own bounds. -/
import Derived.Test.YtobfoenilfpiiaaDoorProg
import Derived.WalkKit
import Derived.Laws.BitsAllLaws
import Derived.Lib.Hide
namespace Go.Proofs.YtobfoenilfpiiaaDoor
open Go.RowKit
set_option linter.unusedVariables false

/-- A step of a number by a byte. -/
def dst (d b : Nat) : Nat := (d ^^^ b) * 1099511628211 % 18446744073709551616
/-- Steps by each byte. -/
def djn (d : Nat) : List UInt8 → Nat
  | [] => d
  | c :: l => djn (dst d c.toNat) l
/-- Steps by a pair's two bytes. -/
def dmx (d : Nat) (p : Nat × Nat) : Nat := dst (dst d p.1) p.2
/-- Steps by each pair. -/
def dch (d : Nat) : List (Nat × Nat) → Nat
  | [] => d
  | p :: l => dch (dmx d p) l
/-- Where digests begin. -/
abbrev bas : Nat := 14695981039346656037
theorem dst_lt (d b : Nat) : dst d b < 18446744073709551616 := Nat.mod_lt _ (by decide)
theorem dmx_lt (d : Nat) (p : Nat × Nat) : dmx d p < 18446744073709551616 := dst_lt _ _
theorem djn_lt (l : List UInt8) (d : Nat) (h : d < 18446744073709551616) : djn d l < 18446744073709551616 := by
  induction l generalizing d with
  | nil => exact h
  | cons c l ih => exact ih _ (dst_lt _ _)
theorem dch_lt (l : List (Nat × Nat)) (d : Nat) (h : d < 18446744073709551616) : dch d l < 18446744073709551616 := by
  induction l generalizing d with
  | nil => exact h
  | cons c l ih => exact ih _ (dmx_lt _ _)
theorem djn_append (l m : List UInt8) (d : Nat) : djn d (l ++ m) = djn (djn d l) m := by
  induction l generalizing d with
  | nil => rfl
  | cons c l ih => exact ih _
theorem dch_append (l m : List (Nat × Nat)) (d : Nat) : dch d (l ++ m) = dch (dch d l) m := by
  induction l generalizing d with
  | nil => rfl
  | cons c l ih => exact ih _
theorem djn_more (l : List UInt8) (d k : Nat) (h : k < l.length) : djn d (l.take (k + 1)) = dst (djn d (l.take k)) (l[k]'h).toNat := by
  rw [List.take_succ_eq_append_getElem h, djn_append]; rfl
theorem dch_more (l : List (Nat × Nat)) (d k : Nat) (h : k < l.length) : dch d (l.take (k + 1)) = dmx (dch d (l.take k)) (l[k]'h) := by
  rw [List.take_succ_eq_append_getElem h, dch_append]; rfl
theorem xor_cancel {a b c : Nat} (h : a ^^^ b = a ^^^ c) : b = c := by
  have h1 : a ^^^ (a ^^^ b) = b := by rw [← Nat.xor_assoc, Nat.xor_self, Nat.zero_xor]
  rw [h, ← Nat.xor_assoc, Nat.xor_self, Nat.zero_xor] at h1
  exact h1.symm
theorem xor_cancel' {a b c : Nat} (h : a ^^^ c = b ^^^ c) : a = b := by
  rw [Nat.xor_comm a, Nat.xor_comm b] at h; exact xor_cancel h
theorem xor_lt64 {d b : Nat} (hd : d < 18446744073709551616) (hb : b < 256) : d ^^^ b < 18446744073709551616 :=
  Nat.xor_lt_two_pow (n := 64) hd (Nat.lt_of_lt_of_le hb (by decide))
theorem dmul_inj {a b : Nat} (ha : a < 18446744073709551616) (hb : b < 18446744073709551616) (h : a * 1099511628211 % 18446744073709551616 = b * 1099511628211 % 18446744073709551616) : a = b := by
  have hi : ∀ x, x < 18446744073709551616 → x * 1099511628211 % 18446744073709551616 * 14886173955864302971 % 18446744073709551616 = x := by
    intro x hx
    rw [Nat.mod_mul_mod, Nat.mul_assoc, Nat.mul_mod, show 1099511628211 * 14886173955864302971 % 18446744073709551616 = 1 from by decide, Nat.mul_one, Nat.mod_mod, Nat.mod_eq_of_lt hx]
  rw [← hi a ha, ← hi b hb, h]
theorem dst_inj {d e b : Nat} (hd : d < 18446744073709551616) (he : e < 18446744073709551616) (hb : b < 256) (h : dst d b = dst e b) : d = e :=
  xor_cancel' (dmul_inj (xor_lt64 hd hb) (xor_lt64 he hb) h)
theorem dst_byte {d b c : Nat} (hd : d < 18446744073709551616) (hb : b < 256) (hc : c < 256) (h : dst d b = dst d c) : b = c :=
  xor_cancel (dmul_inj (xor_lt64 hd hb) (xor_lt64 hd hc) h)
theorem xor_high {d b : Nat} (hb : b < 256) : (d ^^^ b) / 256 = d / 256 := by
  have := Nat.xor_div_two_pow (a := d) (b := b) (n := 8)
  rw [show (2 : Nat) ^ 8 = 256 from rfl] at this
  rw [this, Nat.div_eq_of_lt hb, Nat.xor_zero]
theorem near_256 {u v : Nat} (h : u / 256 = v / 256) : u ≤ v + 255 ∧ v ≤ u + 255 := by omega
theorem near_core {x y u v p q : Nat} (h1 : x ≤ y + 255 ∧ y ≤ x + 255) (h2 : u ≤ v + 255 ∧ v ≤ u + 255) (d1 : 18446744073709551616 * p + u = x * 1099511628211) (d2 : 18446744073709551616 * q + v = y * 1099511628211) : x = y := by
  obtain ⟨i, hi⟩ : ∃ i : Int, i = (x : Int) - y := ⟨_, rfl⟩
  obtain ⟨j, hj⟩ : ∃ j : Int, j = (p : Int) - q := ⟨_, rfl⟩
  obtain ⟨k, hk⟩ : ∃ k : Int, k = (u : Int) - v := ⟨_, rfl⟩
  have e : i * 1099511628211 = 18446744073709551616 * j + k := by omega
  have bi : -255 ≤ i ∧ i ≤ 255 := by omega
  have bk : -255 ≤ k ∧ k ≤ 255 := by omega
  have hxy : (x : Int) = y + i := by omega
  clear d1 d2 h1 h2 hi hj hk
  have hj0 : j = 0 := by omega
  subst hj0
  omega
theorem near_mul {x y : Nat} (h : x / 256 = y / 256) (hu : x * 1099511628211 % 18446744073709551616 / 256 = y * 1099511628211 % 18446744073709551616 / 256) : x = y :=
  near_core (near_256 h) (near_256 hu) (Nat.div_add_mod (x * 1099511628211) 18446744073709551616) (Nat.div_add_mod (y * 1099511628211) 18446744073709551616)
theorem dmx_pair {d : Nat} {p q : Nat × Nat} (hd : d < 18446744073709551616) (hp1 : p.1 < 256) (hp2 : p.2 < 256) (hq1 : q.1 < 256) (hq2 : q.2 < 256) (h : dmx d p = dmx d q) : p = q := by
  obtain ⟨a, b⟩ := p
  obtain ⟨c, e⟩ := q
  have h1 : dst d a ^^^ b = dst d c ^^^ e := dmul_inj (xor_lt64 (dst_lt _ _) hp2) (xor_lt64 (dst_lt _ _) hq2) h
  have h2 : dst d a / 256 = dst d c / 256 := by rw [← xor_high (d := dst d a) hp2, ← xor_high (d := dst d c) hq2, h1]
  have h3 : d ^^^ a = d ^^^ c := near_mul (by rw [xor_high hp1, xor_high hq1]) h2
  obtain rfl : a = c := xor_cancel h3
  obtain rfl : b = e := xor_cancel h1
  rfl
theorem dmx_inj {d e : Nat} {p : Nat × Nat} (hd : d < 18446744073709551616) (he : e < 18446744073709551616) (hp1 : p.1 < 256) (hp2 : p.2 < 256) (h : dmx d p = dmx e p) : d = e :=
  dst_inj hd he hp1 (dst_inj (dst_lt _ _) (dst_lt _ _) hp2 h)
theorem djn_inj (l : List UInt8) {d e : Nat} (hd : d < 18446744073709551616) (he : e < 18446744073709551616) (h : djn d l = djn e l) : d = e := by
  induction l generalizing d e with
  | nil => exact h
  | cons c l ih => exact dst_inj hd he c.toNat_lt (ih (dst_lt _ _) (dst_lt _ _) h)
theorem dch_inj (l : List (Nat × Nat)) (hl : ∀ p ∈ l, p.1 < 256 ∧ p.2 < 256) {d e : Nat} (hd : d < 18446744073709551616) (he : e < 18446744073709551616) (h : dch d l = dch e l) : d = e := by
  induction l generalizing d e with
  | nil => exact h
  | cons c l ih => exact dmx_inj hd he (hl c (by simp)).1 (hl c (by simp)).2 (ih (fun p hp => hl p (by simp [hp])) (dmx_lt _ _) (dmx_lt _ _) h)
/-- A byte changed at a place. -/
theorem djn_set (l : List UInt8) (k : Nat) (hk : k < l.length) (c : UInt8) {d : Nat} (hd : d < 18446744073709551616) (h : djn d (l.set k c) = djn d l) : c = l[k]'hk := by
  induction l generalizing d k with
  | nil => simp at hk
  | cons b l ih =>
    cases k with
    | zero =>
      have h1 := djn_inj l (dst_lt d c.toNat) (dst_lt d b.toNat) h
      have h2 := dst_byte hd c.toNat_lt b.toNat_lt h1
      exact UInt8.toNat_inj.1 h2
    | succ k => exact ih k (by simpa using hk) (dst_lt _ _) h
/-- A pair changed at a place. -/
theorem dch_set (l : List (Nat × Nat)) (hl : ∀ p ∈ l, p.1 < 256 ∧ p.2 < 256) (k : Nat) (hk : k < l.length) (q : Nat × Nat) (hq : q.1 < 256 ∧ q.2 < 256) {d : Nat} (hd : d < 18446744073709551616) (h : dch d (l.set k q) = dch d l) : q = l[k]'hk := by
  induction l generalizing d k with
  | nil => simp at hk
  | cons b l ih =>
    cases k with
    | zero =>
      have h1 := dch_inj l (fun p hp => hl p (by simp [hp])) (dmx_lt d q) (dmx_lt d b) h
      have hb := hl b (by simp)
      exact dmx_pair hd hq.1 hq.2 hb.1 hb.2 h1
    | succ k => exact ih (fun p hp => hl p (by simp [hp])) k (by simpa using hk) (dmx_lt _ _) h
theorem dch_set_iff (l : List (Nat × Nat)) (hl : ∀ p ∈ l, p.1 < 256 ∧ p.2 < 256) (k : Nat) (hk : k < l.length) (q : Nat × Nat) (hq : q.1 < 256 ∧ q.2 < 256) {d : Nat} (hd : d < 18446744073709551616) : dch d (l.set k q) = dch d l ↔ q = l[k]'hk :=
  ⟨dch_set l hl k hk q hq hd, fun e => by rw [e, List.set_getElem_self]⟩
theorem djn_iff (l : List UInt8) {d e : Nat} (hd : d < 18446744073709551616) (he : e < 18446744073709551616) : djn d l = djn e l ↔ d = e :=
  ⟨djn_inj l hd he, fun h => by rw [h]⟩
end Go.Proofs.YtobfoenilfpiiaaDoor
