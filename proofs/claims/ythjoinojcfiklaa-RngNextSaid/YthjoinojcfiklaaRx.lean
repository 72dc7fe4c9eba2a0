/- Plain mathematics of numbers that a seed tells: the mix is one to one on the numbers of 64 bits; a number below another one is so. Nothing is assumed beyond each fact's own bounds. -/
import Derived.Test.YthjoinojcfiklaaProg
import Derived.WalkKit
import Derived.Laws.BitsAllLaws
import Derived.Lib.Hide
namespace Go.Proofs.Ythjoinojcfiklaa
open Go.RowKit
set_option linter.unusedVariables false

/-- A number xored with its own quotient by p. -/
def sh (p z : Nat) : Nat := z ^^^ z / p
/-- The mix. -/
def mx (n : Nat) : Nat := sh 2147483648 (sh 134217728 (sh 1073741824 n * 13787848793156543929 % 18446744073709551616) * 10723151780598845931 % 18446744073709551616)
/-- The source behind n calls. -/
def skp (s n : Nat) : Nat := (s + n * 11400714819323198485) % 18446744073709551616
/-- A number's upper half, made a number below n. -/
def bel (x n : Nat) : Nat := x / 4294967296 * n / 4294967296

theorem sh_lt {p z : Nat} (h : z < 18446744073709551616) : sh p z < 18446744073709551616 :=
  Nat.xor_lt_two_pow (n := 64) h (Nat.lt_of_le_of_lt (Nat.div_le_self _ _) h)
theorem mx_lt {n : Nat} : mx n < 18446744073709551616 := sh_lt (Nat.mod_lt _ (by decide))
theorem skp_lt (s n : Nat) : skp s n < 18446744073709551616 := Nat.mod_lt _ (by decide)
theorem xor_zero {x y : Nat} (h : x ^^^ y = 0) : x = y := by
  have : (x ^^^ y) ^^^ y = x := by rw [Nat.xor_assoc, Nat.xor_self, Nat.xor_zero]
  rw [h, Nat.zero_xor] at this
  exact this.symm
theorem sh_inj {k : Nat} (hk : 0 < k) {a b : Nat} (h : sh (2 ^ k) a = sh (2 ^ k) b) : a = b := by
  unfold sh at h
  have hz : a ^^^ b = (a ^^^ b) / 2 ^ k := by
    rw [Nat.xor_div_two_pow]
    have h2 : (a ^^^ a / 2 ^ k) ^^^ (b ^^^ b / 2 ^ k) = 0 := by rw [h, Nat.xor_self]
    have h3 : (a ^^^ b) ^^^ (a / 2 ^ k ^^^ b / 2 ^ k) = 0 := by
      rw [← h2]
      simp only [Nat.xor_assoc]
      congr 1
      rw [← Nat.xor_assoc, ← Nat.xor_assoc, Nat.xor_comm b]
    exact xor_zero h3
  have hp : 2 ≤ 2 ^ k := by
    calc 2 = 2 ^ 1 := rfl
      _ ≤ 2 ^ k := Nat.pow_le_pow_right (by decide) hk
  have h0 : a ^^^ b = 0 := by
    rcases Nat.eq_zero_or_pos (a ^^^ b) with h | h
    · exact h
    · have := Nat.div_lt_self h (k := 2 ^ k) (by omega)
      omega
  exact xor_zero h0
theorem mul_inj {c d : Nat} (hcd : c * d % 18446744073709551616 = 1) {a b : Nat} (ha : a < 18446744073709551616) (hb : b < 18446744073709551616) (h : a * c % 18446744073709551616 = b * c % 18446744073709551616) : a = b := by
  have hi : ∀ x, x < 18446744073709551616 → x * c % 18446744073709551616 * d % 18446744073709551616 = x := by
    intro x hx
    rw [Nat.mod_mul_mod, Nat.mul_assoc, Nat.mul_mod, hcd, Nat.mul_one, Nat.mod_mod, Nat.mod_eq_of_lt hx]
  rw [← hi a ha, ← hi b hb, h]
theorem mx_inj {a b : Nat} (ha : a < 18446744073709551616) (hb : b < 18446744073709551616) (h : mx a = mx b) : a = b := by
  have h1 := sh_inj (k := 31) (by decide) h
  have h2 := mul_inj (d := 3573116690164977347) (by decide) (sh_lt (Nat.mod_lt _ (by decide))) (sh_lt (Nat.mod_lt _ (by decide))) h1
  have h3 := sh_inj (k := 27) (by decide) h2
  have h4 := mul_inj (d := 10871156337175269513) (by decide) (sh_lt ha) (sh_lt hb) h3
  exact sh_inj (k := 30) (by decide) h4
theorem skp_skp (s a b : Nat) : skp (skp s a) b = skp s (a + b) := by
  unfold skp
  rw [Nat.mod_add_mod, Nat.add_mul, Nat.add_assoc]
theorem skp_mod (s a : Nat) : skp s (a % 18446744073709551616) = skp s a := by
  unfold skp
  rw [Nat.add_mod, Nat.mod_mul_mod, ← Nat.add_mod]
theorem bel_lt {x n : Nat} (hx : x < 18446744073709551616) (h : 0 < n) : bel x n < n := by
  unfold bel
  apply Nat.div_lt_of_lt_mul
  exact Nat.mul_lt_mul_of_pos_right (by omega) h
theorem bel_prod {x n : Nat} (hx : x < 18446744073709551616) (h : n ≤ 2147483648) : x / 4294967296 * n < 9223372036854775808 := by
  have h1 : x / 4294967296 ≤ 4294967295 := by omega
  have := Nat.mul_le_mul h1 h
  omega
end Go.Proofs.Ythjoinojcfiklaa
