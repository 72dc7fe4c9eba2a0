/- The plain mathematics of layer 3: steps by bits, what two runs make together, bursts, tails. Nothing of the program. -/
import Derived.WalkKit
import Derived.ProofKit
import Derived.Laws.BitsAllLaws
namespace Go.Proofs.YtgbieihobcindaaDoor
open Go.RowKit
set_option linter.unusedVariables false

/-- The number that is laid over it. -/
def pol : Nat := 3988292384
/-- A step by a bit. -/
def st (c b : Nat) : Nat := if c % 2 = b % 2 then c / 2 else c / 2 ^^^ pol
/-- Steps by bits, one behind the other. -/
def runs (c : Nat) : List Nat → Nat
  | [] => c
  | b :: r => runs (st c b) r
/-- The lowest bits of a number, the lowest first. -/
def bitsOf : Nat → Nat → List Nat
  | 0, _ => []
  | k + 1, n => n % 2 :: bitsOf k (n / 2)
def zeros (k : Nat) : List Nat := List.replicate k 0
/-- The bits of bytes. -/
def bitsAll : List UInt8 → List Nat
  | [] => []
  | b :: r => bitsOf 8 b.toNat ++ bitsAll r
def ones : Nat := 4294967295
def upd (c : Nat) (s : List UInt8) : Nat := runs (c ^^^ ones) (bitsAll s) ^^^ ones

theorem xor_mod2 (a b : Nat) : (a ^^^ b) % 2 = (a % 2 + b % 2) % 2 := by
  have := Nat.testBit_xor a b 0
  simp only [Nat.testBit_zero] at this
  have ha : a % 2 = 0 ∨ a % 2 = 1 := by omega
  have hb : b % 2 = 0 ∨ b % 2 = 1 := by omega
  have hx : (a ^^^ b) % 2 = 0 ∨ (a ^^^ b) % 2 = 1 := by omega
  rcases ha with ha | ha <;> rcases hb with hb | hb <;> rcases hx with hx | hx <;> simp [ha, hb, hx] at this ⊢
theorem xor_div2 (a b : Nat) : (a ^^^ b) / 2 = a / 2 ^^^ b / 2 := by
  have := @Nat.shiftRight_xor_distrib 1 a b
  simpa [Nat.shiftRight_eq_div_pow] using this
theorem xor_self' (a b : Nat) : a ^^^ b ^^^ b = a := by rw [Nat.xor_assoc, Nat.xor_self, Nat.xor_zero]
theorem xor_swap (a b c d : Nat) : (a ^^^ b) ^^^ (c ^^^ d) = (a ^^^ c) ^^^ (b ^^^ d) := by
  rw [Nat.xor_assoc, ← Nat.xor_assoc b c d, Nat.xor_comm b c, Nat.xor_assoc c b d, ← Nat.xor_assoc]
theorem st_xor (c d b e : Nat) : st (c ^^^ d) (b ^^^ e) = st c b ^^^ st d e := by
  unfold st
  rw [xor_div2, xor_mod2, xor_mod2]
  by_cases h1 : c % 2 = b % 2 <;> by_cases h2 : d % 2 = e % 2
  · rw [if_pos h1, if_pos h2, if_pos (by omega)]
  · rw [if_pos h1, if_neg h2, if_neg (by omega), Nat.xor_assoc]
  · rw [if_neg h1, if_pos h2, if_neg (by omega), Nat.xor_assoc, Nat.xor_assoc, Nat.xor_comm (d / 2)]
  · rw [if_neg h1, if_neg h2, if_pos (by omega), xor_swap, Nat.xor_self, Nat.xor_zero]
theorem runs_append : ∀ (a b : List Nat) (c : Nat), runs c (a ++ b) = runs (runs c a) b
  | [], _, _ => rfl
  | x :: a, b, c => by simp only [List.cons_append, runs]; exact runs_append a b _
theorem runs_xor : ∀ (a b : List Nat) (c d : Nat), a.length = b.length → runs (c ^^^ d) (List.zipWith (· ^^^ ·) a b) = runs c a ^^^ runs d b
  | [], [], _, _, _ => rfl
  | x :: a, y :: b, c, d, h => by
    simp only [List.zipWith_cons_cons, runs]
    rw [st_xor]
    exact runs_xor a b _ _ (by simpa using h)
theorem bitsOf_length : ∀ (k n : Nat), (bitsOf k n).length = k
  | 0, _ => rfl
  | k + 1, n => by simp [bitsOf, bitsOf_length k]
theorem bitsAll_length : ∀ (s : List UInt8), (bitsAll s).length = 8 * s.length
  | [] => rfl
  | b :: r => by simp [bitsAll, bitsOf_length, bitsAll_length r]; omega
theorem bitsAll_append : ∀ (a b : List UInt8), bitsAll (a ++ b) = bitsAll a ++ bitsAll b
  | [], _ => rfl
  | x :: a, b => by simp [bitsAll, bitsAll_append a b]
theorem bitsOf_zero : ∀ (k : Nat), bitsOf k 0 = zeros k
  | 0 => rfl
  | k + 1 => by simp [bitsOf, zeros, List.replicate_succ]; exact bitsOf_zero k
/-- A run by a number's bits is a run of the number laid over, by zeros. -/
theorem runs_bits : ∀ (k W c : Nat), W < 2 ^ k → runs c (bitsOf k W) = runs (c ^^^ W) (zeros k)
  | 0, W, c, h => by
    have : W = 0 := by simpa using h
    subst this
    simp [bitsOf, zeros, runs]
  | k + 1, W, c, h => by
    have hw : W / 2 < 2 ^ k := by rw [Nat.pow_succ] at h; omega
    have hs : st (c ^^^ W) 0 = st c (W % 2) ^^^ W / 2 := by
      unfold st
      rw [xor_div2, xor_mod2]
      by_cases h1 : c % 2 = W % 2
      · rw [if_pos (by omega), if_pos (by omega)]
      · rw [if_neg (by omega), if_neg (by omega), Nat.xor_assoc, Nat.xor_assoc, Nat.xor_comm (W / 2)]
    simp only [bitsOf, zeros, List.replicate_succ, runs]
    rw [runs_bits k (W / 2) _ hw, hs]
    rfl
theorem st_lt {c b : Nat} (h : c < 4294967296) : st c b < 4294967296 := by
  unfold st
  split
  · omega
  · exact Nat.xor_lt_two_pow (n := 32) (by omega) (by decide)
theorem runs_lt : ∀ (l : List Nat) {c : Nat}, c < 4294967296 → runs c l < 4294967296
  | [], _, h => h
  | b :: r, c, h => runs_lt r (st_lt h)
theorem st_zero {c : Nat} (h : c < 4294967296) (hz : st c 0 = 0) : c = 0 := by
  unfold st at hz
  split at hz
  · omega
  · exfalso
    have h1 : (c / 2 ^^^ pol).testBit 31 = true := by
      rw [Nat.testBit_xor]
      have h2 : (c / 2).testBit 31 = false := Nat.testBit_lt_two_pow (by omega)
      rw [h2]
      decide
    rw [hz] at h1
    simp at h1
theorem runs_zero : ∀ (k : Nat) {c : Nat}, c < 4294967296 → runs c (zeros k) = 0 → c = 0
  | 0, c, _, h => h
  | k + 1, c, hc, h => by
    simp only [zeros, List.replicate_succ, runs] at h
    exact st_zero hc (runs_zero k (st_lt hc) h)
theorem runs_zeros (k : Nat) : runs 0 (zeros k) = 0 := by
  induction k with
  | zero => rfl
  | succ k ih =>
    simp only [zeros, List.replicate_succ, runs]
    exact ih
theorem upd_append (c : Nat) (a b : List UInt8) : upd c (a ++ b) = upd (upd c a) b := by
  unfold upd
  rw [bitsAll_append, runs_append, xor_self']
theorem zip_zeros : ∀ (l : List Nat), List.zipWith (· ^^^ ·) l (zeros l.length) = l
  | [] => rfl
  | x :: r => by
    simp only [List.length_cons, zeros, List.replicate_succ, List.zipWith_cons_cons, Nat.xor_zero]
    exact congrArg _ (zip_zeros r)
theorem bitsAll_zeros : ∀ (n : Nat), bitsAll (List.replicate n 0) = zeros (8 * n)
  | 0 => rfl
  | n + 1 => by
    rw [List.replicate_succ, bitsAll, bitsAll_zeros n]
    rw [show 8 * (n + 1) = 8 * n + 8 from by omega]
    simp [bitsOf, zeros, List.replicate_succ]
theorem join_alg (p q r o : Nat) : p ^^^ o ^^^ (q ^^^ o) ^^^ (r ^^^ o) = p ^^^ q ^^^ r ^^^ o := by
  apply Nat.eq_of_testBit_eq
  intro i
  simp only [Nat.testBit_xor]
  cases p.testBit i <;> cases q.testBit i <;> cases r.testBit i <;> cases o.testBit i <;> rfl
/-- The sum of two texts, one behind the other, out of both sums. -/
theorem join_upd (a b : List UInt8) (n : Nat) (hn : n = b.length) : upd (upd 0 a) (List.replicate n 0) ^^^ upd 0 b ^^^ upd 0 (List.replicate n 0) = upd 0 (a ++ b) := by
  subst hn
  rw [upd_append]
  unfold upd
  generalize runs (0 ^^^ ones) (bitsAll a) = x
  rw [xor_self', bitsAll_zeros]
  have hl := bitsAll_length b
  generalize hB : bitsAll b = B at *
  rw [← hl]
  have h1 : runs (x ^^^ (0 ^^^ ones)) (List.zipWith (· ^^^ ·) (zeros B.length) B) = runs x (zeros B.length) ^^^ runs (0 ^^^ ones) B := runs_xor _ _ _ _ (by simp [zeros])
  have h2 : runs ((x ^^^ (0 ^^^ ones)) ^^^ (0 ^^^ ones)) (List.zipWith (· ^^^ ·) (List.zipWith (· ^^^ ·) (zeros B.length) B) (zeros B.length)) = runs (x ^^^ (0 ^^^ ones)) (List.zipWith (· ^^^ ·) (zeros B.length) B) ^^^ runs (0 ^^^ ones) (zeros B.length) :=
    runs_xor _ _ _ _ (by simp [zeros])
  have h3 : List.zipWith (· ^^^ ·) (zeros B.length) B = B := by
    rw [List.zipWith_comm_of_comm (fun x y => Nat.xor_comm x y)]
    exact zip_zeros B
  rw [h3, zip_zeros, xor_self'] at h2
  rw [h2, ← h3, h1, h3]
  generalize runs x (zeros B.length) = p
  generalize runs (0 ^^^ ones) B = q
  generalize runs (0 ^^^ ones) (zeros B.length) = r
  exact join_alg p q r ones
/-! ### Bursts and tails -/
/-- Bits that are turned, within 32: the sum is another one. -/
theorem runs_burst (k : Nat) (W m n c : Nat) (A : List Nat) (hk : k ≤ 32) (hW : W < 2 ^ k) (hA : A.length = m + k + n)
    (h : runs c A = runs c (List.zipWith (· ^^^ ·) A (zeros m ++ bitsOf k W ++ zeros n))) : W = 0 := by
  have h1 := runs_xor A (zeros m ++ bitsOf k W ++ zeros n) c 0 (by simp [zeros, bitsOf_length, hA]; omega)
  rw [Nat.xor_zero, ← h] at h1
  have h2 : runs 0 (zeros m ++ bitsOf k W ++ zeros n) = 0 := by
    have := congrArg (runs c A ^^^ ·) h1
    simp only [Nat.xor_self, ← Nat.xor_assoc, Nat.zero_xor] at this
    exact this.symm
  have hW32 : W < 4294967296 := Nat.lt_of_lt_of_le hW (Nat.pow_le_pow_right (n := 2) (by omega) hk)
  rw [runs_append, runs_append, runs_zeros, runs_bits k W 0 hW, Nat.zero_xor] at h2
  have h3 := runs_zero n (runs_lt _ hW32) h2
  exact runs_zero k hW32 h3
/-- The four bytes of a number, the lowest first. -/
def fourBytes (n : Nat) : List UInt8 := [UInt8.ofNat (n % 256), UInt8.ofNat (n / 256 % 256), UInt8.ofNat (n / 65536 % 256), UInt8.ofNat (n / 16777216 % 256)]
theorem bitsOf_add : ∀ (a b n : Nat), bitsOf (a + b) n = bitsOf a n ++ bitsOf b (n / 2 ^ a)
  | 0, b, n => by simp [bitsOf]
  | a + 1, b, n => by
    rw [show a + 1 + b = (a + b) + 1 from by omega, bitsOf, bitsOf, bitsOf_add a b (n / 2), Nat.div_div_eq_div_mul, Nat.pow_succ, Nat.mul_comm 2]
    rfl
theorem bitsOf_mod : ∀ (k n : Nat), bitsOf k (n % 2 ^ k) = bitsOf k n
  | 0, n => rfl
  | k + 1, n => by
    have h1 : n % 2 ^ (k + 1) % 2 = n % 2 := Nat.mod_mod_of_dvd n ⟨2 ^ k, by rw [Nat.pow_succ, Nat.mul_comm]⟩
    have h2 : n % 2 ^ (k + 1) / 2 = n / 2 % 2 ^ k := by rw [Nat.pow_succ, Nat.mul_comm, Nat.mod_mul_right_div_self]
    rw [bitsOf, bitsOf, h1, h2, bitsOf_mod k]
theorem bits_four (n : Nat) : bitsAll (fourBytes n) = bitsOf 32 n := by
  have e : ∀ m : Nat, bitsOf 8 (UInt8.ofNat (m % 256)).toNat = bitsOf 8 m := fun m => by
    rw [show (UInt8.ofNat (m % 256)).toNat = m % 2 ^ 8 from by simp]
    exact bitsOf_mod 8 m
  simp only [fourBytes, bitsAll, e, List.append_nil]
  rw [show 32 = 8 + (8 + (8 + 8)) from rfl, bitsOf_add, bitsOf_add 8 (8 + 8), bitsOf_add 8 8]
  simp only [Nat.div_div_eq_div_mul, show (2 : Nat) ^ 8 = 256 from rfl, show 256 * 256 = 65536 from rfl, show 65536 * 256 = 16777216 from rfl]
/-- A text with its sum behind it has always the same sum. -/
theorem upd_tail (s : List UInt8) : upd 0 (s ++ fourBytes (upd 0 s)) = 558161692 := by
  rw [upd_append]
  have hlt : upd 0 s < 4294967296 := by
    unfold upd
    exact Nat.xor_lt_two_pow (n := 32) (runs_lt _ (by decide)) (by decide)
  generalize upd 0 s = x at *
  unfold upd
  rw [bits_four, runs_bits 32 x _ hlt, Nat.xor_comm x ones, Nat.xor_assoc, Nat.xor_self, Nat.xor_zero]
  decide +kernel
/-! ### Four bits at a time, out of a table -/
def nib (i : Nat) : Nat := runs i (zeros 4)
theorem st_even (c : Nat) (h : c % 2 = 0) : st c 0 = c / 2 := by unfold st; rw [if_pos (by omega)]
theorem runs_hi (q : Nat) : runs (16 * q) (zeros 4) = q := by
  simp only [zeros, List.replicate_succ, List.replicate_zero, runs]
  rw [st_even (16 * q) (by omega), st_even (16 * q / 2) (by omega), st_even (16 * q / 2 / 2) (by omega), st_even (16 * q / 2 / 2 / 2) (by omega)]
  omega
theorem split16 (c : Nat) : c = 16 * (c / 16) ^^^ c % 16 := by
  have h : 16 * (c / 16) + c % 16 = 16 * (c / 16) ||| c % 16 := (nat_join 4 (16 * (c / 16)) (c % 16) (by omega) (by omega)).symm
  have h2 : 16 * (c / 16) ^^^ c % 16 = 16 * (c / 16) ||| c % 16 := by
    apply Nat.eq_of_testBit_eq
    intro i
    rw [Nat.testBit_xor, Nat.testBit_or]
    by_cases hi : i < 4
    · have : (16 * (c / 16)).testBit i = false := by
        have := Nat.testBit_mul_two_pow (c / 16) i 4
        rw [show 16 * (c / 16) = c / 16 * 2 ^ 4 from by omega, this]
        simp; omega
      simp [this]
    · have : (c % 16).testBit i = false := Nat.testBit_lt_two_pow (Nat.lt_of_lt_of_le (Nat.mod_lt _ (by omega)) (Nat.pow_le_pow_right (n := 2) (i := 4) (by omega) (by omega)))
      simp [this]
  rw [h2, ← h]
  omega
theorem runs_four (c : Nat) : runs c (zeros 4) = c / 16 ^^^ nib (c % 16) := by
  conv => lhs; rw [split16 c]
  have := runs_xor (zeros 4) (zeros 4) (16 * (c / 16)) (c % 16) rfl
  rw [show List.zipWith (· ^^^ ·) (zeros 4) (zeros 4) = zeros 4 from rfl, runs_hi] at this
  exact this
/-- The steps by a byte: two looks into the table. -/
theorem runs_byte (c b : Nat) (hb : b < 256) : runs c (bitsOf 8 b) = ((c ^^^ b) / 16 ^^^ nib ((c ^^^ b) % 16)) / 16 ^^^ nib (((c ^^^ b) / 16 ^^^ nib ((c ^^^ b) % 16)) % 16) := by
  rw [runs_bits 8 b c hb, show zeros 8 = zeros 4 ++ zeros 4 from rfl, runs_append, runs_four, runs_four]
end Go.Proofs.YtgbieihobcindaaDoor
