/- Texts of elder layers, one behind the other. -/
import Derived.WalkKit
import Derived.ProofKit
import Derived.Laws.BitsAllLaws
import Derived.Test.YtakejacamkdncaaGreatDoorProg
import Derived.Test.YtakejacamkdncaaGreatDoorAa
import Derived.Below
import Derived.Deep.OwnRows
/- The plain mathematics of layer 3: steps by bits, what two runs make together, bursts, tails. Nothing of the program. -/
set_option maxRecDepth 20000
namespace Go.Proofs.YtakejacamkdncaaGreatDoor
open Go.RowKit
set_option linter.unusedVariables false

/-- The number that is laid over it. -/
def pol : Nat := 3988292384
/-- A step by a bit. -/
def st (c b : Nat) : Nat := if c % 2 = b % 2 then c / 2 else c / 2 ^^^ pol
/-- Steps by bits, one behind the other. -/
def runs (c : Nat) : List Nat → Nat
  | [] => c
  | b :: r => runs (st c b) r
/-- The lowest bits of a number, the lowest first. -/
def bitsOf : Nat → Nat → List Nat
  | 0, _ => []
  | k + 1, n => n % 2 :: bitsOf k (n / 2)
def zeros (k : Nat) : List Nat := List.replicate k 0
/-- The bits of bytes. -/
def bitsAll : List UInt8 → List Nat
  | [] => []
  | b :: r => bitsOf 8 b.toNat ++ bitsAll r
def ones : Nat := 4294967295
def upd (c : Nat) (s : List UInt8) : Nat := runs (c ^^^ ones) (bitsAll s) ^^^ ones

theorem xor_mod2 (a b : Nat) : (a ^^^ b) % 2 = (a % 2 + b % 2) % 2 := by
  have := Nat.testBit_xor a b 0
  simp only [Nat.testBit_zero] at this
  have ha : a % 2 = 0 ∨ a % 2 = 1 := by omega
  have hb : b % 2 = 0 ∨ b % 2 = 1 := by omega
  have hx : (a ^^^ b) % 2 = 0 ∨ (a ^^^ b) % 2 = 1 := by omega
  rcases ha with ha | ha <;> rcases hb with hb | hb <;> rcases hx with hx | hx <;> simp [ha, hb, hx] at this ⊢
theorem xor_div2 (a b : Nat) : (a ^^^ b) / 2 = a / 2 ^^^ b / 2 := by
  have := @Nat.shiftRight_xor_distrib 1 a b
  simpa [Nat.shiftRight_eq_div_pow] using this
theorem xor_self' (a b : Nat) : a ^^^ b ^^^ b = a := by rw [Nat.xor_assoc, Nat.xor_self, Nat.xor_zero]
theorem xor_swap (a b c d : Nat) : (a ^^^ b) ^^^ (c ^^^ d) = (a ^^^ c) ^^^ (b ^^^ d) := by
  rw [Nat.xor_assoc, ← Nat.xor_assoc b c d, Nat.xor_comm b c, Nat.xor_assoc c b d, ← Nat.xor_assoc]
theorem st_xor (c d b e : Nat) : st (c ^^^ d) (b ^^^ e) = st c b ^^^ st d e := by
  unfold st
  rw [xor_div2, xor_mod2, xor_mod2]
  by_cases h1 : c % 2 = b % 2 <;> by_cases h2 : d % 2 = e % 2
  · rw [if_pos h1, if_pos h2, if_pos (by omega)]
  · rw [if_pos h1, if_neg h2, if_neg (by omega), Nat.xor_assoc]
  · rw [if_neg h1, if_pos h2, if_neg (by omega), Nat.xor_assoc, Nat.xor_assoc, Nat.xor_comm (d / 2)]
  · rw [if_neg h1, if_neg h2, if_pos (by omega), xor_swap, Nat.xor_self, Nat.xor_zero]
theorem runs_append : ∀ (a b : List Nat) (c : Nat), runs c (a ++ b) = runs (runs c a) b
  | [], _, _ => rfl
  | x :: a, b, c => by simp only [List.cons_append, runs]; exact runs_append a b _
theorem runs_xor : ∀ (a b : List Nat) (c d : Nat), a.length = b.length → runs (c ^^^ d) (List.zipWith (· ^^^ ·) a b) = runs c a ^^^ runs d b
  | [], [], _, _, _ => rfl
  | x :: a, y :: b, c, d, h => by
    simp only [List.zipWith_cons_cons, runs]
    rw [st_xor]
    exact runs_xor a b _ _ (by simpa using h)
theorem bitsOf_length : ∀ (k n : Nat), (bitsOf k n).length = k
  | 0, _ => rfl
  | k + 1, n => by simp [bitsOf, bitsOf_length k]
theorem bitsAll_length : ∀ (s : List UInt8), (bitsAll s).length = 8 * s.length
  | [] => rfl
  | b :: r => by simp [bitsAll, bitsOf_length, bitsAll_length r]; omega
theorem bitsAll_append : ∀ (a b : List UInt8), bitsAll (a ++ b) = bitsAll a ++ bitsAll b
  | [], _ => rfl
  | x :: a, b => by simp [bitsAll, bitsAll_append a b]
theorem bitsOf_zero : ∀ (k : Nat), bitsOf k 0 = zeros k
  | 0 => rfl
  | k + 1 => by simp [bitsOf, zeros, List.replicate_succ]; exact bitsOf_zero k
/-- A run by a number's bits is a run of the number laid over, by zeros. -/
theorem runs_bits : ∀ (k W c : Nat), W < 2 ^ k → runs c (bitsOf k W) = runs (c ^^^ W) (zeros k)
  | 0, W, c, h => by
    have : W = 0 := by simpa using h
    subst this
    simp [bitsOf, zeros, runs]
  | k + 1, W, c, h => by
    have hw : W / 2 < 2 ^ k := by rw [Nat.pow_succ] at h; omega
    have hs : st (c ^^^ W) 0 = st c (W % 2) ^^^ W / 2 := by
      unfold st
      rw [xor_div2, xor_mod2]
      by_cases h1 : c % 2 = W % 2
      · rw [if_pos (by omega), if_pos (by omega)]
      · rw [if_neg (by omega), if_neg (by omega), Nat.xor_assoc, Nat.xor_assoc, Nat.xor_comm (W / 2)]
    simp only [bitsOf, zeros, List.replicate_succ, runs]
    rw [runs_bits k (W / 2) _ hw, hs]
    rfl
theorem st_lt {c b : Nat} (h : c < 4294967296) : st c b < 4294967296 := by
  unfold st
  split
  · omega
  · exact Nat.xor_lt_two_pow (n := 32) (by omega) (by decide)
theorem runs_lt : ∀ (l : List Nat) {c : Nat}, c < 4294967296 → runs c l < 4294967296
  | [], _, h => h
  | b :: r, c, h => runs_lt r (st_lt h)
theorem st_zero {c : Nat} (h : c < 4294967296) (hz : st c 0 = 0) : c = 0 := by
  unfold st at hz
  split at hz
  · omega
  · exfalso
    have h1 : (c / 2 ^^^ pol).testBit 31 = true := by
      rw [Nat.testBit_xor]
      have h2 : (c / 2).testBit 31 = false := Nat.testBit_lt_two_pow (by omega)
      rw [h2]
      decide
    rw [hz] at h1
    simp at h1
theorem runs_zero : ∀ (k : Nat) {c : Nat}, c < 4294967296 → runs c (zeros k) = 0 → c = 0
  | 0, c, _, h => h
  | k + 1, c, hc, h => by
    simp only [zeros, List.replicate_succ, runs] at h
    exact st_zero hc (runs_zero k (st_lt hc) h)
theorem runs_zeros (k : Nat) : runs 0 (zeros k) = 0 := by
  induction k with
  | zero => rfl
  | succ k ih =>
    simp only [zeros, List.replicate_succ, runs]
    exact ih
theorem upd_append (c : Nat) (a b : List UInt8) : upd c (a ++ b) = upd (upd c a) b := by
  unfold upd
  rw [bitsAll_append, runs_append, xor_self']
theorem zip_zeros : ∀ (l : List Nat), List.zipWith (· ^^^ ·) l (zeros l.length) = l
  | [] => rfl
  | x :: r => by
    simp only [List.length_cons, zeros, List.replicate_succ, List.zipWith_cons_cons, Nat.xor_zero]
    exact congrArg _ (zip_zeros r)
theorem bitsAll_zeros : ∀ (n : Nat), bitsAll (List.replicate n 0) = zeros (8 * n)
  | 0 => rfl
  | n + 1 => by
    rw [List.replicate_succ, bitsAll, bitsAll_zeros n]
    rw [show 8 * (n + 1) = 8 * n + 8 from by omega]
    simp [bitsOf, zeros, List.replicate_succ]
theorem join_alg (p q r o : Nat) : p ^^^ o ^^^ (q ^^^ o) ^^^ (r ^^^ o) = p ^^^ q ^^^ r ^^^ o := by
  apply Nat.eq_of_testBit_eq
  intro i
  simp only [Nat.testBit_xor]
  cases p.testBit i <;> cases q.testBit i <;> cases r.testBit i <;> cases o.testBit i <;> rfl
/-- The sum of two texts, one behind the other, out of both sums. -/
theorem join_upd (a b : List UInt8) (n : Nat) (hn : n = b.length) : upd (upd 0 a) (List.replicate n 0) ^^^ upd 0 b ^^^ upd 0 (List.replicate n 0) = upd 0 (a ++ b) := by
  subst hn
  rw [upd_append]
  unfold upd
  generalize runs (0 ^^^ ones) (bitsAll a) = x
  rw [xor_self', bitsAll_zeros]
  have hl := bitsAll_length b
  generalize hB : bitsAll b = B at *
  rw [← hl]
  have h1 : runs (x ^^^ (0 ^^^ ones)) (List.zipWith (· ^^^ ·) (zeros B.length) B) = runs x (zeros B.length) ^^^ runs (0 ^^^ ones) B := runs_xor _ _ _ _ (by simp [zeros])
  have h2 : runs ((x ^^^ (0 ^^^ ones)) ^^^ (0 ^^^ ones)) (List.zipWith (· ^^^ ·) (List.zipWith (· ^^^ ·) (zeros B.length) B) (zeros B.length)) = runs (x ^^^ (0 ^^^ ones)) (List.zipWith (· ^^^ ·) (zeros B.length) B) ^^^ runs (0 ^^^ ones) (zeros B.length) :=
    runs_xor _ _ _ _ (by simp [zeros])
  have h3 : List.zipWith (· ^^^ ·) (zeros B.length) B = B := by
    rw [List.zipWith_comm_of_comm (fun x y => Nat.xor_comm x y)]
    exact zip_zeros B
  rw [h3, zip_zeros, xor_self'] at h2
  rw [h2, ← h3, h1, h3]
  generalize runs x (zeros B.length) = p
  generalize runs (0 ^^^ ones) B = q
  generalize runs (0 ^^^ ones) (zeros B.length) = r
  exact join_alg p q r ones
/-! ### Bursts and tails -/
/-- Bits that are turned, within 32: the sum is another one. -/
theorem runs_burst (k : Nat) (W m n c : Nat) (A : List Nat) (hk : k ≤ 32) (hW : W < 2 ^ k) (hA : A.length = m + k + n)
    (h : runs c A = runs c (List.zipWith (· ^^^ ·) A (zeros m ++ bitsOf k W ++ zeros n))) : W = 0 := by
  have h1 := runs_xor A (zeros m ++ bitsOf k W ++ zeros n) c 0 (by simp [zeros, bitsOf_length, hA]; omega)
  rw [Nat.xor_zero, ← h] at h1
  have h2 : runs 0 (zeros m ++ bitsOf k W ++ zeros n) = 0 := by
    have := congrArg (runs c A ^^^ ·) h1
    simp only [Nat.xor_self, ← Nat.xor_assoc, Nat.zero_xor] at this
    exact this.symm
  have hW32 : W < 4294967296 := Nat.lt_of_lt_of_le hW (Nat.pow_le_pow_right (n := 2) (by omega) hk)
  rw [runs_append, runs_append, runs_zeros, runs_bits k W 0 hW, Nat.zero_xor] at h2
  have h3 := runs_zero n (runs_lt _ hW32) h2
  exact runs_zero k hW32 h3
/-- The four bytes of a number, the lowest first. -/
def fourBytes (n : Nat) : List UInt8 := [UInt8.ofNat (n % 256), UInt8.ofNat (n / 256 % 256), UInt8.ofNat (n / 65536 % 256), UInt8.ofNat (n / 16777216 % 256)]
theorem bitsOf_add : ∀ (a b n : Nat), bitsOf (a + b) n = bitsOf a n ++ bitsOf b (n / 2 ^ a)
  | 0, b, n => by simp [bitsOf]
  | a + 1, b, n => by
    rw [show a + 1 + b = (a + b) + 1 from by omega, bitsOf, bitsOf, bitsOf_add a b (n / 2), Nat.div_div_eq_div_mul, Nat.pow_succ, Nat.mul_comm 2]
    rfl
theorem bitsOf_mod : ∀ (k n : Nat), bitsOf k (n % 2 ^ k) = bitsOf k n
  | 0, n => rfl
  | k + 1, n => by
    have h1 : n % 2 ^ (k + 1) % 2 = n % 2 := Nat.mod_mod_of_dvd n ⟨2 ^ k, by rw [Nat.pow_succ, Nat.mul_comm]⟩
    have h2 : n % 2 ^ (k + 1) / 2 = n / 2 % 2 ^ k := by rw [Nat.pow_succ, Nat.mul_comm, Nat.mod_mul_right_div_self]
    rw [bitsOf, bitsOf, h1, h2, bitsOf_mod k]
theorem bits_four (n : Nat) : bitsAll (fourBytes n) = bitsOf 32 n := by
  have e : ∀ m : Nat, bitsOf 8 (UInt8.ofNat (m % 256)).toNat = bitsOf 8 m := fun m => by
    rw [show (UInt8.ofNat (m % 256)).toNat = m % 2 ^ 8 from by simp]
    exact bitsOf_mod 8 m
  simp only [fourBytes, bitsAll, e, List.append_nil]
  rw [show 32 = 8 + (8 + (8 + 8)) from rfl, bitsOf_add, bitsOf_add 8 (8 + 8), bitsOf_add 8 8]
  simp only [Nat.div_div_eq_div_mul, show (2 : Nat) ^ 8 = 256 from rfl, show 256 * 256 = 65536 from rfl, show 65536 * 256 = 16777216 from rfl]
/-- A text with its sum behind it has always the same sum. -/
theorem upd_tail (s : List UInt8) : upd 0 (s ++ fourBytes (upd 0 s)) = 558161692 := by
  rw [upd_append]
  have hlt : upd 0 s < 4294967296 := by
    unfold upd
    exact Nat.xor_lt_two_pow (n := 32) (runs_lt _ (by decide)) (by decide)
  generalize upd 0 s = x at *
  unfold upd
  rw [bits_four, runs_bits 32 x _ hlt, Nat.xor_comm x ones, Nat.xor_assoc, Nat.xor_self, Nat.xor_zero]
  decide +kernel
/-! ### Four bits at a time, out of a table -/
def nib (i : Nat) : Nat := runs i (zeros 4)
theorem st_even (c : Nat) (h : c % 2 = 0) : st c 0 = c / 2 := by unfold st; rw [if_pos (by omega)]
theorem runs_hi (q : Nat) : runs (16 * q) (zeros 4) = q := by
  simp only [zeros, List.replicate_succ, List.replicate_zero, runs]
  rw [st_even (16 * q) (by omega), st_even (16 * q / 2) (by omega), st_even (16 * q / 2 / 2) (by omega), st_even (16 * q / 2 / 2 / 2) (by omega)]
  omega
theorem split16 (c : Nat) : c = 16 * (c / 16) ^^^ c % 16 := by
  have h : 16 * (c / 16) + c % 16 = 16 * (c / 16) ||| c % 16 := (nat_join 4 (16 * (c / 16)) (c % 16) (by omega) (by omega)).symm
  have h2 : 16 * (c / 16) ^^^ c % 16 = 16 * (c / 16) ||| c % 16 := by
    apply Nat.eq_of_testBit_eq
    intro i
    rw [Nat.testBit_xor, Nat.testBit_or]
    by_cases hi : i < 4
    · have : (16 * (c / 16)).testBit i = false := by
        have := Nat.testBit_mul_two_pow (c / 16) i 4
        rw [show 16 * (c / 16) = c / 16 * 2 ^ 4 from by omega, this]
        simp; omega
      simp [this]
    · have : (c % 16).testBit i = false := Nat.testBit_lt_two_pow (Nat.lt_of_lt_of_le (Nat.mod_lt _ (by omega)) (Nat.pow_le_pow_right (n := 2) (i := 4) (by omega) (by omega)))
      simp [this]
  rw [h2, ← h]
  omega
theorem runs_four (c : Nat) : runs c (zeros 4) = c / 16 ^^^ nib (c % 16) := by
  conv => lhs; rw [split16 c]
  have := runs_xor (zeros 4) (zeros 4) (16 * (c / 16)) (c % 16) rfl
  rw [show List.zipWith (· ^^^ ·) (zeros 4) (zeros 4) = zeros 4 from rfl, runs_hi] at this
  exact this
/-- The steps by a byte: two looks into the table. -/
theorem runs_byte (c b : Nat) (hb : b < 256) : runs c (bitsOf 8 b) = ((c ^^^ b) / 16 ^^^ nib ((c ^^^ b) % 16)) / 16 ^^^ nib (((c ^^^ b) / 16 ^^^ nib ((c ^^^ b) % 16)) % 16) := by
  rw [runs_bits 8 b c hb, show zeros 8 = zeros 4 ++ zeros 4 from rfl, runs_append, runs_four, runs_four]
end Go.Proofs.YtakejacamkdncaaGreatDoor
/- The program's steps: four bits, a byte, zeros: one contract each. -/
namespace Go.Proofs.YtakejacamkdncaaGreatDoor
open Go.RowKit
set_option linter.unusedVariables false

/-- The table of four steps lies in the program's one listed variable. -/
def Tab (w : World) : Prop := 0 < w.heap.size ∧ ∀ i : Nat, i < 16 → w.cell? ⟨0, i, none⟩ = some (.int .u32 ((nib i : Nat) : Int))
theorem tab_below {w w' : World} (h : Tab w) (hb : Below w.heap.size w w') : Tab w' :=
  ⟨Nat.lt_of_lt_of_le h.1 hb.size, fun i hi => (hb.cell (p := ⟨0, i, none⟩) h.1).trans (h.2 i hi)⟩
theorem tab_grown {w w' : World} (h : Tab w) (hb : w.grownBy w' none) : Tab w' :=
  tab_below h ⟨hb.os, hb.tape, hb.output, hb.size, fun k hk => hb.block k hk (by simp)⟩
theorem ret_u32 {a b : Nat} (h : a = b) : Ending.returned (.int .u32 (a : Int)) = .returned (.int .u32 (b : Int)) := by rw [h]
theorem nib_lt (i : Nat) (h : i < 16) : nib i < 4294967296 := runs_lt _ (by omega)
theorem four_lt {c : Nat} (hc : c < 4294967296) : c / 16 ^^^ nib (c % 16) < 4294967296 :=
  Nat.xor_lt_two_pow (n := 32) (by omega) (nib_lt _ (Nat.mod_lt _ (by omega)))
theorem stepFour (c : Nat) (w : World) (hc : c < 4294967296) (ht : Tab w) :
    Calls Tryz.prog 162 #[.int .u32 c] w fun E w' => E = .returned (.int .u32 ((runs c (zeros 4) : Nat) : Int)) ∧ w = w' := by
  have hm : c % 16 < 16 := Nat.mod_lt _ (by omega)
  have hcell := ht.2 (c % 16) hm
  have hand : bits .and .u32 (c : Int) 15 = ((c % 16 : Nat) : Int) := by
    have := u32_and_nat c 15 hc (by omega)
    rw [nat_mask4] at this
    exact this
  have hxor : bits .xor .u32 ((c : Int) / 16) ((nib (c % 16) : Nat) : Int) = ((c / 16 ^^^ nib (c % 16) : Nat) : Int) :=
    u32_xor_nat (c / 16) (nib (c % 16)) (by omega) (nib_lt _ hm)
  have HR := Lib.hid (runs_four c)
  go_enter Tryz.func162, Tryz.ntmps162
  go_wp2
  go_ret
  exact ⟨ret_u32 HR.out.symm, rfl⟩
theorem stepByte (c b : Nat) (w : World) (hc : c < 4294967296) (hb : b < 256) (ht : Tab w) :
    Calls Tryz.prog 140 #[.int .u32 c, .int .u8 b] w fun E w' => E = .returned (.int .u32 ((runs c (bitsOf 8 b) : Nat) : Int)) ∧ w = w' := by
  have hx : c ^^^ b < 4294967296 := Nat.xor_lt_two_pow (n := 32) (by omega) (by omega)
  have hxor : bits .xor .u32 (c : Int) (b : Int) = ((c ^^^ b : Nat) : Int) := u32_xor_nat c b hc (by omega)
  have h4 : runs (c ^^^ b) (zeros 4) < 4294967296 := runs_lt _ hx
  have HR : Hid (runs c (bitsOf 8 b) = runs (runs (c ^^^ b) (zeros 4)) (zeros 4)) := by
    show _ = _
    rw [runs_bits 8 b c hb, show zeros 8 = zeros 4 ++ zeros 4 from rfl, runs_append]
  have HT := Lib.hid ht
  clear ht
  go_enter Tryz.func140, Tryz.ntmps140
  go_wp2_with fail
  refine (stepFour _ _ hx HT.out).mono ?_
  rintro E w1 ⟨rfl, rfl⟩
  go_wp2_with fail
  refine (stepFour _ _ h4 HT.out).mono ?_
  rintro E w1 ⟨rfl, rfl⟩
  go_wp2
  go_ret
  exact ⟨ret_u32 HR.out.symm, rfl⟩
/-- A round of stepZeros, at its fhead. -/
def ZerosRel (c n : Nat) (v i : Value) : Prop := ∃ k : Nat, k ≤ n ∧ i = .int .i64 k ∧ v = .int .u32 ((runs c (zeros (8 * k)) : Nat) : Int)
theorem zeros_add (a b : Nat) : zeros (a + b) = zeros a ++ zeros b := by simp [zeros, List.replicate_append_replicate]
theorem runs_zeros_next (c k : Nat) : runs (runs c (zeros (8 * k))) (bitsOf 8 0) = runs c (zeros (8 * (k + 1))) := by
  rw [bitsOf_zero, ← runs_append, ← zeros_add]; rfl
theorem bytes_cell (w1 W : World) (x : List UInt8) (e : TypeId) (hW : Lib.bytesWorld w1 e (str x) = W) : ∀ k (hk : k < x.length), W.cell? ⟨w1.heap.size, k, none⟩ = some (.int .u8 ((x[k]'hk).toNat : Nat)) := fun k hk => by
  rw [← hW, Lib.bytesWorld_cell _ _ _ _ (by rw [str_size]; exact hk), str_data]
  simp [List.getD_eq_getElem?_getD, hk]
theorem upd_lt (c : Nat) (s : List UInt8) (hc : c < 4294967296) : upd c s < 4294967296 :=
  Nat.xor_lt_two_pow (n := 32) (runs_lt _ (Nat.xor_lt_two_pow (n := 32) (by omega) (by decide))) (by decide)
/-- A round of Update, at its fhead. -/
def UpdRel (c : Nat) (s : List UInt8) (v i : Value) : Prop := ∃ k : Nat, k ≤ s.length ∧ i = .int .i64 k ∧ v = .int .u32 ((runs c (bitsAll (s.take k)) : Nat) : Int)
theorem upd_next (c k : Nat) (s : List UInt8) (h : k < s.length) : runs (runs c (bitsAll (s.take k))) (bitsOf 8 (s[k]'h).toNat) = runs c (bitsAll (s.take (k + 1))) := by
  rw [List.take_succ_eq_append_getElem h, bitsAll_append, runs_append]
  simp [bitsAll]
theorem not_u32 (x : Nat) (h : x < 4294967296) : bits .xor .u32 IntKind.u32.max (x : Int) = ((x ^^^ ones : Nat) : Int) := by
  have := u32_xor_nat 4294967295 x (by omega) h
  rw [Nat.xor_comm x ones]
  exact this
theorem update (c : Nat) (s : List UInt8) (w : World) (hc : c < 4294967296) (hs : s.length ≤ maxLen) (ht : Tab w) :
    Calls Tryz.prog 121 #[.int .u32 c, .string (str s)] w fun E w' => E = .returned (.int .u32 ((upd c s : Nat) : Int)) ∧ w.grownBy w' none := by
  have hcv := Lib.run_convert_string_bytes (P := Tryz.prog) w 9 113 5 (str s) Tryz.underlying9 Tryz.underlying113 Tryz.underlying5
  have hbc := Lib.hid (bytes_cell w _ s 5 rfl)
  have hg := Lib.hid (grown_bytes w 5 (str s) none)
  have HT := Lib.hid (tab_grown ht hg.out)
  have hsz := str_size s
  have hcap := Lib.hid hsz
  unfold maxLen at hs
  generalize Lib.bytesWorld w 5 (str s) = W at *
  generalize grownCap w (str s).size 0 5 = cap at *
  have hnot := not_u32 c hc
  have h0 : c ^^^ ones < 4294967296 := Nat.xor_lt_two_pow (n := 32) (by omega) (by decide)
  have HU : Hid (upd c s = runs (c ^^^ ones) (bitsAll s) ^^^ ones) := rfl
  go_enter Tryz.func121, Tryz.ntmps121
  go_wp2
  clear hcv hnot
  generalize c ^^^ ones = d at *
  go_loop [0, 12] (fun v i => UpdRel d s v i) (fun _ i => s.length - (intOf i).toNat)
  case atStart => exact ⟨0, by omega, rfl, rfl⟩
  case round =>
    obtain ⟨k, hk, rfl, rfl⟩ := hrel
    have hlt32 : runs d (bitsAll (s.take k)) < 4294967296 := runs_lt _ h0
    by_cases hlt : k < s.length
    · have HN := Lib.hid (upd_next d k s hlt)
      have hcell := hbc.out k hlt
      have hb8 := UInt8.toNat_lt (s[k]'hlt)
      generalize s[k]'hlt = b at *
      go_wp2_with fail
      refine (stepByte _ b.toNat _ hlt32 (by omega) HT.out).mono ?_
      rintro E w1 ⟨rfl, rfl⟩
      go_wp2
      go_round
      case rel => exact ⟨k + 1, by omega, by go_num, by rw [HN.out]⟩
      case measure => simp [intOf]; omega
    · have hx : k = s.length := by omega
      subst hx
      rw [List.take_length] at hlt32 ⊢
      have hnot := not_u32 _ hlt32
      go_wp2
      go_ret
      exact ⟨ret_u32 HU.out.symm, hg.out⟩
theorem sum (s : List UInt8) (w : World) (hs : s.length ≤ maxLen) (ht : Tab w) :
    Calls Tryz.prog 122 #[.string (str s)] w fun E w' => E = .returned (.int .u32 ((upd 0 s : Nat) : Int)) ∧ w.grownBy w' none := by
  go_enter Tryz.func122, Tryz.ntmps122
  go_wp2_with fail
  refine (update 0 s _ (by omega) hs ht).mono ?_
  rintro E w1 ⟨rfl, hg⟩
  go_wp2
  go_ret
  exact ⟨rfl, hg⟩
/-- How many bytes Join takes. -/
def clip (n : Int) : Nat := (min n 1048576).toNat
/-- What Join makes. -/
def joined (a b k : Nat) : Nat := runs a (zeros (8 * k)) ^^^ b
theorem joined_lt {a b k : Nat} (ha : a < 4294967296) (hb : b < 4294967296) : joined a b k < 4294967296 :=
  Nat.xor_lt_two_pow (n := 32) (runs_lt _ (by omega)) (by omega)
end Go.Proofs.YtakejacamkdncaaGreatDoor
/- The document's answer for layer 3: steps bit by bit, sums, what joining makes: one contract each. -/
namespace Go.Proofs.YtakejacamkdncaaGreatDoor
open Go.RowKit
set_option linter.unusedVariables false

theorem refStep (c b : Nat) (w : World) (hc : c < 4294967296) (hb : b < 2) :
    Calls Tryz.prog 151 #[.int .u32 c, .int .u32 b] w fun E w' => E = .returned (.int .u32 ((st c b : Nat) : Int)) ∧ w = w' := by
  have hand : bits .and .u32 (c : Int) 1 = ((c % 2 : Nat) : Int) := by
    have := u32_and_nat c 1 hc (by omega)
    rw [nat_mask1] at this
    exact this
  have hxor : bits .xor .u32 ((c : Int) / 2) 3988292384 = ((c / 2 ^^^ pol : Nat) : Int) := u32_xor_nat (c / 2) pol (by omega) (by decide)
  by_cases h : c % 2 = b
  · have HS : Hid (st c b = c / 2) := by show _ = _; unfold st; rw [if_pos (by omega)]
    have ht : decide ((c : Int) % 2 = b) = true := by simp; omega
    go_enter Tryz.func151, Tryz.ntmps151
    go_wp2
    go_ret
    exact ⟨ret_u32 HS.out.symm, rfl⟩
  · have HS : Hid (st c b = c / 2 ^^^ pol) := by show _ = _; unfold st; rw [if_neg (by omega)]
    go_enter Tryz.func151, Tryz.ntmps151
    go_wp2
    go_ret
    exact ⟨ret_u32 HS.out.symm, rfl⟩
theorem bitsOf_snoc : ∀ (k n : Nat), bitsOf (k + 1) n = bitsOf k n ++ [n / 2 ^ k % 2] := fun k n => by
  rw [bitsOf_add k 1 n]; simp [bitsOf]
theorem runs_snoc (c k n : Nat) : runs c (bitsOf (k + 1) n) = st (runs c (bitsOf k n)) (n / 2 ^ k % 2) := by
  rw [bitsOf_snoc, runs_append]; rfl
/-- A round over a byte's bits, at its fhead. -/
def BitRel (c b : Nat) (v x i : Value) : Prop := ∃ k : Nat, k ≤ 8 ∧ i = .int .i64 k ∧ v = .int .u32 ((runs c (bitsOf k b) : Nat) : Int) ∧ x = .int .u32 ((b / 2 ^ k : Nat) : Int)
/-- A round of Update, at its fhead. -/
def RefRel (c : Nat) (s : List UInt8) (v i : Value) : Prop := ∃ k : Nat, k ≤ s.length ∧ i = .int .i64 k ∧ v = .int .u32 ((runs c (bitsAll (s.take k)) : Nat) : Int)
set_option maxHeartbeats 1000000 in
theorem refUpdate (c : Nat) (s : List UInt8) (w : World) (hc : c < 4294967296) (hs : s.length ≤ maxLen) :
    Calls Tryz.prog 132 #[.int .u32 c, .string (str s)] w fun E w' => E = .returned (.int .u32 ((upd c s : Nat) : Int)) ∧ w = w' := by
  have hsz := str_size s
  unfold maxLen at hs
  have hxor : bits .xor .u32 (c : Int) 4294967295 = ((c ^^^ ones : Nat) : Int) := u32_xor_nat c ones hc (by decide)
  have h0 : c ^^^ ones < 4294967296 := Nat.xor_lt_two_pow (n := 32) (by omega) (by decide)
  have HU : Hid (upd c s = runs (c ^^^ ones) (bitsAll s) ^^^ ones) := rfl
  go_enter Tryz.func132, Tryz.ntmps132
  go_wp2
  clear hxor
  generalize c ^^^ ones = d at *
  go_loop [0, 5] (fun v i => RefRel d s v i) (fun _ i => s.length - (intOf i).toNat)
  case atStart => exact ⟨0, by omega, rfl, rfl⟩
  case round =>
    obtain ⟨k, hk, rfl, rfl⟩ := hrel
    have hlt32 : runs d (bitsAll (s.take k)) < 4294967296 := runs_lt _ h0
    by_cases hlt : k < s.length
    · have HN := Lib.hid (upd_next d k s hlt)
      have hget : (str s)[k]'(by rw [hsz]; exact hlt) = s[k]'hlt := by simp [str]; rfl
      have hb8 := UInt8.toNat_lt (s[k]'hlt)
      generalize s[k]'hlt = b at *
      generalize runs d (bitsAll (s.take k)) = e at *
      go_wp2
      go_loop [0, 6, 7] (fun v x i => BitRel e b.toNat v x i) (fun _ _ i => 8 - (intOf i).toNat)
      case atStart => exact ⟨0, by omega, rfl, rfl, by simp⟩
      case round =>
        obtain ⟨j, hj, rfl, rfl, rfl⟩ := hrel
        by_cases hj8 : j < 8
        · have hr := runs_lt (bitsOf j b.toNat) hlt32
          have HS := Lib.hid (runs_snoc e j b.toNat)
          have HD : Hid (b.toNat / 2 ^ j / 2 = b.toNat / 2 ^ (j + 1)) := by show _ = _; rw [Nat.div_div_eq_div_mul, Nat.pow_succ]
          have hq : b.toNat / 2 ^ j < 4294967296 := Nat.lt_of_le_of_lt (Nat.div_le_self _ _) (by omega)
          generalize b.toNat / 2 ^ j = q at *
          generalize runs e (bitsOf j b.toNat) = f at *
          go_wp2_with fail
          refine (refStep f (q % 2) _ hr (Nat.mod_lt _ (by omega))).mono ?_
          rintro E w1 ⟨rfl, rfl⟩
          go_wp2
          go_round
          case rel => exact ⟨j + 1, by omega, by go_num, by rw [HS.out], by rw [← HD.out]; go_num⟩
          case measure => simp [intOf]; omega
        · have hj8' : j = 8 := by omega
          subst hj8'
          go_wp2
          go_round
          case rel => exact ⟨k + 1, by omega, by go_num, by rw [← HN.out]⟩
          case measure => simp [intOf]; omega
    · have hx : k = s.length := by omega
      subst hx
      rw [List.take_length] at hlt32 ⊢
      have hxor : bits .xor .u32 ((runs d (bitsAll s) : Nat) : Int) 4294967295 = ((runs d (bitsAll s) ^^^ ones : Nat) : Int) := u32_xor_nat _ ones hlt32 (by decide)
      go_wp2
      go_ret
      exact ⟨ret_u32 HU.out.symm, rfl⟩
theorem refSum (s : List UInt8) (w : World) (hs : s.length ≤ maxLen) :
    Calls Tryz.prog 104 #[.string (str s)] w fun E w' => E = .returned (.int .u32 ((upd 0 s : Nat) : Int)) ∧ w = w' := by
  go_enter Tryz.func104, Tryz.ntmps104
  go_wp2_with fail
  refine (refUpdate 0 s _ (by omega) hs).mono ?_
  rintro E w1 ⟨rfl, rfl⟩
  go_wp2
  go_ret
  exact ⟨rfl, rfl⟩
theorem finfo_u8 : (Tryz.prog.info? 5).map (fun i => (i.zero, i.size, i.bytes)) = some (some (.int .u8 0), 1, 1) := by kernel_rfl
/-- A new row of zeros, and the string that it reads as. -/
theorem made_zeros (w : World) (k : Nat) (K : Int) (hK : K = k) (hk : k ≤ 1048576) :
    ∃ W, (Instr.makeSlice 113 (.int .i64 K) (.int .i64 K)).run Tryz.prog w = .ok (.slice (some ⟨w.heap.size, 0, none⟩) k k) W ∧
      (convert 113 9 (.slice (some ⟨w.heap.size, 0, none⟩) k k)).run Tryz.prog W = .ok (.string (str (List.replicate k 0))) W ∧ w.grownBy W none := by
  subst hK
  refine ⟨_, run_make_row' (P := Tryz.prog) 113 5 (.int .u8 0) 1 Tryz.underlying113 finfo_u8 rfl .i64 .i64 k (by omega) (by omega) w, ?_, World.grownBy_alloc w _ none⟩
  have := run_convert_bytes_back (P := Tryz.prog) (w.alloc (.cells (madeCells #[.int .u8 0] k) 5)) 113 9 5 ⟨w.heap.size, 0, none⟩ k (List.replicate k 0) Tryz.underlying113 Tryz.underlying5 Tryz.underlying9 (fun j hj => by
    have hj' : j < k := by simpa using hj
    have e : (⟨w.heap.size, 0, none⟩ : Addr).add j = ⟨w.heap.size, j, none⟩ := by unfold Addr.add; split <;> simp_all
    rw [e, (Cells.made w 5 _).cell j, ← Array.getElem?_toList, toList_madeCells_one]
    simp [hj'])
  rwa [List.length_replicate] at this
theorem join_eq (a b k : Nat) : upd a (List.replicate k 0) ^^^ b ^^^ upd 0 (List.replicate k 0) = joined a b k := by
  unfold upd joined
  rw [bitsAll_zeros]
  have h := runs_xor (zeros (8 * k)) (zeros (8 * k)) (a ^^^ ones) (0 ^^^ ones) rfl
  have hz : List.zipWith (· ^^^ ·) (zeros (8 * k)) (zeros (8 * k)) = zeros (8 * k) := by
    have := zip_zeros (zeros (8 * k))
    rwa [show (zeros (8 * k)).length = 8 * k by simp [zeros]] at this
  rw [hz, Nat.zero_xor, xor_self'] at h
  rw [h]
  generalize runs (a ^^^ ones) (zeros (8 * k)) = p
  rw [Nat.zero_xor]
  generalize runs ones (zeros (8 * k)) = q
  apply Nat.eq_of_testBit_eq
  intro i
  simp only [Nat.testBit_xor]
  cases p.testBit i <;> cases q.testBit i <;> cases ones.testBit i <;> cases b.testBit i <;> rfl
end Go.Proofs.YtakejacamkdncaaGreatDoor
/- Bits of bytes, one by one; a bit that is turned; a block of bytes that the call has made. Plain mathematics, and words on memory. -/
namespace Go.Proofs.YtakejacamkdncaaGreatDoor
open Go.RowKit
set_option linter.unusedVariables false

def bitAt (l : List UInt8) (q : Nat) : Nat := (l.getD (q / 8) 0).toNat / 2 ^ (q % 8) % 2
def maskAt (a k m q : Nat) : Nat := if a ≤ q ∧ q < a + k then m / 2 ^ (q - a) % 2 else 0
theorem bitsOf_get : ∀ (k n i : Nat), i < k → (bitsOf k n)[i]? = some (n / 2 ^ i % 2)
  | 0, _, _, h => by omega
  | k + 1, n, 0, _ => by simp [bitsOf]
  | k + 1, n, i + 1, h => by
    rw [bitsOf, List.getElem?_cons_succ, bitsOf_get k (n / 2) i (by omega), Nat.div_div_eq_div_mul, Nat.pow_succ, Nat.mul_comm 2]
theorem bitsAll_get : ∀ (l : List UInt8) (q : Nat), q < 8 * l.length → (bitsAll l)[q]? = some (bitAt l q)
  | [], q, h => by simp at h
  | b :: r, q, h => by
    rw [bitsAll]
    by_cases hq : q < 8
    · rw [List.getElem?_append_left (by rw [bitsOf_length]; exact hq), bitsOf_get _ _ _ hq]
      have h1 : q / 8 = 0 := by omega
      have h2 : q % 8 = q := by omega
      simp [bitAt, h1, h2]
    · rw [List.getElem?_append_right (by rw [bitsOf_length]; omega), bitsOf_length, bitsAll_get r (q - 8) (by simp at h; omega)]
      have h1 : q / 8 = (q - 8) / 8 + 1 := by omega
      have h2 : q % 8 = (q - 8) % 8 := by omega
      simp [bitAt, h1, h2]
theorem mask_get (a k m n q : Nat) (h : q < a + k + n) : (zeros a ++ bitsOf k (m % 2 ^ k) ++ zeros n)[q]? = some (maskAt a k m q) := by
  rw [bitsOf_mod, List.append_assoc]
  unfold maskAt
  by_cases h1 : q < a
  · rw [List.getElem?_append_left (by simp [zeros, h1]), if_neg (by omega)]
    simp [zeros, h1]
  · rw [List.getElem?_append_right (by simp [zeros]; omega)]
    simp only [zeros, List.length_replicate]
    by_cases h2 : q < a + k
    · rw [List.getElem?_append_left (by rw [bitsOf_length]; omega), bitsOf_get _ _ _ (by omega), if_pos ⟨by omega, h2⟩]
    · rw [List.getElem?_append_right (by rw [bitsOf_length]; omega), bitsOf_length, if_neg (by omega), List.getElem?_replicate, if_pos (by omega)]
/-- Bytes in which the bits of m stand turned, from place a on, k of them. -/
def Turned (s bs : List UInt8) (a k m : Nat) : Prop := bs.length = s.length ∧ ∀ q, q < 8 * s.length → bitAt bs q = bitAt s q ^^^ maskAt a k m q
theorem turned_bits {s bs : List UInt8} {a k m : Nat} (h : Turned s bs a k m) (hk : a + k ≤ 8 * s.length) :
    bitsAll bs = List.zipWith (· ^^^ ·) (bitsAll s) (zeros a ++ bitsOf k (m % 2 ^ k) ++ zeros (8 * s.length - a - k)) := by
  apply List.ext_getElem?
  intro q
  rw [List.getElem?_zipWith]
  by_cases hq : q < 8 * s.length
  · rw [bitsAll_get bs q (by rw [h.1]; exact hq), bitsAll_get s q hq, mask_get a k m _ q (by omega), h.2 q hq]
  · rw [List.getElem?_eq_none (by rw [bitsAll_length, h.1]; omega), List.getElem?_eq_none (l := bitsAll s) (by rw [bitsAll_length]; omega)]
theorem turned_start (s : List UInt8) (a m : Nat) : Turned s s a 0 m :=
  ⟨rfl, fun q _ => by unfold maskAt; rw [if_neg (by omega), Nat.xor_zero]⟩
theorem turned_stay {s bs : List UInt8} {a k m : Nat} (h : Turned s bs a k m) (hd : m / 2 ^ k % 2 = 0) : Turned s bs a (k + 1) m :=
  ⟨h.1, fun q hq => by
    rw [h.2 q hq]
    congr 1
    unfold maskAt
    by_cases h1 : a ≤ q ∧ q < a + k
    · rw [if_pos h1, if_pos (by omega)]
    · by_cases h2 : q = a + k
      · subst h2
        rw [if_neg h1, if_pos (by omega), Nat.add_sub_cancel_left, hd]
      · rw [if_neg h1, if_neg (by omega)]⟩
theorem flip_bit (x j i : Nat) : (x ^^^ 2 ^ j) / 2 ^ i % 2 = (x / 2 ^ i % 2) ^^^ (if i = j then 1 else 0) := by
  rw [← Nat.toNat_testBit, ← Nat.toNat_testBit, Nat.testBit_xor, Nat.testBit_two_pow]
  by_cases h : j = i
  · subst h
    cases x.testBit j <;> simp
  · rw [if_neg (fun e => h e.symm)]
    cases x.testBit i <;> simp [h]
theorem turned_flip {s bs : List UInt8} {a k m : Nat} (h : Turned s bs a k m) (hk : a + k < 8 * s.length) (hd : m / 2 ^ k % 2 = 1) (x : UInt8)
    (hx : x.toNat = (bs.getD ((a + k) / 8) 0).toNat ^^^ 2 ^ ((a + k) % 8)) : Turned s (bs.set ((a + k) / 8) x) a (k + 1) m :=
  ⟨by simp [h.1], fun q hq => by
    have hlt : (a + k) / 8 < bs.length := by rw [h.1]; omega
    have e1 : bitAt (bs.set ((a + k) / 8) x) q = bitAt bs q ^^^ (if q = a + k then 1 else 0) := by
      unfold bitAt
      by_cases h8 : q / 8 = (a + k) / 8
      · rw [h8]
        have : (bs.set ((a + k) / 8) x).getD ((a + k) / 8) 0 = x := by simp [List.getD_eq_getElem?_getD, hlt]
        rw [this, hx, flip_bit]
        congr 1
        by_cases he : q = a + k
        · rw [if_pos (by rw [he]), if_pos he]
        · rw [if_neg (by omega), if_neg he]
      · have : (bs.set ((a + k) / 8) x).getD (q / 8) 0 = bs.getD (q / 8) 0 := by rw [List.getD_eq_getElem?_getD, List.getElem?_set_ne (fun e => h8 e.symm), ← List.getD_eq_getElem?_getD]
        rw [this, if_neg (by omega), Nat.xor_zero]
    rw [e1, h.2 q hq, Nat.xor_assoc]
    congr 1
    unfold maskAt
    by_cases h1 : a ≤ q ∧ q < a + k
    · rw [if_pos h1, if_neg (by omega), if_pos (by omega), Nat.xor_zero]
    · by_cases h2 : q = a + k
      · subst h2
        rw [if_neg h1, if_pos rfl, if_pos (by omega), Nat.add_sub_cancel_left, hd, Nat.zero_xor]
      · rw [if_neg h1, if_neg h2, if_neg (by omega), Nat.xor_zero]⟩
theorem mod_next (m k : Nat) : m % 2 ^ (k + 1) = 0 ↔ m % 2 ^ k = 0 ∧ m / 2 ^ k % 2 = 0 := by
  rw [Nat.mod_pow_succ]
  have := Nat.two_pow_pos k
  constructor
  · intro h
    have h1 : m % 2 ^ k = 0 := by omega
    have h2 : 2 ^ k * (m / 2 ^ k % 2) = 0 := by omega
    rcases Nat.mul_eq_zero.1 h2 with h3 | h3
    · omega
    · exact ⟨h1, h3⟩
  · rintro ⟨h1, h2⟩
    rw [h1, h2]; simp
/-- The sum of turned bytes. -/
theorem turned_sum {s bs : List UInt8} {a k m : Nat} (h : Turned s bs a k m) (hk : k ≤ 32) (ha : a + k ≤ 8 * s.length) (he : upd 0 bs = upd 0 s) : m % 2 ^ k = 0 := by
  unfold upd at he
  have he2 : runs (0 ^^^ ones) (bitsAll s) = runs (0 ^^^ ones) (bitsAll bs) := by
    have := congrArg (· ^^^ ones) he
    simp only [xor_self'] at this
    exact this.symm
  rw [turned_bits h ha] at he2
  exact runs_burst k (m % 2 ^ k) a (8 * s.length - a - k) _ _ hk (Nat.mod_lt _ (Nat.two_pow_pos k)) (by rw [bitsAll_length]; omega) he2
theorem bits_inj : ∀ (a b : List UInt8), a.length = b.length → bitsAll a = bitsAll b → a = b
  | [], [], _, _ => rfl
  | x :: a, y :: b, hl, h => by
    simp only [bitsAll] at h
    obtain ⟨h1, h2⟩ := List.append_inj h (by rw [bitsOf_length, bitsOf_length])
    rw [bits_inj a b (by simpa using hl) h2]
    congr 1
    have hx := UInt8.toNat_lt x
    have hy := UInt8.toNat_lt y
    apply UInt8.toNat_inj.1
    have key : ∀ (k n : Nat), n < 2 ^ k → ∀ m, m < 2 ^ k → bitsOf k n = bitsOf k m → n = m := by
      intro k
      induction k with
      | zero => intro n hn m hm _; simp at hn hm; omega
      | succ k ih =>
        intro n hn m hm he
        simp only [bitsOf, List.cons.injEq] at he
        have := ih (n / 2) (by rw [Nat.pow_succ] at hn; omega) (m / 2) (by rw [Nat.pow_succ] at hm; omega) he.2
        omega
    exact key 8 _ hx _ hy h1
theorem turned_none {s bs : List UInt8} {a k m : Nat} (h : Turned s bs a k m) (hk : a + k ≤ 8 * s.length) (h0 : m % 2 ^ k = 0) : bs = s := by
  refine bits_inj _ _ h.1 ?_
  rw [turned_bits h hk, h0, bitsOf_zero]
  have e : zeros a ++ zeros k ++ zeros (8 * s.length - a - k) = zeros (bitsAll s).length := by
    rw [bitsAll_length]
    simp only [zeros, List.replicate_append_replicate]
    congr 1
    omega
  rw [e, zip_zeros]

/-- Block g holds these bytes at its beginning, none of them frozen. -/
def Blk (w : World) (g : Nat) (e : TypeId) (bs : List UInt8) : Prop :=
  ∃ cs fr, w.heap[g]? = some (.cells cs e fr) ∧ bs.length ≤ fr.1 ∧ ∀ i (h : i < bs.length), cs[i]? = some (bv (bs[i]'h))
section
variable {w w' : World} {g : Nat} {e : TypeId} {bs : List UInt8}
theorem Blk.cell (h : Blk w g e bs) (i : Nat) (hi : i < bs.length) : w.cell? ⟨g, i, none⟩ = some (.int .u8 ((bs[i]'hi).toNat : Nat)) := by
  obtain ⟨cs, fr, hh, _, hc⟩ := h
  rw [cell_of_row w g i cs e fr hh, hc i hi]
  rfl
theorem Blk.frozen (h : Blk w g e bs) (i : Nat) (hi : i < bs.length) : w.frozen? ⟨g, i, none⟩ = false := by
  obtain ⟨cs, ⟨lo, up⟩, hh, hl, hc⟩ := h
  simp only [World.frozen?, hh]
  simp only at hl
  simp
  omega
theorem Blk.set (h : Blk w g e bs) (i : Nat) (b : UInt8) : Blk (w.setCell ⟨g, i, none⟩ (.int .u8 (b.toNat : Nat))) g e (bs.set i b) := by
  obtain ⟨cs, fr, hh, hl, hc⟩ := h
  refine ⟨cs.setIfInBounds i (.int .u8 (b.toNat : Nat)), fr, ?_, by simpa using hl, fun j hj => ?_⟩
  · simp [World.setCell, Array.getElem?_modify, hh]
  · have hj' : j < bs.length := by simpa using hj
    have hcj := hc j hj'
    by_cases hij : i = j
    · subst hij
      have hlt := (Array.getElem?_eq_some_iff.1 hcj).1
      simp [hlt, bv]
    · rw [Array.getElem?_setIfInBounds_ne hij, hcj, List.getElem_set_ne hij]
theorem Blk.drewN (h : Blk w g e bs) (n : Nat) : Blk (w.drewN n) g e bs := h
theorem Blk.drew (h : Blk w g e bs) : Blk w.drew g e bs := h
end
theorem blk_bytes (w : World) (e : TypeId) (s : List UInt8) : Blk (Lib.bytesWorld w e (str s)) w.heap.size e s := by
  refine ⟨_, _, Lib.bytesWorld_at_new w e (str s), ?_, fun i hi => ?_⟩
  · simp [Lib.bytesCells, str]
  · simp [Lib.bytesCells, str, bv, Array.getElem?_append, hi]
end Go.Proofs.YtakejacamkdncaaGreatDoor
