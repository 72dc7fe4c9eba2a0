/- Texts of the walk. -/
import Derived.WalkKit
import Derived.ProofKit
import Derived.Laws.BitsAllLaws
import Derived.Test.YtgeaacabpnepmaaGreatDoorProg
import Derived.Test.YtgeaacabpnepmaaGreatDoorAa8
import Derived.Below
import Derived.Deep.OwnRows
/- Texts of elder layers, one behind the other. -/
/- The plain mathematics of layer 3: steps by bits, what two runs make together, bursts, tails. Nothing of the program. -/
set_option maxRecDepth 20000
namespace Go.Proofs.YtgeaacabpnepmaaGreatDoor
open Go.RowKit
set_option linter.unusedVariables false

def pol : Nat := 3988292384
def st (c b : Nat) : Nat := if c % 2 = b % 2 then c / 2 else c / 2 ^^^ pol
def runs (c : Nat) : List Nat → Nat
  | [] => c
  | b :: r => runs (st c b) r
def bitsOf : Nat → Nat → List Nat
  | 0, _ => []
  | k + 1, n => n % 2 :: bitsOf k (n / 2)
def zeros (k : Nat) : List Nat := List.replicate k 0
def bitsAll : List UInt8 → List Nat
  | [] => []
  | b :: r => bitsOf 8 b.toNat ++ bitsAll r
def ones : Nat := 4294967295
def upd (c : Nat) (s : List UInt8) : Nat := runs (c ^^^ ones) (bitsAll s) ^^^ ones

theorem xor_mod2 (a b : Nat) : (a ^^^ b) % 2 = (a % 2 + b % 2) % 2 := by
  have := Nat.testBit_xor a b 0
  simp only [Nat.testBit_zero] at this
  have ha : a % 2 = 0 ∨ a % 2 = 1 := by omega
  have hb : b % 2 = 0 ∨ b % 2 = 1 := by omega
  have hx : (a ^^^ b) % 2 = 0 ∨ (a ^^^ b) % 2 = 1 := by omega
  rcases ha with ha | ha <;> rcases hb with hb | hb <;> rcases hx with hx | hx <;> simp [ha, hb, hx] at this ⊢
theorem xor_div2 (a b : Nat) : (a ^^^ b) / 2 = a / 2 ^^^ b / 2 := by
  have := @Nat.shiftRight_xor_distrib 1 a b
  simpa [Nat.shiftRight_eq_div_pow] using this
theorem xor_self' (a b : Nat) : a ^^^ b ^^^ b = a := by rw [Nat.xor_assoc, Nat.xor_self, Nat.xor_zero]
theorem xor_swap (a b c d : Nat) : (a ^^^ b) ^^^ (c ^^^ d) = (a ^^^ c) ^^^ (b ^^^ d) := by
  rw [Nat.xor_assoc, ← Nat.xor_assoc b c d, Nat.xor_comm b c, Nat.xor_assoc c b d, ← Nat.xor_assoc]
theorem st_xor (c d b e : Nat) : st (c ^^^ d) (b ^^^ e) = st c b ^^^ st d e := by
  unfold st
  rw [xor_div2, xor_mod2, xor_mod2]
  by_cases h1 : c % 2 = b % 2 <;> by_cases h2 : d % 2 = e % 2
  · rw [if_pos h1, if_pos h2, if_pos (by omega)]
  · rw [if_pos h1, if_neg h2, if_neg (by omega), Nat.xor_assoc]
  · rw [if_neg h1, if_pos h2, if_neg (by omega), Nat.xor_assoc, Nat.xor_assoc, Nat.xor_comm (d / 2)]
  · rw [if_neg h1, if_neg h2, if_pos (by omega), xor_swap, Nat.xor_self, Nat.xor_zero]
theorem runs_append : ∀ (a b : List Nat) (c : Nat), runs c (a ++ b) = runs (runs c a) b
  | [], _, _ => rfl
  | x :: a, b, c => by simp only [List.cons_append, runs]; exact runs_append a b _
theorem runs_xor : ∀ (a b : List Nat) (c d : Nat), a.length = b.length → runs (c ^^^ d) (List.zipWith (· ^^^ ·) a b) = runs c a ^^^ runs d b
  | [], [], _, _, _ => rfl
  | x :: a, y :: b, c, d, h => by
    simp only [List.zipWith_cons_cons, runs]
    rw [st_xor]
    exact runs_xor a b _ _ (by simpa using h)
theorem bitsAll_append : ∀ (a b : List UInt8), bitsAll (a ++ b) = bitsAll a ++ bitsAll b
  | [], _ => rfl
  | x :: a, b => by simp [bitsAll, bitsAll_append a b]
theorem runs_bits : ∀ (k W c : Nat), W < 2 ^ k → runs c (bitsOf k W) = runs (c ^^^ W) (zeros k)
  | 0, W, c, h => by
    have : W = 0 := by simpa using h
    subst this
    simp [bitsOf, zeros, runs]
  | k + 1, W, c, h => by
    have hw : W / 2 < 2 ^ k := by rw [Nat.pow_succ] at h; omega
    have hs : st (c ^^^ W) 0 = st c (W % 2) ^^^ W / 2 := by
      unfold st
      rw [xor_div2, xor_mod2]
      by_cases h1 : c % 2 = W % 2
      · rw [if_pos (by omega), if_pos (by omega)]
      · rw [if_neg (by omega), if_neg (by omega), Nat.xor_assoc, Nat.xor_assoc, Nat.xor_comm (W / 2)]
    simp only [bitsOf, zeros, List.replicate_succ, runs]
    rw [runs_bits k (W / 2) _ hw, hs]
    rfl
theorem st_lt {c b : Nat} (h : c < 4294967296) : st c b < 4294967296 := by
  unfold st
  split
  · omega
  · exact Nat.xor_lt_two_pow (n := 32) (by omega) (by decide)
theorem runs_lt : ∀ (l : List Nat) {c : Nat}, c < 4294967296 → runs c l < 4294967296
  | [], _, h => h
  | b :: r, c, h => runs_lt r (st_lt h)
theorem upd_append (c : Nat) (a b : List UInt8) : upd c (a ++ b) = upd (upd c a) b := by
  unfold upd
  rw [bitsAll_append, runs_append, xor_self']
/-! ### Bursts and tails -/
/-! ### Four bits at a time, out of a table -/
def nib (i : Nat) : Nat := runs i (zeros 4)
theorem st_even (c : Nat) (h : c % 2 = 0) : st c 0 = c / 2 := by unfold st; rw [if_pos (by omega)]
theorem runs_hi (q : Nat) : runs (16 * q) (zeros 4) = q := by
  simp only [zeros, List.replicate_succ, List.replicate_zero, runs]
  rw [st_even (16 * q) (by omega), st_even (16 * q / 2) (by omega), st_even (16 * q / 2 / 2) (by omega), st_even (16 * q / 2 / 2 / 2) (by omega)]
  omega
theorem split16 (c : Nat) : c = 16 * (c / 16) ^^^ c % 16 := by
  have h : 16 * (c / 16) + c % 16 = 16 * (c / 16) ||| c % 16 := (nat_join 4 (16 * (c / 16)) (c % 16) (by omega) (by omega)).symm
  have h2 : 16 * (c / 16) ^^^ c % 16 = 16 * (c / 16) ||| c % 16 := by
    apply Nat.eq_of_testBit_eq
    intro i
    rw [Nat.testBit_xor, Nat.testBit_or]
    by_cases hi : i < 4
    · have : (16 * (c / 16)).testBit i = false := by
        have := Nat.testBit_mul_two_pow (c / 16) i 4
        rw [show 16 * (c / 16) = c / 16 * 2 ^ 4 from by omega, this]
        simp; omega
      simp [this]
    · have : (c % 16).testBit i = false := Nat.testBit_lt_two_pow (Nat.lt_of_lt_of_le (Nat.mod_lt _ (by omega)) (Nat.pow_le_pow_right (n := 2) (i := 4) (by omega) (by omega)))
      simp [this]
  rw [h2, ← h]
  omega
theorem runs_four (c : Nat) : runs c (zeros 4) = c / 16 ^^^ nib (c % 16) := by
  conv => lhs; rw [split16 c]
  have := runs_xor (zeros 4) (zeros 4) (16 * (c / 16)) (c % 16) rfl
  rw [show List.zipWith (· ^^^ ·) (zeros 4) (zeros 4) = zeros 4 from rfl, runs_hi] at this
  exact this
end Go.Proofs.YtgeaacabpnepmaaGreatDoor
/- The program's steps: four bits, a byte, zeros: one contract each. -/
namespace Go.Proofs.YtgeaacabpnepmaaGreatDoor
open Go.RowKit
set_option linter.unusedVariables false

def Tab (w : World) : Prop := 1 < w.heap.size ∧ ∀ i : Nat, i < 16 → w.cell? ⟨1, i, none⟩ = some (.int .u32 ((nib i : Nat) : Int))
theorem tab_below {w w' : World} (h : Tab w) (hb : Below w.heap.size w w') : Tab w' :=
  ⟨Nat.lt_of_lt_of_le h.1 hb.size, fun i hi => (hb.cell (p := ⟨1, i, none⟩) h.1).trans (h.2 i hi)⟩
theorem tab_grown {w w' : World} (h : Tab w) (hb : w.grownBy w' none) : Tab w' :=
  tab_below h ⟨hb.os, hb.tape, hb.output, hb.size, fun k hk => hb.block k hk (by simp)⟩
theorem ret_u32 {a b : Nat} (h : a = b) : Ending.returned (.int .u32 (a : Int)) = .returned (.int .u32 (b : Int)) := by rw [h]
theorem nib_lt (i : Nat) (h : i < 16) : nib i < 4294967296 := runs_lt _ (by omega)
theorem four_lt {c : Nat} (hc : c < 4294967296) : c / 16 ^^^ nib (c % 16) < 4294967296 :=
  Nat.xor_lt_two_pow (n := 32) (by omega) (nib_lt _ (Nat.mod_lt _ (by omega)))
theorem stepFour (c : Nat) (w : World) (hc : c < 4294967296) (ht : Tab w) :
    Calls Tryz.prog 310 #[.int .u32 c] w fun E w' => E = .returned (.int .u32 ((runs c (zeros 4) : Nat) : Int)) ∧ w = w' := by
  have hm : c % 16 < 16 := Nat.mod_lt _ (by omega)
  have hcell := ht.2 (c % 16) hm
  have hand : bits .and .u32 (c : Int) 15 = ((c % 16 : Nat) : Int) := by
    have := u32_and_nat c 15 hc (by omega)
    rw [nat_mask4] at this
    exact this
  have hxor : bits .xor .u32 ((c : Int) / 16) ((nib (c % 16) : Nat) : Int) = ((c / 16 ^^^ nib (c % 16) : Nat) : Int) :=
    u32_xor_nat (c / 16) (nib (c % 16)) (by omega) (nib_lt _ hm)
  have HR := Lib.hid (runs_four c)
  go_enter Tryz.func310, Tryz.ntmps310
  go_wp2
  go_ret
  exact ⟨ret_u32 HR.out.symm, rfl⟩
theorem stepByte (c b : Nat) (w : World) (hc : c < 4294967296) (hb : b < 256) (ht : Tab w) :
    Calls Tryz.prog 293 #[.int .u32 c, .int .u8 b] w fun E w' => E = .returned (.int .u32 ((runs c (bitsOf 8 b) : Nat) : Int)) ∧ w = w' := by
  have hx : c ^^^ b < 4294967296 := Nat.xor_lt_two_pow (n := 32) (by omega) (by omega)
  have hxor : bits .xor .u32 (c : Int) (b : Int) = ((c ^^^ b : Nat) : Int) := u32_xor_nat c b hc (by omega)
  have h4 : runs (c ^^^ b) (zeros 4) < 4294967296 := runs_lt _ hx
  have HR : Hid (runs c (bitsOf 8 b) = runs (runs (c ^^^ b) (zeros 4)) (zeros 4)) := by
    show _ = _
    rw [runs_bits 8 b c hb, show zeros 8 = zeros 4 ++ zeros 4 from rfl, runs_append]
  have HT := Lib.hid ht
  clear ht
  go_enter Tryz.func293, Tryz.ntmps293
  go_wp2_with fail
  refine (stepFour _ _ hx HT.out).mono ?_
  rintro E w1 ⟨rfl, rfl⟩
  go_wp2_with fail
  refine (stepFour _ _ h4 HT.out).mono ?_
  rintro E w1 ⟨rfl, rfl⟩
  go_wp2
  go_ret
  exact ⟨ret_u32 HR.out.symm, rfl⟩
theorem bytes_cell (w1 W : World) (x : List UInt8) (e : TypeId) (hW : Lib.bytesWorld w1 e (str x) = W) : ∀ k (hk : k < x.length), W.cell? ⟨w1.heap.size, k, none⟩ = some (.int .u8 ((x[k]'hk).toNat : Nat)) := fun k hk => by
  rw [← hW, Lib.bytesWorld_cell _ _ _ _ (by rw [str_size]; exact hk), str_data]
  simp [List.getD_eq_getElem?_getD, hk]
def UpdRel (c : Nat) (s : List UInt8) (v i : Value) : Prop := ∃ k : Nat, k ≤ s.length ∧ i = .int .i64 k ∧ v = .int .u32 ((runs c (bitsAll (s.take k)) : Nat) : Int)
theorem upd_next (c k : Nat) (s : List UInt8) (h : k < s.length) : runs (runs c (bitsAll (s.take k))) (bitsOf 8 (s[k]'h).toNat) = runs c (bitsAll (s.take (k + 1))) := by
  rw [List.take_succ_eq_append_getElem h, bitsAll_append, runs_append]
  simp [bitsAll]
theorem not_u32 (x : Nat) (h : x < 4294967296) : bits .xor .u32 IntKind.u32.max (x : Int) = ((x ^^^ ones : Nat) : Int) := by
  have := u32_xor_nat 4294967295 x (by omega) h
  rw [Nat.xor_comm x ones]
  exact this
theorem update (c : Nat) (s : List UInt8) (w : World) (hc : c < 4294967296) (hs : s.length ≤ maxLen) (ht : Tab w) :
    Calls Tryz.prog 262 #[.int .u32 c, .string (str s)] w fun E w' => E = .returned (.int .u32 ((upd c s : Nat) : Int)) ∧ w.grownBy w' none := by
  have hcv := Lib.run_convert_string_bytes (P := Tryz.prog) w 9 181 5 (str s) Tryz.underlying9 Tryz.underlying181 Tryz.underlying5
  have hbc := Lib.hid (bytes_cell w _ s 5 rfl)
  have hg := Lib.hid (grown_bytes w 5 (str s) none)
  have HT := Lib.hid (tab_grown ht hg.out)
  have hsz := str_size s
  have hcap := Lib.hid hsz
  unfold maxLen at hs
  generalize Lib.bytesWorld w 5 (str s) = W at *
  generalize grownCap w (str s).size 0 5 = cap at *
  have hnot := not_u32 c hc
  have h0 : c ^^^ ones < 4294967296 := Nat.xor_lt_two_pow (n := 32) (by omega) (by decide)
  have HU : Hid (upd c s = runs (c ^^^ ones) (bitsAll s) ^^^ ones) := rfl
  go_enter Tryz.func262, Tryz.ntmps262
  go_wp2
  clear hcv hnot
  generalize c ^^^ ones = d at *
  go_loop [0, 12] (fun v i => UpdRel d s v i) (fun _ i => s.length - (intOf i).toNat)
  case atStart => exact ⟨0, by omega, rfl, rfl⟩
  case round =>
    obtain ⟨k, hk, rfl, rfl⟩ := hrel
    have hlt32 : runs d (bitsAll (s.take k)) < 4294967296 := runs_lt _ h0
    by_cases hlt : k < s.length
    · have HN := Lib.hid (upd_next d k s hlt)
      have hcell := hbc.out k hlt
      have hb8 := UInt8.toNat_lt (s[k]'hlt)
      generalize s[k]'hlt = b at *
      go_wp2_with fail
      refine (stepByte _ b.toNat _ hlt32 (by omega) HT.out).mono ?_
      rintro E w1 ⟨rfl, rfl⟩
      go_wp2
      go_round
      case rel => exact ⟨k + 1, by omega, by go_num, by rw [HN.out]⟩
      case measure => simp [intOf]; omega
    · have hx : k = s.length := by omega
      subst hx
      rw [List.take_length] at hlt32 ⊢
      have hnot := not_u32 _ hlt32
      go_wp2
      go_ret
      exact ⟨ret_u32 HU.out.symm, hg.out⟩
theorem sum (s : List UInt8) (w : World) (hs : s.length ≤ maxLen) (ht : Tab w) :
    Calls Tryz.prog 263 #[.string (str s)] w fun E w' => E = .returned (.int .u32 ((upd 0 s : Nat) : Int)) ∧ w.grownBy w' none := by
  go_enter Tryz.func263, Tryz.ntmps263
  go_wp2_with fail
  refine (update 0 s _ (by omega) hs ht).mono ?_
  rintro E w1 ⟨rfl, hg⟩
  go_wp2
  go_ret
  exact ⟨rfl, hg⟩
end Go.Proofs.YtgeaacabpnepmaaGreatDoor
/- The document's answer for layer 3: steps bit by bit, sums, what joining makes: one contract each. -/
namespace Go.Proofs.YtgeaacabpnepmaaGreatDoor
open Go.RowKit
set_option linter.unusedVariables false

end Go.Proofs.YtgeaacabpnepmaaGreatDoor
/- Bits of bytes, one by one; a bit that is turned; a block of bytes that the call has made. Plain mathematics, and words on memory. -/
namespace Go.Proofs.YtgeaacabpnepmaaGreatDoor
open Go.RowKit
set_option linter.unusedVariables false

end Go.Proofs.YtgeaacabpnepmaaGreatDoor
