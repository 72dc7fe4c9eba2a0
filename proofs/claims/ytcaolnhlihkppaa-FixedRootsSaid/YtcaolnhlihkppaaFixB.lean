/- The roots, the numbers at which the chapter's examples stand, and what is asked of the program in every statement: one contract each. Nothing is assumed beyond each contract's own bounds. -/
import Derived.Test.YtcaolnhlihkppaaFix
import Derived.Lib.Hide
import Derived.Laws.BitsAllLaws
namespace Go.Proofs.Ytcaolnhlihkppaa
open Go.RowKit
set_option linter.unusedVariables false

theorem or_i64_nat (a b : Nat) (ha : a < 4611686018427387904) (hb : b < 4611686018427387904) : bits .or .i64 (a : Int) (b : Int) = ((a ||| b : Nat) : Int) := by
  have hx : a ||| b < 2 ^ 62 := Nat.or_lt_two_pow (by omega) (by omega)
  have h1 : (BitVec.ofInt 64 (a : Int)).toNat = a := by
    rw [BitVec.ofInt_natCast, BitVec.toNat_ofNat]; exact Nat.mod_eq_of_lt (by omega)
  have h2 : (BitVec.ofInt 64 (b : Int)).toNat = b := by
    rw [BitVec.ofInt_natCast, BitVec.toNat_ofNat]; exact Nat.mod_eq_of_lt (by omega)
  show IntKind.i64.wrap ((BitVec.ofInt 64 (a : Int) ||| BitVec.ofInt 64 (b : Int)).toNat : Int) = _
  rw [BitVec.toNat_or, h1, h2]
  exact IntWalk.i64_in _ (by constructor <;> omega)
/-- A bit that is not yet there is added. -/
theorem or_bit (q : Int) (j : Nat) (hq : 0 ≤ q) (hj : j < 60) (hb : q * (2 * 2 ^ j) < 1152921504606846976) : bits .or .i64 (q * (2 * 2 ^ j)) (2 ^ j) = q * (2 * 2 ^ j) + 2 ^ j := by
  obtain ⟨n, rfl⟩ := Int.eq_ofNat_of_zero_le hq
  have e1 : ((n : Int) * (2 * 2 ^ j)) = ((2 ^ (j + 1) * n : Nat) : Int) := by
    have : 2 ^ (j + 1) * n = n * (2 * 2 ^ j) := by rw [Nat.pow_succ, Nat.mul_comm, Nat.mul_comm (2 ^ j) 2]
    rw [this]; simp
  have e2 : (2 : Int) ^ j = ((2 ^ j : Nat) : Int) := by rw [Int.natCast_pow]; rfl
  have hlt : 2 ^ j < 2 ^ 60 := Nat.pow_lt_pow_right (by omega) hj
  rw [e1] at hb ⊢
  rw [e2, or_i64_nat _ _ (by omega) (by omega), ← Nat.two_pow_add_eq_or_of_lt (Nat.pow_lt_pow_right (by omega) (by omega)), Int.natCast_add]

theorem fixedRootPos (n r : Int) (w : World) (h0 : 0 ≤ n) (h1 : n ≤ 2147483647) (h : SqIs (256 * n) r) :
    Calls Try.prog 34 #[.int .i32 n] w fun e w' => e = .returned (.int .i32 r) ∧ w = w' := by
  have r0 : 0 ≤ r := h.1
  have r1 : r < 1048576 := sq_lt h (by omega) (by omega)
  have H := Lib.hid h
  clear h
  go_enter Try.func34, Try.ntmps34
  go_wp2
  go_loop [4, 12] (fun x i => ∃ k : Nat, k ≤ 20 ∧ i = .int .i64 k ∧ x = .int .i64 (r / 2 ^ (20 - k) * 2 ^ (20 - k))) (fun _ i => 20 - (intOf i).toNat)
  case atStart =>
    refine ⟨0, by omega, rfl, ?_⟩
    have : r / 2 ^ (20 - 0) = 0 := Int.ediv_eq_zero_of_lt r0 r1
    rw [this]; simp
  case round =>
    obtain ⟨k, hk, rfl, rfl⟩ := hrel
    by_cases hlt : k < 20
    · obtain ⟨j, hj⟩ : ∃ j, j = 19 - k := ⟨_, rfl⟩
      have hj2 : j < 20 := by omega
      have ek : 20 - k = j + 1 := by omega
      have ek1 : 20 - (k + 1) = j := by omega
      have ep : (2 : Int) ^ (20 - k) = 2 * 2 ^ j := by rw [ek, Int.pow_succ, Int.mul_comm]
      have hp : (2 : Int) ^ j < 1048576 := by
        have : 2 ^ j < 2 ^ 20 := Nat.pow_lt_pow_right (by omega) hj2
        have e2 : (2 : Int) ^ j = ((2 ^ j : Nat) : Int) := by rw [Int.natCast_pow]; rfl
        rw [e2]; omega
      have hp0 : (0 : Int) < 2 ^ j := Int.pow_pos (by omega)
      have ⟨s1, s2, s3, s4⟩ := bit_step r (2 ^ j) r0 hp0
      have hob := or_bit (r / (2 * 2 ^ j)) j (Int.ediv_nonneg r0 (by omega)) (by omega) (by omega)
      have hwr : wrap64 (2 ^ (19 - k)) = 2 ^ j := by rw [← hj]; exact IntWalk.wrap64_in _ (by constructor <;> omega)
      rw [ep]
      have E1 := Lib.hid ek1
      have S3 := Lib.hid s3
      have S4 := Lib.hid s4
      clear ek1 s3 s4 ep ek hj
      generalize r / (2 * 2 ^ j) * (2 * 2 ^ j) = x at *
      have hiff := Lib.hid (sq_le_iff H.out (by omega : 0 ≤ x + 2 ^ j))
      generalize hP : (2 : Int) ^ j = p at *
      have HP := Lib.hid hP
      clear hP
      have ⟨m1, m2⟩ := mul_bound (by omega : -2097152 ≤ x + p) (by omega : x + p ≤ 2097152) (by omega : -2097152 ≤ x + p) (by omega : x + p ≤ 2097152)
      simp only [Int.reduceMul, Int.reduceNeg] at m1 m2
      generalize hy : x + p = y at *
      have HY := Lib.hid hy
      clear hy
      by_cases ht : y ≤ r
      · have hs := hiff.out.2 ht
        go_wp2
        go_round
        case rel => exact ⟨k + 1, by omega, by go_num, by rw [E1.out, HP.out, S3.out ht]⟩
        case measure => simp [intOf]; omega
      · have hs : 256 * n < y * y := by have := hiff.out; omega
        go_wp2
        go_round
        case rel => exact ⟨k + 1, by omega, by go_num, by rw [E1.out, HP.out, S4.out ht]⟩
        case measure => simp [intOf]; omega
    · have : k = 20 := by omega
      subst this
      have e : r / 2 ^ (20 - 20) * 2 ^ (20 - 20) = r := by simp
      rw [e]
      clear e
      go_wp2
      go_ret
      exact ⟨rfl, rfl⟩

theorem refRootPos (n r : Int) (w : World) (h0 : 0 ≤ n) (h1 : n ≤ 2147483647) (h : SqIs (256 * n) r) :
    Calls Try.prog 35 #[.int .i32 n] w fun e w' => e = .returned (.int .i32 r) ∧ w = w' := by
  have r0 : 0 ≤ r := h.1
  have r1 : r < 1048576 := sq_lt h (by omega) (by omega)
  have H := Lib.hid h
  clear h
  go_enter Try.func35, Try.ntmps35
  go_wp2
  go_loop [3, 4] (fun x y => ∃ l m : Int, 0 ≤ l ∧ l ≤ r ∧ r ≤ m ∧ m ≤ 1048576 ∧ x = .int .i64 l ∧ y = .int .i64 m) (fun x y => (intOf y - intOf x).toNat)
  case atStart => exact ⟨0, 1048576, by omega, by omega, by omega, by omega, rfl, rfl⟩
  case round =>
    obtain ⟨l, m, l0, l1, m0, m1, rfl, rfl⟩ := hrel
    by_cases hlt : l < m
    · have k0 : l + 1 ≤ (l + m + 1) / 2 := by omega
      have k1 : (l + m + 1) / 2 ≤ m := by omega
      have hiff := Lib.hid (sq_le_iff H.out (by omega : 0 ≤ (l + m + 1) / 2))
      have ⟨q1, q2⟩ := mul_bound (by omega : -1048576 ≤ (l + m + 1) / 2) (by omega : (l + m + 1) / 2 ≤ 1048576) (by omega : -1048576 ≤ (l + m + 1) / 2) (by omega : (l + m + 1) / 2 ≤ 1048576)
      simp only [Int.reduceMul, Int.reduceNeg] at q1 q2
      by_cases ht : (l + m + 1) / 2 ≤ r
      · have hs : (l + m + 1) / 2 * ((l + m + 1) / 2) ≤ n * 256 := by have := hiff.out.2 ht; omega
        go_wp2
        go_round
        case rel => exact ⟨_, m, by omega, ht, m0, m1, rfl, rfl⟩
        case measure => simp [intOf]; omega
      · have hs : n * 256 < (l + m + 1) / 2 * ((l + m + 1) / 2) := by have := hiff.out; omega
        go_wp2
        go_round
        case rel => exact ⟨l, _, l0, l1, by omega, by omega, rfl, rfl⟩
        case measure => simp [intOf]; omega
    · obtain rfl : l = r := by omega
      go_wp2
      go_ret
      exact ⟨rfl, rfl⟩

theorem fixedRootNeg (n : Int) (w : World) (h0 : n < 0) :
    Calls Try.prog 34 #[.int .i32 n] w fun e w' => e = .returned (.int .i32 0) ∧ w = w' := by
  go_enter Try.func34, Try.ntmps34
  go_wp2
  go_ret
  exact ⟨rfl, rfl⟩
theorem refRootNeg (n : Int) (w : World) (h0 : n < 0) :
    Calls Try.prog 35 #[.int .i32 n] w fun e w' => e = .returned (.int .i32 0) ∧ w = w' := by
  go_enter Try.func35, Try.ntmps35
  go_wp2
  go_ret
  exact ⟨rfl, rfl⟩


theorem fixedOfAt (n r : Int) (w : World) (h : bnd (256 * n) = r) :
    Calls Try.prog 13 #[.int .i64 n] w fun e w' => e = .returned (.int .i32 r) ∧ w = w' := by subst h; exact fixedOf _ _
theorem fixedWholeAt (a r : Int) (w : World) (a1 : -2147483648 ≤ a) (a2 : a ≤ 2147483647) (h : fl a 256 = r) :
    Calls Try.prog 15 #[.int .i32 a] w fun e w' => e = .returned (.int .i64 r) ∧ w = w' := by subst h; exact fixedWhole _ _ a1 a2
theorem fixedAddAt (a b r : Int) (w : World) (a1 : -2147483648 ≤ a) (a2 : a ≤ 2147483647) (b1 : -2147483648 ≤ b) (b2 : b ≤ 2147483647) (h : bnd (a + b) = r) :
    Calls Try.prog 18 #[.int .i32 a, .int .i32 b] w fun e w' => e = .returned (.int .i32 r) ∧ w = w' := by subst h; exact fixedAdd _ _ _ a1 a2 b1 b2
theorem fixedSubAt (a b r : Int) (w : World) (a1 : -2147483648 ≤ a) (a2 : a ≤ 2147483647) (b1 : -2147483648 ≤ b) (b2 : b ≤ 2147483647) (h : bnd (a - b) = r) :
    Calls Try.prog 20 #[.int .i32 a, .int .i32 b] w fun e w' => e = .returned (.int .i32 r) ∧ w = w' := by subst h; exact fixedSub _ _ _ a1 a2 b1 b2
theorem fixedMulAt (a b r : Int) (w : World) (a1 : -2147483648 ≤ a) (a2 : a ≤ 2147483647) (b1 : -2147483648 ≤ b) (b2 : b ≤ 2147483647) (h : bnd (fl (a * b) 256) = r) :
    Calls Try.prog 26 #[.int .i32 a, .int .i32 b] w fun e w' => e = .returned (.int .i32 r) ∧ w = w' := by subst h; exact fixedMul _ _ _ a1 a2 b1 b2
theorem fixedDivAt (a b r : Int) (w : World) (a1 : -2147483648 ≤ a) (a2 : a ≤ 2147483647) (b1 : -2147483648 ≤ b) (b2 : b ≤ 2147483647) (h : dv a b = r) :
    Calls Try.prog 28 #[.int .i32 a, .int .i32 b] w fun e w' => e = .returned (.int .i32 r) ∧ w = w' := by subst h; exact fixedDiv _ _ _ a1 a2 b1 b2
theorem fixedTruncAt (a b r : Int) (w : World) (a1 : -2147483648 ≤ a) (a2 : a ≤ 2147483647) (b1 : -2147483648 ≤ b) (b2 : b ≤ 2147483647) (h : tr a b = r) :
    Calls Try.prog 32 #[.int .i32 a, .int .i32 b] w fun e w' => e = .returned (.int .i32 r) ∧ w = w' := by subst h; exact fixedTrunc _ _ _ a1 a2 b1 b2
theorem fixedNegAt (a r : Int) (w : World) (a1 : -2147483648 ≤ a) (a2 : a ≤ 2147483647) (h : bnd (-a) = r) :
    Calls Try.prog 22 #[.int .i32 a] w fun e w' => e = .returned (.int .i32 r) ∧ w = w' := by subst h; exact fixedNeg _ _ a1 a2
theorem fixedAbsAt (a r : Int) (w : World) (a1 : -2147483648 ≤ a) (a2 : a ≤ 2147483647) (h : ab a = r) :
    Calls Try.prog 24 #[.int .i32 a] w fun e w' => e = .returned (.int .i32 r) ∧ w = w' := by subst h; exact fixedAbs _ _ a1 a2
theorem fixedClampAt (n l h' r : Int) (w : World) (h : wit n l h' = r) :
    Calls Try.prog 30 #[.int .i32 n, .int .i32 l, .int .i32 h'] w fun e w' => e = .returned (.int .i32 r) ∧ w = w' := by subst h; exact fixedClamp _ _ _ _

theorem fixedRoot (n r : Int) (w : World) (n1 : -2147483648 ≤ n) (n2 : n ≤ 2147483647) (h : RootIs n r) :
    Calls Try.prog 34 #[.int .i32 n] w fun e w' => e = .returned (.int .i32 r) ∧ w = w' := by
  rcases h with ⟨h0, rfl⟩ | ⟨h0, h⟩
  · exact fixedRootNeg n w h0
  · exact fixedRootPos n r w h0 n2 h
theorem refRoot (n r : Int) (w : World) (n1 : -2147483648 ≤ n) (n2 : n ≤ 2147483647) (h : RootIs n r) :
    Calls Try.prog 35 #[.int .i32 n] w fun e w' => e = .returned (.int .i32 r) ∧ w = w' := by
  rcases h with ⟨h0, rfl⟩ | ⟨h0, h⟩
  · exact refRootNeg n w h0
  · exact refRootPos n r w h0 n2 h

theorem awake (w : World) : Calls Try.prog 17 #[] w fun e w' => e = .returned (.bool true) ∧ w = w' := by
  go_enter Try.func17, Try.ntmps17
  go_wp2_with fail
  refine (fixedOfAt 3 768 _ (by decide +kernel)).mono ?_
  rintro e w' ⟨rfl, rfl⟩
  go_wp2_with fail
  refine (fixedAddAt 2147483647 1 2147483647 _ (by omega) (by omega) (by omega) (by omega) (by decide +kernel)).mono ?_
  rintro e w' ⟨rfl, rfl⟩
  go_wp2_with fail
  refine (fixedMulAt 384 384 576 _ (by omega) (by omega) (by omega) (by omega) (by decide +kernel)).mono ?_
  rintro e w' ⟨rfl, rfl⟩
  go_wp2_with fail
  refine (fixedDivAt 256 768 85 _ (by omega) (by omega) (by omega) (by omega) (by decide +kernel)).mono ?_
  rintro e w' ⟨rfl, rfl⟩
  go_wp2_with fail
  refine (fixedRoot 1024 512 _ (by omega) (by omega) (Or.inr ⟨by omega, by unfold SqIs; omega⟩)).mono ?_
  rintro e w' ⟨rfl, rfl⟩
  go_wp2
  go_ret
  exact ⟨rfl, rfl⟩

set_option maxRecDepth 100000 in
theorem known (w : World) : Calls Try.prog 9 #[] w fun e w' => e = .returned (.bool true) ∧ w = w' := by
  go_enter Try.func9, Try.ntmps9
  go_wp2_with fail
  refine (fixedOfAt (-9000000) (-2147483648) _ (by decide +kernel)).mono ?_
  rintro e w' ⟨rfl, rfl⟩
  go_wp2_with fail
  refine (fixedWholeAt (-1) (-1) _ (by omega) (by omega) (by decide +kernel)).mono ?_
  rintro e w' ⟨rfl, rfl⟩
  go_wp2_with fail
  refine (fixedWholeAt 511 1 _ (by omega) (by omega) (by decide +kernel)).mono ?_
  rintro e w' ⟨rfl, rfl⟩
  go_wp2_with fail
  refine (fixedOfAt 8388607 2147483392 _ (by decide +kernel)).mono ?_
  rintro e w' ⟨rfl, rfl⟩
  go_wp2_with fail
  refine (fixedOfAt 8388608 2147483647 _ (by decide +kernel)).mono ?_
  rintro e w' ⟨rfl, rfl⟩
  go_wp2_with fail
  refine (fixedOfAt (-8388608) (-2147483648) _ (by decide +kernel)).mono ?_
  rintro e w' ⟨rfl, rfl⟩
  go_wp2_with fail
  refine (fixedOfAt 4611686018427387904 2147483647 _ (by decide +kernel)).mono ?_
  rintro e w' ⟨rfl, rfl⟩
  go_wp2_with fail
  refine (fixedOfAt (-9223372036854775808) (-2147483648) _ (by decide +kernel)).mono ?_
  rintro e w' ⟨rfl, rfl⟩
  go_wp2_with fail
  refine (fixedSubAt (-2147483648) 1 (-2147483648) _ (by omega) (by omega) (by omega) (by omega) (by decide +kernel)).mono ?_
  rintro e w' ⟨rfl, rfl⟩
  go_wp2_with fail
  refine (fixedNegAt (-2147483648) 2147483647 _ (by omega) (by omega) (by decide +kernel)).mono ?_
  rintro e w' ⟨rfl, rfl⟩
  go_wp2_with fail
  refine (fixedAbsAt (-5) 5 _ (by omega) (by omega) (by decide +kernel)).mono ?_
  rintro e w' ⟨rfl, rfl⟩
  go_wp2_with fail
  refine (fixedAbsAt (-2147483648) 2147483647 _ (by omega) (by omega) (by decide +kernel)).mono ?_
  rintro e w' ⟨rfl, rfl⟩
  go_wp2_with fail
  refine (fixedMulAt (-1) 1 (-1) _ (by omega) (by omega) (by omega) (by omega) (by decide +kernel)).mono ?_
  rintro e w' ⟨rfl, rfl⟩
  go_wp2_with fail
  refine (fixedMulAt 2147483647 512 2147483647 _ (by omega) (by omega) (by omega) (by omega) (by decide +kernel)).mono ?_
  rintro e w' ⟨rfl, rfl⟩
  go_wp2_with fail
  refine (fixedMulAt (-2147483648) (-2147483648) 2147483647 _ (by omega) (by omega) (by omega) (by omega) (by decide +kernel)).mono ?_
  rintro e w' ⟨rfl, rfl⟩
  go_wp2_with fail
  refine (fixedDivAt (-1) 512 (-1) _ (by omega) (by omega) (by omega) (by omega) (by decide +kernel)).mono ?_
  rintro e w' ⟨rfl, rfl⟩
  go_wp2_with fail
  refine (fixedDivAt 1 0 2147483647 _ (by omega) (by omega) (by omega) (by omega) (by decide +kernel)).mono ?_
  rintro e w' ⟨rfl, rfl⟩
  go_wp2_with fail
  refine (fixedDivAt (-1) 0 (-2147483648) _ (by omega) (by omega) (by omega) (by omega) (by decide +kernel)).mono ?_
  rintro e w' ⟨rfl, rfl⟩
  go_wp2_with fail
  refine (fixedDivAt 0 0 0 _ (by omega) (by omega) (by omega) (by omega) (by decide +kernel)).mono ?_
  rintro e w' ⟨rfl, rfl⟩
  go_wp2_with fail
  refine (fixedDivAt (-2147483648) (-1) 2147483647 _ (by omega) (by omega) (by omega) (by omega) (by decide +kernel)).mono ?_
  rintro e w' ⟨rfl, rfl⟩
  go_wp2_with fail
  refine (fixedDivAt 1 (-512) (-1) _ (by omega) (by omega) (by omega) (by omega) (by decide +kernel)).mono ?_
  rintro e w' ⟨rfl, rfl⟩
  go_wp2_with fail
  refine (fixedDivAt (-1) (-512) 0 _ (by omega) (by omega) (by omega) (by omega) (by decide +kernel)).mono ?_
  rintro e w' ⟨rfl, rfl⟩
  go_wp2_with fail
  refine (fixedClampAt 5 1 3 3 _ (by decide +kernel)).mono ?_
  rintro e w' ⟨rfl, rfl⟩
  go_wp2_with fail
  refine (fixedClampAt 0 1 3 1 _ (by decide +kernel)).mono ?_
  rintro e w' ⟨rfl, rfl⟩
  go_wp2_with fail
  refine (fixedClampAt 2 9 3 9 _ (by decide +kernel)).mono ?_
  rintro e w' ⟨rfl, rfl⟩
  go_wp2_with fail
  refine (fixedTruncAt (-7) 2 (-3) _ (by omega) (by omega) (by omega) (by omega) (by decide +kernel)).mono ?_
  rintro e w' ⟨rfl, rfl⟩
  go_wp2_with fail
  refine (fixedTruncAt 7 0 0 _ (by omega) (by omega) (by omega) (by omega) (by decide +kernel)).mono ?_
  rintro e w' ⟨rfl, rfl⟩
  go_wp2_with fail
  refine (fixedTruncAt (-2147483648) (-1) 2147483647 _ (by omega) (by omega) (by omega) (by omega) (by decide +kernel)).mono ?_
  rintro e w' ⟨rfl, rfl⟩
  go_wp2_with fail
  refine (fixedRoot 1 16 _ (by omega) (by omega) (Or.inr ⟨by omega, by unfold SqIs; omega⟩)).mono ?_
  rintro e w' ⟨rfl, rfl⟩
  go_wp2_with fail
  refine (fixedRoot (-1) 0 _ (by omega) (by omega) (Or.inl ⟨by omega, rfl⟩)).mono ?_
  rintro e w' ⟨rfl, rfl⟩
  go_wp2_with fail
  refine (fixedRoot 0 0 _ (by omega) (by omega) (Or.inr ⟨by omega, by unfold SqIs; omega⟩)).mono ?_
  rintro e w' ⟨rfl, rfl⟩
  go_wp2_with fail
  refine (fixedRoot 2147483647 741455 _ (by omega) (by omega) (Or.inr ⟨by omega, by unfold SqIs; omega⟩)).mono ?_
  rintro e w' ⟨rfl, rfl⟩
  go_wp2_with fail
  refine (awake _).mono ?_
  rintro e w' ⟨rfl, rfl⟩
  go_wp2
  go_ret
  exact ⟨rfl, rfl⟩
end Go.Proofs.Ytcaolnhlihkppaa
