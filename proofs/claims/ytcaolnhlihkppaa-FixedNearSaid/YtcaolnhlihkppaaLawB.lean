/- The Go functions FixedRoot and FixedNear, called with numbers of 32 bits, return true and leave the world as it was. Conditions: the numbers lie in their kind's range. -/
import Derived.Test.YtcaolnhlihkppaaLawA
namespace Go.Proofs.Ytcaolnhlihkppaa
open Go.RowKit
set_option linter.unusedVariables false

theorem lawFixedRoot (n : Int) (w : World) (n1 : -2147483648 ≤ n) (n2 : n ≤ 2147483647) :
    Calls Try.prog 10 #[.int .i32 n] w fun e w' => e = .returned (.bool true) ∧ w = w' := by
  obtain ⟨r, hr⟩ := root_exists n
  have ⟨p1, q1⟩ := root_range n2 hr
  have H := Lib.hid hr
  rcases hr with ⟨h0, h1⟩ | ⟨h0, h1, h2, h3⟩
  · subst h1
    go_enter Try.func10, Try.ntmps10
    go_wp2_with fail
    refine (fixedRoot _ _ _ (by omega) (by omega) H.out).mono ?_
    rintro e w' ⟨rfl, rfl⟩
    go_wp2_with fail
    refine (awake _).mono ?_
    rintro e w' ⟨rfl, rfl⟩
    go_wp2
    go_ret
    exact ⟨rfl, rfl⟩
  · have ⟨m1, m2⟩ := mul_bound (by omega : -1048576 ≤ r) (by omega : r ≤ 1048576) (by omega : -1048576 ≤ r) (by omega : r ≤ 1048576)
    have ⟨m3, m4⟩ := mul_bound (by omega : -1048576 ≤ r + 1) (by omega : r + 1 ≤ 1048576) (by omega : -1048576 ≤ r + 1) (by omega : r + 1 ≤ 1048576)
    simp only [Int.reduceMul, Int.reduceNeg] at m1 m2 m3 m4
    go_enter Try.func10, Try.ntmps10
    go_wp2_with fail
    refine (fixedRoot _ _ _ (by omega) (by omega) H.out).mono ?_
    rintro e w' ⟨rfl, rfl⟩
    go_wp2_with fail
    refine (awake _).mono ?_
    rintro e w' ⟨rfl, rfl⟩
    go_wp2
    go_ret
    exact ⟨rfl, rfl⟩

theorem near_end (a b : Int) (c : b ≠ 0) (h1 : dv a b ≠ -2147483648) (h2 : dv a b ≠ 2147483647) : dv a b = fl (256 * a) b := by
  unfold dv bnd at *
  rw [if_neg c] at *
  split at h1
  · omega
  · rename_i g; rw [if_neg g] at *
    split at h1
    · rename_i g2; rw [if_pos g2] at h2; omega
    · rename_i g2; rw [if_neg g2]

theorem nearZero (a b q : Int) (w : World) (a1 : -2147483648 ≤ a) (a2 : a ≤ 2147483647) (b1 : -2147483648 ≤ b) (b2 : b ≤ 2147483647) (q1 : -2147483648 ≤ q) (q2 : q ≤ 2147483647) (H : Hid (dv a b = q)) (c : b = 0) :
    Calls Try.prog 11 #[.int .i32 a, .int .i32 b] w fun e w' => e = .returned (.bool true) ∧ w = w' := by
  have e0 : (b == 0) = true := by simp [c]
  clear c
  go_enter Try.func11, Try.ntmps11
  go_wp2_with fail
  refine (fixedDivAt _ _ q _ (by omega) (by omega) (by omega) (by omega) H.out).mono ?_
  rintro e w' ⟨rfl, rfl⟩
  go_wp2_with fail
  refine (awake _).mono ?_
  rintro e w' ⟨rfl, rfl⟩
  go_wp2
  go_ret
  exact ⟨rfl, rfl⟩

theorem nearLow (a b q : Int) (w : World) (a1 : -2147483648 ≤ a) (a2 : a ≤ 2147483647) (b1 : -2147483648 ≤ b) (b2 : b ≤ 2147483647) (q1 : -2147483648 ≤ q) (q2 : q ≤ 2147483647) (H : Hid (dv a b = q)) (c0 : b ≠ 0) (c : q = -2147483648) :
    Calls Try.prog 11 #[.int .i32 a, .int .i32 b] w fun e w' => e = .returned (.bool true) ∧ w = w' := by
  have e0 : (b == 0) = false := by simp [c0]
  have e1 : (q == -2147483648) = true := by simp [c]
  clear c c0
  go_enter Try.func11, Try.ntmps11
  go_wp2_with fail
  refine (fixedDivAt _ _ q _ (by omega) (by omega) (by omega) (by omega) H.out).mono ?_
  rintro e w' ⟨rfl, rfl⟩
  go_wp2_with fail
  refine (awake _).mono ?_
  rintro e w' ⟨rfl, rfl⟩
  go_wp2
  go_ret
  exact ⟨rfl, rfl⟩

theorem nearHigh (a b q : Int) (w : World) (a1 : -2147483648 ≤ a) (a2 : a ≤ 2147483647) (b1 : -2147483648 ≤ b) (b2 : b ≤ 2147483647) (q1 : -2147483648 ≤ q) (q2 : q ≤ 2147483647) (H : Hid (dv a b = q)) (c0 : b ≠ 0) (c : q = 2147483647) :
    Calls Try.prog 11 #[.int .i32 a, .int .i32 b] w fun e w' => e = .returned (.bool true) ∧ w = w' := by
  have e0 : (b == 0) = false := by simp [c0]
  have e1 : (q == -2147483648) = false := by simp [c]
  have e2 : (q == 2147483647) = true := by simp [c]
  clear c c0
  go_enter Try.func11, Try.ntmps11
  go_wp2_with fail
  refine (fixedDivAt _ _ q _ (by omega) (by omega) (by omega) (by omega) H.out).mono ?_
  rintro e w' ⟨rfl, rfl⟩
  go_wp2_with fail
  refine (awake _).mono ?_
  rintro e w' ⟨rfl, rfl⟩
  go_wp2
  go_ret
  exact ⟨rfl, rfl⟩

theorem nearNeg (a b q : Int) (w : World) (a1 : -2147483648 ≤ a) (a2 : a ≤ 2147483647) (b1 : -2147483648 ≤ b) (b2 : b ≤ 2147483647) (q1 : -2147483648 ≤ q) (q2 : q ≤ 2147483647) (H : Hid (dv a b = q)) (hb : b < 0) (c1 : q ≠ -2147483648) (c2 : q ≠ 2147483647) :
    Calls Try.prog 11 #[.int .i32 a, .int .i32 b] w fun e w' => e = .returned (.bool true) ∧ w = w' := by
  have e0 : (b == 0) = false := by rw [beq_eq_false_iff_ne]; omega
  have e1 : (q == -2147483648) = false := by simp [c1]
  have e2 : (q == 2147483647) = false := by simp [c2]
  have c0 : b ≠ 0 := by omega
  have hf := near_end a b c0 (by have := H.out; omega) (by have := H.out; omega)
  rw [H.out] at hf
  have ⟨g1, g2⟩ := fl_spec_pos (a := -(256 * a)) (b := -b) (by omega)
  rw [fl_swap c0, ← hf] at g1 g2
  have F1 : q * -b ≤ -(256 * a) := by rw [Int.mul_comm]; exact g1
  have F2 : -(256 * a) < (q + 1) * -b := by rw [Int.mul_comm (q + 1)]; exact g2
  have ⟨m1, m2⟩ := mul_bound (by omega : -2147483648 ≤ q) (by omega : q ≤ 2147483648) (by omega : -2147483648 ≤ -b) (by omega : -b ≤ 2147483648)
  have ⟨m3, m4⟩ := mul_bound (by omega : -2147483648 ≤ q + 1) (by omega : q + 1 ≤ 2147483648) (by omega : -2147483648 ≤ -b) (by omega : -b ≤ 2147483648)
  simp only [Int.reduceMul, Int.reduceNeg] at m1 m2 m3 m4
  clear g1 g2 hf c0 c1 c2
  obtain ⟨d, rfl⟩ : ∃ d, b = -d := ⟨-b, by omega⟩
  rw [Int.neg_neg] at F1 F2 m1 m2 m3 m4
  go_enter Try.func11, Try.ntmps11
  go_wp2_with fail
  refine (fixedDivAt _ _ q _ (by omega) (by omega) (by omega) (by omega) H.out).mono ?_
  rintro e w' ⟨rfl, rfl⟩
  go_wp2_with fail
  refine (awake _).mono ?_
  rintro e w' ⟨rfl, rfl⟩
  go_wp2
  go_ret
  exact ⟨rfl, rfl⟩

theorem nearPos (a b q : Int) (w : World) (a1 : -2147483648 ≤ a) (a2 : a ≤ 2147483647) (b1 : -2147483648 ≤ b) (b2 : b ≤ 2147483647) (q1 : -2147483648 ≤ q) (q2 : q ≤ 2147483647) (H : Hid (dv a b = q)) (hb : 0 < b) (c1 : q ≠ -2147483648) (c2 : q ≠ 2147483647) :
    Calls Try.prog 11 #[.int .i32 a, .int .i32 b] w fun e w' => e = .returned (.bool true) ∧ w = w' := by
  have e0 : (b == 0) = false := by rw [beq_eq_false_iff_ne]; omega
  have e1 : (q == -2147483648) = false := by simp [c1]
  have e2 : (q == 2147483647) = false := by simp [c2]
  have c0 : b ≠ 0 := by omega
  have hf := near_end a b c0 (by have := H.out; omega) (by have := H.out; omega)
  rw [H.out] at hf
  have ⟨g1, g2⟩ := fl_spec_pos (a := 256 * a) (b := b) hb
  rw [← hf] at g1 g2
  have F1 : q * b ≤ 256 * a := by rw [Int.mul_comm]; exact g1
  have F2 : 256 * a < (q + 1) * b := by rw [Int.mul_comm (q + 1)]; exact g2
  have ⟨m1, m2⟩ := mul_bound (by omega : -2147483648 ≤ q) (by omega : q ≤ 2147483648) (by omega : -2147483648 ≤ b) (by omega : b ≤ 2147483648)
  have ⟨m3, m4⟩ := mul_bound (by omega : -2147483648 ≤ q + 1) (by omega : q + 1 ≤ 2147483648) (by omega : -2147483648 ≤ b) (by omega : b ≤ 2147483648)
  simp only [Int.reduceMul, Int.reduceNeg] at m1 m2 m3 m4
  clear g1 g2 hf c0 c1 c2
  go_enter Try.func11, Try.ntmps11
  go_wp2_with fail
  refine (fixedDivAt _ _ q _ (by omega) (by omega) (by omega) (by omega) H.out).mono ?_
  rintro e w' ⟨rfl, rfl⟩
  go_wp2_with fail
  refine (awake _).mono ?_
  rintro e w' ⟨rfl, rfl⟩
  go_wp2
  go_ret
  exact ⟨rfl, rfl⟩

theorem lawFixedNear (a b : Int) (w : World) (a1 : -2147483648 ≤ a) (a2 : a ≤ 2147483647) (b1 : -2147483648 ≤ b) (b2 : b ≤ 2147483647) :
    Calls Try.prog 11 #[.int .i32 a, .int .i32 b] w fun e w' => e = .returned (.bool true) ∧ w = w' := by
  have ⟨p1, q1⟩ := dv_range a b
  by_cases c0 : b = 0
  · exact nearZero a b (dv a b) w a1 a2 b1 b2 p1 q1 (Lib.hid rfl) c0
  · by_cases c1 : dv a b = -2147483648
    · exact nearLow a b (dv a b) w a1 a2 b1 b2 p1 q1 (Lib.hid rfl) c0 c1
    · by_cases c2 : dv a b = 2147483647
      · exact nearHigh a b (dv a b) w a1 a2 b1 b2 p1 q1 (Lib.hid rfl) c0 c2
      · rcases (by omega : b < 0 ∨ 0 < b) with hb | hb
        · exact nearNeg a b (dv a b) w a1 a2 b1 b2 p1 q1 (Lib.hid rfl) hb c1 c2
        · exact nearPos a b (dv a b) w a1 a2 b1 b2 p1 q1 (Lib.hid rfl) hb c1 c2
end Go.Proofs.Ytcaolnhlihkppaa
