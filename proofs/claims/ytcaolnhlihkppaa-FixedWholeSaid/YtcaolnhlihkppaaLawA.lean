/- The Go functions FixedWhole, FixedSums, FixedTimes, FixedParts, FixedCuts, FixedRoots, called with numbers of their kinds, return true and leave the world as it was. Conditions: the numbers lie in their kinds' ranges. -/
import Derived.Test.YtcaolnhlihkppaaFixB
namespace Go.Proofs.Ytcaolnhlihkppaa
open Go.RowKit
set_option linter.unusedVariables false

theorem ab_range (a : Int) (a1 : -2147483648 ≤ a) (a2 : a ≤ 2147483647) : -2147483648 ≤ ab a ∧ ab a ≤ 2147483647 := by
  unfold ab; split
  · exact bnd_range _
  · omega
theorem lm_range (a : Int) : -2147483648 ≤ lm a ∧ lm a ≤ 2147483647 := by unfold lm; (repeat' split) <;> omega
theorem dv_range (a b : Int) : -2147483648 ≤ dv a b ∧ dv a b ≤ 2147483647 := by
  unfold dv; split
  · exact lm_range _
  · exact bnd_range _
theorem tr_range (a b : Int) : -2147483648 ≤ tr a b ∧ tr a b ≤ 2147483647 := by
  unfold tr; split
  · omega
  · exact bnd_range _
theorem wit_range (n l h : Int) (n1 : -2147483648 ≤ n) (n2 : n ≤ 2147483647) (l1 : -2147483648 ≤ l) (l2 : l ≤ 2147483647) (h1 : -2147483648 ≤ h) (h2 : h ≤ 2147483647) : -2147483648 ≤ wit n l h ∧ wit n l h ≤ 2147483647 := by
  unfold wit; (repeat' split) <;> omega
theorem root_range {n r : Int} (n2 : n ≤ 2147483647) (h : RootIs n r) : 0 ≤ r ∧ r ≤ 1048575 := by
  rcases h with ⟨h0, rfl⟩ | ⟨h0, h⟩
  · omega
  · have := sq_lt (B := 1048576) h (by omega) (by omega)
    have := h.1
    omega
theorem i32_of {n : Int} (h : (Lit.int .i32 n).wf = true) : -2147483648 ≤ n ∧ n ≤ 2147483647 := by
  simpa [Lit.wf, IntKind.min, IntKind.max, IntKind.bits, IntKind.signed] using h

theorem lawFixedWhole (n a : Int) (w : World) (a1 : -2147483648 ≤ a) (a2 : a ≤ 2147483647) :
    Calls Try.prog 3 #[.int .i64 n, .int .i32 a] w fun e w' => e = .returned (.bool true) ∧ w = w' := by
  have ⟨p1, p2⟩ := bnd_range (256 * n)
  go_enter Try.func3, Try.ntmps3
  go_wp2_with fail
  refine (fixedOf _ _).mono ?_
  rintro e w' ⟨rfl, rfl⟩
  go_wp2_with fail
  refine (refOf _ _).mono ?_
  rintro e w' ⟨rfl, rfl⟩
  go_wp2_with fail
  refine (fixedWhole _ _ (by omega) (by omega)).mono ?_
  rintro e w' ⟨rfl, rfl⟩
  go_wp2_with fail
  refine (refWhole _ _ (by omega) (by omega)).mono ?_
  rintro e w' ⟨rfl, rfl⟩
  go_wp2_with fail
  refine (awake _).mono ?_
  rintro e w' ⟨rfl, rfl⟩
  go_wp2
  go_ret
  exact ⟨rfl, rfl⟩

theorem lawFixedSums (a b : Int) (w : World) (a1 : -2147483648 ≤ a) (a2 : a ≤ 2147483647) (b1 : -2147483648 ≤ b) (b2 : b ≤ 2147483647) :
    Calls Try.prog 4 #[.int .i32 a, .int .i32 b] w fun e w' => e = .returned (.bool true) ∧ w = w' := by
  have ⟨p1, q1⟩ := bnd_range (a + b)
  have ⟨p2, q2⟩ := bnd_range (a - b)
  have ⟨p3, q3⟩ := bnd_range (-a)
  have ⟨p4, q4⟩ := ab_range a a1 a2
  go_enter Try.func4, Try.ntmps4
  go_wp2_with fail
  refine (fixedAdd _ _ _ (by omega) (by omega) (by omega) (by omega)).mono ?_
  rintro e w' ⟨rfl, rfl⟩
  go_wp2_with fail
  refine (refAdd _ _ _ (by omega) (by omega) (by omega) (by omega)).mono ?_
  rintro e w' ⟨rfl, rfl⟩
  go_wp2_with fail
  refine (fixedSub _ _ _ (by omega) (by omega) (by omega) (by omega)).mono ?_
  rintro e w' ⟨rfl, rfl⟩
  go_wp2_with fail
  refine (refSub _ _ _ (by omega) (by omega) (by omega) (by omega)).mono ?_
  rintro e w' ⟨rfl, rfl⟩
  go_wp2_with fail
  refine (fixedNeg _ _ (by omega) (by omega)).mono ?_
  rintro e w' ⟨rfl, rfl⟩
  go_wp2_with fail
  refine (refNeg _ _ (by omega) (by omega)).mono ?_
  rintro e w' ⟨rfl, rfl⟩
  go_wp2_with fail
  refine (fixedAbs _ _ (by omega) (by omega)).mono ?_
  rintro e w' ⟨rfl, rfl⟩
  go_wp2_with fail
  refine (refAbs _ _ (by omega) (by omega)).mono ?_
  rintro e w' ⟨rfl, rfl⟩
  go_wp2_with fail
  refine (awake _).mono ?_
  rintro e w' ⟨rfl, rfl⟩
  go_wp2
  go_ret
  exact ⟨rfl, rfl⟩

theorem lawFixedTimes (a b : Int) (w : World) (a1 : -2147483648 ≤ a) (a2 : a ≤ 2147483647) (b1 : -2147483648 ≤ b) (b2 : b ≤ 2147483647) :
    Calls Try.prog 5 #[.int .i32 a, .int .i32 b] w fun e w' => e = .returned (.bool true) ∧ w = w' := by
  have ⟨p1, q1⟩ := bnd_range (fl (a * b) 256)
  go_enter Try.func5, Try.ntmps5
  go_wp2_with fail
  refine (fixedMul _ _ _ (by omega) (by omega) (by omega) (by omega)).mono ?_
  rintro e w' ⟨rfl, rfl⟩
  go_wp2_with fail
  refine (refMul _ _ _ (by omega) (by omega) (by omega) (by omega)).mono ?_
  rintro e w' ⟨rfl, rfl⟩
  go_wp2_with fail
  refine (awake _).mono ?_
  rintro e w' ⟨rfl, rfl⟩
  go_wp2
  go_ret
  exact ⟨rfl, rfl⟩

theorem lawFixedParts (a b : Int) (w : World) (a1 : -2147483648 ≤ a) (a2 : a ≤ 2147483647) (b1 : -2147483648 ≤ b) (b2 : b ≤ 2147483647) :
    Calls Try.prog 6 #[.int .i32 a, .int .i32 b] w fun e w' => e = .returned (.bool true) ∧ w = w' := by
  have ⟨p1, q1⟩ := dv_range a b
  go_enter Try.func6, Try.ntmps6
  go_wp2_with fail
  refine (fixedDiv _ _ _ (by omega) (by omega) (by omega) (by omega)).mono ?_
  rintro e w' ⟨rfl, rfl⟩
  go_wp2_with fail
  refine (refDiv _ _ _ (by omega) (by omega) (by omega) (by omega)).mono ?_
  rintro e w' ⟨rfl, rfl⟩
  go_wp2_with fail
  refine (awake _).mono ?_
  rintro e w' ⟨rfl, rfl⟩
  go_wp2
  go_ret
  exact ⟨rfl, rfl⟩

theorem lawFixedCuts (n l h : Int) (w : World) (n1 : -2147483648 ≤ n) (n2 : n ≤ 2147483647) (l1 : -2147483648 ≤ l) (l2 : l ≤ 2147483647) (h1 : -2147483648 ≤ h) (h2 : h ≤ 2147483647) :
    Calls Try.prog 7 #[.int .i32 n, .int .i32 l, .int .i32 h] w fun e w' => e = .returned (.bool true) ∧ w = w' := by
  have ⟨p1, q1⟩ := wit_range n l h n1 n2 l1 l2 h1 h2
  have ⟨p2, q2⟩ := tr_range n l
  go_enter Try.func7, Try.ntmps7
  go_wp2_with fail
  refine (fixedClamp _ _ _ _).mono ?_
  rintro e w' ⟨rfl, rfl⟩
  go_wp2_with fail
  refine (refClamp _ _ _ _).mono ?_
  rintro e w' ⟨rfl, rfl⟩
  go_wp2_with fail
  refine (fixedTrunc _ _ _ (by omega) (by omega) (by omega) (by omega)).mono ?_
  rintro e w' ⟨rfl, rfl⟩
  go_wp2_with fail
  refine (refTrunc _ _ _ (by omega) (by omega) (by omega) (by omega)).mono ?_
  rintro e w' ⟨rfl, rfl⟩
  go_wp2_with fail
  refine (awake _).mono ?_
  rintro e w' ⟨rfl, rfl⟩
  go_wp2
  go_ret
  exact ⟨rfl, rfl⟩

theorem lawFixedRoots (n : Int) (w : World) (n1 : -2147483648 ≤ n) (n2 : n ≤ 2147483647) :
    Calls Try.prog 8 #[.int .i32 n] w fun e w' => e = .returned (.bool true) ∧ w = w' := by
  obtain ⟨r, hr⟩ := root_exists n
  have ⟨p1, q1⟩ := root_range n2 hr
  have H := Lib.hid hr
  clear hr
  go_enter Try.func8, Try.ntmps8
  go_wp2_with fail
  refine (fixedRoot _ _ _ (by omega) (by omega) H.out).mono ?_
  rintro e w' ⟨rfl, rfl⟩
  go_wp2_with fail
  refine (refRoot _ _ _ (by omega) (by omega) H.out).mono ?_
  rintro e w' ⟨rfl, rfl⟩
  go_wp2_with fail
  refine (awake _).mono ?_
  rintro e w' ⟨rfl, rfl⟩
  go_wp2
  go_ret
  exact ⟨rfl, rfl⟩
end Go.Proofs.Ytcaolnhlihkppaa
