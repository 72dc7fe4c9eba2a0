/- The functions of package fixed, and the document's answers, as the walk of the program's text gives them: one contract each. Nothing is assumed beyond each contract's own bounds. -/
import Derived.Test.YtcaolnhlihkppaaRows
import Derived.WalkKit
import Derived.ProofKit
import Derived.OpenShut
import Derived.Handy
import Derived.Lib.Hide
import Derived.Test.YtcaolnhlihkppaaMath
namespace Go.Proofs.Ytcaolnhlihkppaa
open Go.RowKit
set_option linter.unusedVariables false

theorem ret_int {k : IntKind} {a b : Int} (h : a = b) : Ending.returned (.int k a) = .returned (.int k b) := by rw [h]

theorem within64 (n l h : Int) (w : World) :
    Calls Try.prog 43 #[.int .i64 n, .int .i64 l, .int .i64 h] w fun e w' => e = .returned (.int .i64 (wit n l h)) ∧ w = w' := by
  unfold wit
  by_cases c1 : n < l
  · rw [if_pos (Or.inl c1)]
    go_enter Try.func43, Try.ntmps43
    go_wp2
    go_ret
    exact ⟨rfl, rfl⟩
  · by_cases c2 : h < l
    · rw [if_pos (Or.inr c2)]
      go_enter Try.func43, Try.ntmps43
      go_wp2
      go_ret
      exact ⟨rfl, rfl⟩
    · rw [if_neg (by omega)]
      by_cases c3 : h < n
      · rw [if_pos c3]
        go_enter Try.func43, Try.ntmps43
        go_wp2
        go_ret
        exact ⟨rfl, rfl⟩
      · rw [if_neg c3]
        go_enter Try.func43, Try.ntmps43
        go_wp2
        go_ret
        exact ⟨rfl, rfl⟩

theorem withinInt (n l h : Int) (w : World) :
    Calls Try.prog 44 #[.int .i64 n, .int .i64 l, .int .i64 h] w fun e w' => e = .returned (.int .i64 (wit n l h)) ∧ w = w' := by
  unfold wit
  by_cases c1 : n < l
  · rw [if_pos (Or.inl c1)]
    go_enter Try.func44, Try.ntmps44
    go_wp2
    go_ret
    exact ⟨rfl, rfl⟩
  · by_cases c2 : h < l
    · rw [if_pos (Or.inr c2)]
      go_enter Try.func44, Try.ntmps44
      go_wp2
      go_ret
      exact ⟨rfl, rfl⟩
    · rw [if_neg (by omega)]
      by_cases c3 : h < n
      · rw [if_pos c3]
        go_enter Try.func44, Try.ntmps44
        go_wp2
        go_ret
        exact ⟨rfl, rfl⟩
      · rw [if_neg c3]
        go_enter Try.func44, Try.ntmps44
        go_wp2
        go_ret
        exact ⟨rfl, rfl⟩

theorem withinNum (n l h : Int) (w : World) :
    Calls Try.prog 42 #[.int .i32 n, .int .i32 l, .int .i32 h] w fun e w' => e = .returned (.int .i32 (wit n l h)) ∧ w = w' := by
  unfold wit
  by_cases c1 : n < l
  · rw [if_pos (Or.inl c1)]
    go_enter Try.func42, Try.ntmps42
    go_wp2
    go_ret
    exact ⟨rfl, rfl⟩
  · by_cases c2 : h < l
    · rw [if_pos (Or.inr c2)]
      go_enter Try.func42, Try.ntmps42
      go_wp2
      go_ret
      exact ⟨rfl, rfl⟩
    · rw [if_neg (by omega)]
      by_cases c3 : h < n
      · rw [if_pos c3]
        go_enter Try.func42, Try.ntmps42
        go_wp2
        go_ret
        exact ⟨rfl, rfl⟩
      · rw [if_neg c3]
        go_enter Try.func42, Try.ntmps42
        go_wp2
        go_ret
        exact ⟨rfl, rfl⟩

theorem refClamp (n l h : Int) (w : World) :
    Calls Try.prog 31 #[.int .i32 n, .int .i32 l, .int .i32 h] w fun e w' => e = .returned (.int .i32 (wit n l h)) ∧ w = w' := by
  unfold wit
  by_cases c1 : n < l
  · rw [if_pos (Or.inl c1)]
    go_enter Try.func31, Try.ntmps31
    go_wp2
    go_ret
    exact ⟨rfl, rfl⟩
  · by_cases c2 : h < l
    · rw [if_pos (Or.inr c2)]
      go_enter Try.func31, Try.ntmps31
      go_wp2
      go_ret
      exact ⟨rfl, rfl⟩
    · rw [if_neg (by omega)]
      by_cases c3 : h < n
      · rw [if_pos c3]
        go_enter Try.func31, Try.ntmps31
        go_wp2
        go_ret
        exact ⟨rfl, rfl⟩
      · rw [if_neg c3]
        go_enter Try.func31, Try.ntmps31
        go_wp2
        go_ret
        exact ⟨rfl, rfl⟩

theorem bound64 (n : Int) (w : World) :
    Calls Try.prog 36 #[.int .i64 n] w fun e w' => e = .returned (.int .i32 (bnd n)) ∧ w = w' := by
  have hr := bnd_range n
  go_enter Try.func36, Try.ntmps36
  go_wp2_with fail
  refine (within64 _ _ _ _).mono ?_
  rintro e w' ⟨rfl, rfl⟩
  rw [wit_bnd]
  go_wp2
  go_ret
  exact ⟨rfl, rfl⟩

theorem boundInt (n : Int) (w : World) :
    Calls Try.prog 37 #[.int .i64 n] w fun e w' => e = .returned (.int .i32 (bnd n)) ∧ w = w' := by
  have hr := bnd_range n
  go_enter Try.func37, Try.ntmps37
  go_wp2_with fail
  refine (withinInt _ _ _ _).mono ?_
  rintro e w' ⟨rfl, rfl⟩
  rw [wit_bnd]
  go_wp2
  go_ret
  exact ⟨rfl, rfl⟩

theorem refBounded (n : Int) (w : World) :
    Calls Try.prog 38 #[.int .i64 n] w fun e w' => e = .returned (.int .i32 (bnd n)) ∧ w = w' := by
  unfold bnd
  by_cases c1 : n < -2147483648
  · rw [if_pos c1]
    go_enter Try.func38, Try.ntmps38
    go_wp2
    go_ret
    exact ⟨rfl, rfl⟩
  · rw [if_neg c1]
    by_cases c2 : 2147483647 < n
    · rw [if_pos c2]
      go_enter Try.func38, Try.ntmps38
      go_wp2
      go_ret
      exact ⟨rfl, rfl⟩
    · rw [if_neg c2]
      go_enter Try.func38, Try.ntmps38
      go_wp2
      go_ret
      exact ⟨rfl, rfl⟩

theorem floorDiv (a b : Int) (w : World) (hb : b ≠ 0) (a1 : -4611686018427387904 ≤ a) (a2 : a ≤ 4611686018427387904) :
    Calls Try.prog 39 #[.int .i64 a, .int .i64 b] w fun e w' => e = .returned (.int .i64 (fl a b)) ∧ w = w' := by
  have ⟨t1, t2, t3⟩ := fl_of_tdiv a b hb
  have ⟨b1, b2⟩ := tdiv_bound hb (by omega : -4611686018427387904 ≤ a) a2
  have T1 := Lib.hid t1
  have T2 := Lib.hid t2
  have T3 := Lib.hid t3
  clear t1 t2 t3
  by_cases c1 : a.tmod b = 0
  · have c2 : (a.tmod b != 0) = false := by simp [c1]
    have e := T1.out c1
    clear c1
    go_enter Try.func39, Try.ntmps39
    go_wp2
    go_ret
    exact ⟨rfl, rfl⟩
  · have c2 : (a.tmod b != 0) = true := by simp [c1]
    have C := Lib.hid c1
    clear c1
    rcases (by omega : a < 0 ∨ 0 ≤ a) with ha | ha <;> rcases (by omega : b < 0 ∨ 0 < b) with h | h
    all_goals
      go_enter Try.func39, Try.ntmps39
      go_wp2
      all_goals
        go_ret
        refine ⟨ret_int ?_, rfl⟩
        first
          | exact T3.out C.out (by simp; omega)
          | exact T2.out (by simp; omega)
          | (exfalso; have c := C.out; simp_all; done)
          | (exfalso; have c := C.out; simp_all; omega)
          | (exfalso; have c := C.out; rw [Int.tmod_eq_emod_of_nonneg ha] at c; simp_all; done)
          | (exfalso; have c := C.out; rw [Int.tmod_eq_emod_of_nonneg ha] at c; simp_all; omega)

theorem refBelow (a b : Int) (w : World) (hb : b ≠ 0) (a1 : -4611686018427387904 ≤ a) (a2 : a ≤ 4611686018427387904) (b1 : -2147483648 ≤ b) (b2 : b ≤ 2147483647) :
    Calls Try.prog 40 #[.int .i64 a, .int .i64 b] w fun e w' => e = .returned (.int .i64 (fl a b)) ∧ w = w' := by
  rcases (by omega : a < 0 ∨ 0 ≤ a) with ha | ha <;> rcases (by omega : b < 0 ∨ 0 < b) with h | h
  · obtain ⟨d, rfl⟩ : ∃ d, b = -d := ⟨-b, by omega⟩
    obtain ⟨c, rfl⟩ : ∃ c, a = -c := ⟨-a, by omega⟩
    have E := Lib.hid ((fl_swap (a := c) (b := d) (by omega)).trans (fl_pos (a := c) (b := d) (by omega)))
    have q0 := Int.ediv_nonneg (by omega : 0 ≤ c) (by omega : 0 ≤ d)
    have q1 := Int.ediv_le_self d (by omega : 0 ≤ c)
    go_enter Try.func40, Try.ntmps40
    go_wp2
    go_ret
    exact ⟨ret_int E.out.symm, rfl⟩
  · have E := Lib.hid ((fl_pos (a := a) h).trans (fl_ceil (a := a) h).symm)
    have q0 := Int.ediv_nonneg (by omega : 0 ≤ -a + b - 1) (by omega : 0 ≤ b)
    have q1 := Int.ediv_le_self b (by omega : 0 ≤ -a + b - 1)
    go_enter Try.func40, Try.ntmps40
    go_wp2
    go_ret
    exact ⟨ret_int E.out.symm, rfl⟩
  · obtain ⟨d, rfl⟩ : ∃ d, b = -d := ⟨-b, by omega⟩
    rcases (by omega : a = 0 ∨ 0 < a) with h0 | h0
    · subst h0
      have E := Lib.hid (fl_neg (a := 0) h)
      go_enter Try.func40, Try.ntmps40
      go_wp2
      go_ret
      exact ⟨ret_int (by rw [E.out]; simp), rfl⟩
    · have E := Lib.hid ((fl_swap (a := -a) (b := d) (by omega)).trans ((fl_pos (a := -a) (b := d) (by omega)).trans (fl_ceil (a := -a) (b := d) (by omega)).symm))
      have q0 := Int.ediv_nonneg (by omega : 0 ≤ - -a + d - 1) (by omega : 0 ≤ d)
      have q1 := Int.ediv_le_self d (by omega : 0 ≤ - -a + d - 1)
      rw [Int.neg_neg] at q0 q1
      go_enter Try.func40, Try.ntmps40
      go_wp2
      go_ret
      exact ⟨ret_int (by have := E.out; rw [Int.neg_neg] at this; rw [this]; try simp), rfl⟩
  · have E := Lib.hid (fl_pos (a := a) h)
    go_enter Try.func40, Try.ntmps40
    go_wp2
    go_ret
    exact ⟨ret_int E.out.symm, rfl⟩

theorem fixedOf (n : Int) (w : World) :
    Calls Try.prog 13 #[.int .i64 n] w fun e w' => e = .returned (.int .i32 (bnd (256 * n))) ∧ w = w' := by
  have E := Lib.hid (bnd_256 n)
  have hb := bnd_range n
  go_enter Try.func13, Try.ntmps13
  go_wp2_with fail
  refine (boundInt _ _).mono ?_
  rintro e w' ⟨rfl, rfl⟩
  go_wp2_with fail
  refine (bound64 _ _).mono ?_
  rintro e w' ⟨rfl, rfl⟩
  go_wp2
  go_ret
  exact ⟨ret_int (E.out), rfl⟩

theorem refOf (n : Int) (w : World) :
    Calls Try.prog 14 #[.int .i64 n] w fun e w' => e = .returned (.int .i32 (bnd (256 * n))) ∧ w = w' := by
  rcases (by omega : 10000000 < n ∨ n < -10000000 ∨ (-10000000 ≤ n ∧ n ≤ 10000000)) with h | h | ⟨h1, h2⟩
  · have E : Hid (bnd (256 * n) = 2147483647) := Lib.hid (by unfold bnd; (repeat' split) <;> omega)
    go_enter Try.func14, Try.ntmps14
    go_wp2
    go_ret
    exact ⟨ret_int (E.out.symm), rfl⟩
  · have E : Hid (bnd (256 * n) = -2147483648) := Lib.hid (by unfold bnd; (repeat' split) <;> omega)
    go_enter Try.func14, Try.ntmps14
    go_wp2
    go_ret
    exact ⟨ret_int (E.out.symm), rfl⟩
  · skip
    go_enter Try.func14, Try.ntmps14
    go_wp2_with fail
    refine (refBounded _ _).mono ?_
    rintro e w' ⟨rfl, rfl⟩
    go_wp2
    go_ret
    exact ⟨ret_int (by rw [Int.mul_comm]), rfl⟩

theorem fixedWhole (a : Int) (w : World) (a1 : -2147483648 ≤ a) (a2 : a ≤ 2147483647) :
    Calls Try.prog 15 #[.int .i32 a] w fun e w' => e = .returned (.int .i64 (fl a 256)) ∧ w = w' := by
  go_enter Try.func15, Try.ntmps15
  go_wp2_with fail
  refine (floorDiv _ _ _ (by omega) (by omega) (by omega)).mono ?_
  rintro e w' ⟨rfl, rfl⟩
  go_wp2
  go_ret
  exact ⟨rfl, rfl⟩

theorem refWhole (a : Int) (w : World) (a1 : -2147483648 ≤ a) (a2 : a ≤ 2147483647) :
    Calls Try.prog 16 #[.int .i32 a] w fun e w' => e = .returned (.int .i64 (fl a 256)) ∧ w = w' := by
  go_enter Try.func16, Try.ntmps16
  go_wp2_with fail
  refine (refBelow _ _ _ (by omega) (by omega) (by omega) (by omega) (by omega)).mono ?_
  rintro e w' ⟨rfl, rfl⟩
  go_wp2
  go_ret
  exact ⟨rfl, rfl⟩

theorem fixedAdd (a b : Int) (w : World) (a1 : -2147483648 ≤ a) (a2 : a ≤ 2147483647) (b1 : -2147483648 ≤ b) (b2 : b ≤ 2147483647) :
    Calls Try.prog 18 #[.int .i32 a, .int .i32 b] w fun e w' => e = .returned (.int .i32 (bnd (a + b))) ∧ w = w' := by
  go_enter Try.func18, Try.ntmps18
  go_wp2_with fail
  refine (bound64 _ _).mono ?_
  rintro e w' ⟨rfl, rfl⟩
  go_wp2
  go_ret
  exact ⟨rfl, rfl⟩

theorem refAdd (a b : Int) (w : World) (a1 : -2147483648 ≤ a) (a2 : a ≤ 2147483647) (b1 : -2147483648 ≤ b) (b2 : b ≤ 2147483647) :
    Calls Try.prog 19 #[.int .i32 a, .int .i32 b] w fun e w' => e = .returned (.int .i32 (bnd (a + b))) ∧ w = w' := by
  go_enter Try.func19, Try.ntmps19
  go_wp2_with fail
  refine (refBounded _ _).mono ?_
  rintro e w' ⟨rfl, rfl⟩
  go_wp2
  go_ret
  exact ⟨rfl, rfl⟩

theorem fixedSub (a b : Int) (w : World) (a1 : -2147483648 ≤ a) (a2 : a ≤ 2147483647) (b1 : -2147483648 ≤ b) (b2 : b ≤ 2147483647) :
    Calls Try.prog 20 #[.int .i32 a, .int .i32 b] w fun e w' => e = .returned (.int .i32 (bnd (a - b))) ∧ w = w' := by
  go_enter Try.func20, Try.ntmps20
  go_wp2_with fail
  refine (bound64 _ _).mono ?_
  rintro e w' ⟨rfl, rfl⟩
  go_wp2
  go_ret
  exact ⟨rfl, rfl⟩

theorem refSub (a b : Int) (w : World) (a1 : -2147483648 ≤ a) (a2 : a ≤ 2147483647) (b1 : -2147483648 ≤ b) (b2 : b ≤ 2147483647) :
    Calls Try.prog 21 #[.int .i32 a, .int .i32 b] w fun e w' => e = .returned (.int .i32 (bnd (a - b))) ∧ w = w' := by
  go_enter Try.func21, Try.ntmps21
  go_wp2_with fail
  refine (refBounded _ _).mono ?_
  rintro e w' ⟨rfl, rfl⟩
  go_wp2
  go_ret
  exact ⟨rfl, rfl⟩

theorem fixedNeg (a : Int) (w : World) (a1 : -2147483648 ≤ a) (a2 : a ≤ 2147483647) :
    Calls Try.prog 22 #[.int .i32 a] w fun e w' => e = .returned (.int .i32 (bnd (-a))) ∧ w = w' := by
  go_enter Try.func22, Try.ntmps22
  go_wp2_with fail
  refine (fixedSub _ _ _ (by omega) (by omega) (by omega) (by omega)).mono ?_
  rintro e w' ⟨rfl, rfl⟩
  go_wp2
  go_ret
  exact ⟨ret_int (by simp), rfl⟩

theorem refNeg (a : Int) (w : World) (a1 : -2147483648 ≤ a) (a2 : a ≤ 2147483647) :
    Calls Try.prog 23 #[.int .i32 a] w fun e w' => e = .returned (.int .i32 (bnd (-a))) ∧ w = w' := by
  go_enter Try.func23, Try.ntmps23
  go_wp2_with fail
  refine (refBounded _ _).mono ?_
  rintro e w' ⟨rfl, rfl⟩
  go_wp2
  go_ret
  exact ⟨ret_int (by simp), rfl⟩

theorem fixedAbs (a : Int) (w : World) (a1 : -2147483648 ≤ a) (a2 : a ≤ 2147483647) :
    Calls Try.prog 24 #[.int .i32 a] w fun e w' => e = .returned (.int .i32 (ab a)) ∧ w = w' := by
  unfold ab
  by_cases c : a < 0
  · rw [if_pos c]
    go_enter Try.func24, Try.ntmps24
    go_wp2_with fail
    refine (fixedNeg _ _ (by omega) (by omega)).mono ?_
    rintro e w' ⟨rfl, rfl⟩
    go_wp2
    go_ret
    exact ⟨rfl, rfl⟩
  · rw [if_neg c]
    go_enter Try.func24, Try.ntmps24
    go_wp2
    go_ret
    exact ⟨rfl, rfl⟩

theorem refAbs (a : Int) (w : World) (a1 : -2147483648 ≤ a) (a2 : a ≤ 2147483647) :
    Calls Try.prog 25 #[.int .i32 a] w fun e w' => e = .returned (.int .i32 (ab a)) ∧ w = w' := by
  unfold ab
  by_cases c : a < 0
  · rw [if_pos c]
    go_enter Try.func25, Try.ntmps25
    go_wp2_with fail
    refine (refNeg _ _ (by omega) (by omega)).mono ?_
    rintro e w' ⟨rfl, rfl⟩
    go_wp2
    go_ret
    exact ⟨rfl, rfl⟩
  · rw [if_neg c]
    go_enter Try.func25, Try.ntmps25
    go_wp2
    go_ret
    exact ⟨rfl, rfl⟩

theorem fixedMul (a b : Int) (w : World) (a1 : -2147483648 ≤ a) (a2 : a ≤ 2147483647) (b1 : -2147483648 ≤ b) (b2 : b ≤ 2147483647) :
    Calls Try.prog 26 #[.int .i32 a, .int .i32 b] w fun e w' => e = .returned (.int .i32 (bnd (fl (a * b) 256))) ∧ w = w' := by
  have ⟨m1, m2⟩ := mul_bound (by omega : -2147483648 ≤ a) (by omega : a ≤ 2147483648) (by omega : -2147483648 ≤ b) (by omega : b ≤ 2147483648)
  simp only [Int.reduceMul, Int.reduceNeg] at m1 m2
  go_enter Try.func26, Try.ntmps26
  go_wp2_with fail
  refine (floorDiv _ _ _ (by omega) (by omega) (by omega)).mono ?_
  rintro e w' ⟨rfl, rfl⟩
  go_wp2_with fail
  refine (bound64 _ _).mono ?_
  rintro e w' ⟨rfl, rfl⟩
  go_wp2
  go_ret
  exact ⟨rfl, rfl⟩

theorem refMul (a b : Int) (w : World) (a1 : -2147483648 ≤ a) (a2 : a ≤ 2147483647) (b1 : -2147483648 ≤ b) (b2 : b ≤ 2147483647) :
    Calls Try.prog 27 #[.int .i32 a, .int .i32 b] w fun e w' => e = .returned (.int .i32 (bnd (fl (a * b) 256))) ∧ w = w' := by
  have ⟨m1, m2⟩ := mul_bound (by omega : -2147483648 ≤ a) (by omega : a ≤ 2147483648) (by omega : -2147483648 ≤ b) (by omega : b ≤ 2147483648)
  simp only [Int.reduceMul, Int.reduceNeg] at m1 m2
  go_enter Try.func27, Try.ntmps27
  go_wp2_with fail
  refine (refBelow _ _ _ (by omega) (by omega) (by omega) (by omega) (by omega)).mono ?_
  rintro e w' ⟨rfl, rfl⟩
  go_wp2_with fail
  refine (refBounded _ _).mono ?_
  rintro e w' ⟨rfl, rfl⟩
  go_wp2
  go_ret
  exact ⟨rfl, rfl⟩

theorem limitTowards (a : Int) (w : World) :
    Calls Try.prog 41 #[.int .i32 a] w fun e w' => e = .returned (.int .i32 (lm a)) ∧ w = w' := by
  unfold lm
  rcases (by omega : 0 < a ∨ a < 0 ∨ a = 0) with h | h | h
  · rw [if_pos h]
    go_enter Try.func41, Try.ntmps41
    go_wp2
    go_ret
    exact ⟨rfl, rfl⟩
  · rw [if_neg (by omega), if_pos h]
    have h' : ¬ 0 < a := by omega
    go_enter Try.func41, Try.ntmps41
    go_wp2
    go_ret
    exact ⟨rfl, rfl⟩
  · subst h
    go_enter Try.func41, Try.ntmps41
    go_wp2
    go_ret
    exact ⟨ret_int (by simp), rfl⟩

theorem fixedDiv (a b : Int) (w : World) (a1 : -2147483648 ≤ a) (a2 : a ≤ 2147483647) (b1 : -2147483648 ≤ b) (b2 : b ≤ 2147483647) :
    Calls Try.prog 28 #[.int .i32 a, .int .i32 b] w fun e w' => e = .returned (.int .i32 (dv a b)) ∧ w = w' := by
  unfold dv
  by_cases c : b = 0
  · rw [if_pos c]
    subst c
    go_enter Try.func28, Try.ntmps28
    go_wp2_with fail
    refine (limitTowards _ _).mono ?_
    rintro e w' ⟨rfl, rfl⟩
    go_wp2
    go_ret
    exact ⟨rfl, rfl⟩
  · rw [if_neg c]
    have c2 : (b == 0) = false := by simp [c]
    go_enter Try.func28, Try.ntmps28
    go_wp2_with fail
    refine (floorDiv _ _ _ c (by omega) (by omega)).mono ?_
    rintro e w' ⟨rfl, rfl⟩
    go_wp2_with fail
    refine (bound64 _ _).mono ?_
    rintro e w' ⟨rfl, rfl⟩
    go_wp2
    go_ret
    exact ⟨rfl, rfl⟩

theorem refDiv (a b : Int) (w : World) (a1 : -2147483648 ≤ a) (a2 : a ≤ 2147483647) (b1 : -2147483648 ≤ b) (b2 : b ≤ 2147483647) :
    Calls Try.prog 29 #[.int .i32 a, .int .i32 b] w fun e w' => e = .returned (.int .i32 (dv a b)) ∧ w = w' := by
  unfold dv
  by_cases c : b = 0
  · rw [if_pos c]
    subst c
    unfold lm
    rcases (by omega : 0 < a ∨ a < 0 ∨ a = 0) with h | h | h
    · rw [if_pos h]
      go_enter Try.func29, Try.ntmps29
      go_wp2
      go_ret
      exact ⟨rfl, rfl⟩
    · rw [if_neg (by omega), if_pos h]
      have h' : ¬ 0 < a := by omega
      go_enter Try.func29, Try.ntmps29
      go_wp2
      go_ret
      exact ⟨rfl, rfl⟩
    · subst h
      go_enter Try.func29, Try.ntmps29
      go_wp2
      go_ret
      exact ⟨ret_int (by simp), rfl⟩
  · rw [if_neg c]
    have c2 : (b == 0) = false := by simp [c]
    go_enter Try.func29, Try.ntmps29
    go_wp2_with fail
    refine (refBelow _ _ _ c (by omega) (by omega) (by omega) (by omega)).mono ?_
    rintro e w' ⟨rfl, rfl⟩
    go_wp2_with fail
    refine (refBounded _ _).mono ?_
    rintro e w' ⟨rfl, rfl⟩
    go_wp2
    go_ret
    exact ⟨ret_int (by rw [Int.mul_comm]), rfl⟩

theorem fixedTrunc (a b : Int) (w : World) (a1 : -2147483648 ≤ a) (a2 : a ≤ 2147483647) (b1 : -2147483648 ≤ b) (b2 : b ≤ 2147483647) :
    Calls Try.prog 32 #[.int .i32 a, .int .i32 b] w fun e w' => e = .returned (.int .i32 (tr a b)) ∧ w = w' := by
  unfold tr
  by_cases c : b = 0
  · rw [if_pos c]
    subst c
    go_enter Try.func32, Try.ntmps32
    go_wp2
    go_ret
    exact ⟨rfl, rfl⟩
  · rw [if_neg c]
    have c2 : (b == 0) = false := by simp [c]
    have ⟨t1, t2⟩ := tdiv_bound c (by omega : -2147483648 ≤ a) (by omega : a ≤ 2147483648)
    go_enter Try.func32, Try.ntmps32
    go_wp2_with fail
    refine (bound64 _ _).mono ?_
    rintro e w' ⟨rfl, rfl⟩
    go_wp2
    go_ret
    exact ⟨rfl, rfl⟩

theorem refTrunc (a b : Int) (w : World) (a1 : -2147483648 ≤ a) (a2 : a ≤ 2147483647) (b1 : -2147483648 ≤ b) (b2 : b ≤ 2147483647) :
    Calls Try.prog 33 #[.int .i32 a, .int .i32 b] w fun e w' => e = .returned (.int .i32 (tr a b)) ∧ w = w' := by
  unfold tr
  by_cases c : b = 0
  · rw [if_pos c]
    subst c
    go_enter Try.func33, Try.ntmps33
    go_wp2
    go_ret
    exact ⟨rfl, rfl⟩
  · rw [if_neg c]
    have c2 : (b == 0) = false := by simp [c]
    have ⟨t1, t2⟩ := tdiv_bound c (by omega : -2147483648 ≤ a) (by omega : a ≤ 2147483648)
    go_enter Try.func33, Try.ntmps33
    go_wp2_with fail
    refine (refBounded _ _).mono ?_
    rintro e w' ⟨rfl, rfl⟩
    go_wp2
    go_ret
    exact ⟨rfl, rfl⟩

theorem fixedClamp (n l h : Int) (w : World) :
    Calls Try.prog 30 #[.int .i32 n, .int .i32 l, .int .i32 h] w fun e w' => e = .returned (.int .i32 (wit n l h)) ∧ w = w' := by
  go_enter Try.func30, Try.ntmps30
  go_wp2_with fail
  refine (withinNum _ _ _ _).mono ?_
  rintro e w' ⟨rfl, rfl⟩
  go_wp2
  go_ret
  exact ⟨rfl, rfl⟩
end Go.Proofs.Ytcaolnhlihkppaa
