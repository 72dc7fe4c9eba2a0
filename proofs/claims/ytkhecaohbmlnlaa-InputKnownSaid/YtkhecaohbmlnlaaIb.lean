/- What one input says: its bits, its direction; the program's and the document's: one contract each. -/
import Derived.Test.YtkhecaohbmlnlaaIx
import Derived.Test.YtkhecaohbmlnlaaRows
import Derived.WalkKit
import Derived.ProofKit
import Derived.Lib.Hide
namespace Go.Proofs.Ytkhecaohbmlnlaa
open Go.RowKit
set_option linter.unusedVariables false

def hasb (i b : Nat) : Bool := decide (i &&& b ≠ 0)
def along (i a b : Nat) : Int := (if hasb i b then 1 else 0) - (if hasb i a then 1 else 0)
def bitb (i n : Nat) : Bool := decide (i / 2 ^ n % 2 = 1)
def against (a b : Bool) : Int := if a && !b then -1 else if b && !a then 1 else 0

theorem has_c (i b : Nat) (w : World) (hi : i < 256) (hb : b < 256) :
    Calls Try.prog 31 #[.int .u8 i, .int .u8 b] w fun E w' => E = .returned (.bool (hasb i b)) ∧ w = w' := by
  have h : bits .and .u8 (i : Int) (b : Int) = ((i &&& b : Nat) : Int) := u8_and_nat i b hi hb
  have hx : (((i &&& b : Nat) : Int) != 0) = hasb i b := by
    unfold hasb
    by_cases e : i &&& b = 0
    · rw [e]; rfl
    · have : ((i &&& b : Nat) : Int) ≠ 0 := by omega
      simp [e]
  have HX := Lib.hid hx
  clear hx
  go_enter Try.func31, Try.ntmps31
  go_wp2
  go_ret
  exact ⟨congrArg (fun x => Ending.returned (Value.bool x)) HX.out, rfl⟩
theorem legal_c (i : Nat) (w : World) : Calls Try.prog 12 #[.int .u8 i] w fun E w' => E = .returned (.bool (decide (i < 64))) ∧ w = w' := by
  go_enter Try.func12, Try.ntmps12
  go_wp2
  go_ret
  exact ⟨congrArg (fun x => Ending.returned (Value.bool x)) (by simp only [decide_eq_decide]; omega : decide ((i : Int) < 64) = decide (i < 64)), rfl⟩
theorem refLegal (i : Nat) (w : World) : Calls Try.prog 13 #[.int .u8 i] w fun E w' => E = .returned (.bool (decide (i < 64))) ∧ w = w' := by
  go_enter Try.func13, Try.ntmps13
  go_wp2
  go_ret
  exact ⟨congrArg (fun x => Ending.returned (Value.bool x)) (by simp only [decide_eq_decide]; omega : decide ((i : Int) < 64) = decide (i < 64)), rfl⟩
theorem along_c (i a b : Nat) (w : World) (hi : i < 256) (ha : a < 256) (hb : b < 256) :
    Calls Try.prog 28 #[.int .u8 i, .int .u8 a, .int .u8 b] w fun E w' => E = .returned (.int .i32 (along i a b)) ∧ w = w' := by
  have HX := Lib.hid (show along i a b = (if hasb i b then 1 else 0) - (if hasb i a then 1 else 0) from rfl)
  have h1 := has_c i a w hi ha
  have h2 := has_c i b w hi hb
  generalize along i a b = r at *
  cases ha : hasb i a <;> cases hb : hasb i b <;> (
    rw [ha] at h1
    rw [hb] at h2
    have hz := HX.out
    rw [ha, hb] at hz
    have HZ := Lib.hid hz
    clear hz
    clear HX ha hb
    go_enter Try.func28, Try.ntmps28
    go_wp2_with fail
    refine h1.mono ?_
    rintro E w1 ⟨rfl, rfl⟩
    go_wp2_with fail
    refine h2.mono ?_
    rintro E w1 ⟨rfl, rfl⟩
    go_wp2
    go_ret
    exact ⟨by rw [HZ.out]; rfl, rfl⟩)
theorem dir_c (i : Nat) (w : World) (hi : i < 256) :
    Calls Try.prog 10 #[.int .u8 i] w fun E w' => E = .returned (.tuple #[.int .i32 (along i 1 2), .int .i32 (along i 4 8)]) ∧ w = w' := by
  have h1 := along_c i 1 2 w hi (by omega) (by omega)
  have h2 := along_c i 4 8 w hi (by omega) (by omega)
  generalize along i 1 2 = x at *
  generalize along i 4 8 = y at *
  go_enter Try.func10, Try.ntmps10
  go_wp2_with fail
  refine (h1).mono ?_
  rintro E w1 ⟨rfl, rfl⟩
  go_wp2_with fail
  refine (h2).mono ?_
  rintro E w1 ⟨rfl, rfl⟩
  go_wp2
  go_ret2
  exact ⟨rfl, rfl⟩
theorem fire_c (i : Nat) (w : World) (hi : i < 256) :
    Calls Try.prog 14 #[.int .u8 i] w fun E w' => E = .returned (.bool (hasb i 16)) ∧ w = w' := by
  have h1 := has_c i 16 w hi (by omega)
  go_enter Try.func14, Try.ntmps14
  go_wp2_with fail
  refine (h1).mono ?_
  rintro E w1 ⟨rfl, rfl⟩
  go_wp2
  go_ret
  exact ⟨rfl, rfl⟩
theorem dash_c (i : Nat) (w : World) (hi : i < 256) :
    Calls Try.prog 16 #[.int .u8 i] w fun E w' => E = .returned (.bool (hasb i 32)) ∧ w = w' := by
  have h1 := has_c i 32 w hi (by omega)
  go_enter Try.func16, Try.ntmps16
  go_wp2_with fail
  refine (h1).mono ?_
  rintro E w1 ⟨rfl, rfl⟩
  go_wp2
  go_ret
  exact ⟨rfl, rfl⟩
theorem refBit (i n : Nat) (w : World) (hi : i < 256) (hn : n < 6) :
    Calls Try.prog 30 #[.int .u8 i, .int .i64 n] w fun E w' => E = .returned (.bool (bitb i n)) ∧ w = w' := by
  have hx : ((((i : Int) / 2 ^ n).tmod 2 == 1) = bitb i n) := by
    have e : ((i : Int) / 2 ^ n) = ((i / 2 ^ n : Nat) : Int) := by push_cast; rfl
    rw [e]
    show (((i / 2 ^ n % 2 : Nat) : Int) == 1) = decide (i / 2 ^ n % 2 = 1)
    generalize i / 2 ^ n % 2 = q
    by_cases h : q = 1
    · subst h; rfl
    · have : (q : Int) ≠ 1 := by omega
      simp [h, this]
  have HX := Lib.hid hx
  clear hx
  generalize bitb i n = r at *
  go_enter Try.func30, Try.ntmps30
  go_wp2
  go_ret
  exact ⟨congrArg (fun x => Ending.returned (Value.bool x)) HX.out, rfl⟩
theorem refAgainst (a b : Bool) (w : World) :
    Calls Try.prog 29 #[.bool a, .bool b] w fun E w' => E = .returned (.int .i32 (against a b)) ∧ w = w' := by
  cases a <;> cases b <;> (
    go_enter Try.func29, Try.ntmps29
    go_wp2
    go_ret
    exact ⟨rfl, rfl⟩)
theorem refDir (i : Nat) (w : World) (hi : i < 256) :
    Calls Try.prog 11 #[.int .u8 i] w fun E w' => E = .returned (.tuple #[.int .i32 (against (bitb i 0) (bitb i 1)), .int .i32 (against (bitb i 2) (bitb i 3))]) ∧ w = w' := by
  have h1 := refBit i 0 w hi (by omega)
  have h2 := refBit i 1 w hi (by omega)
  have h3 := refBit i 2 w hi (by omega)
  have h4 := refBit i 3 w hi (by omega)
  generalize bitb i 0 = b0 at *
  generalize bitb i 1 = b1 at *
  generalize bitb i 2 = b2 at *
  generalize bitb i 3 = b3 at *
  have h5 := refAgainst b0 b1 w
  have h6 := refAgainst b2 b3 w
  generalize against b0 b1 = x at *
  generalize against b2 b3 = y at *
  go_enter Try.func11, Try.ntmps11
  go_wp2_with fail
  refine (h1).mono ?_
  rintro E w1 ⟨rfl, rfl⟩
  go_wp2_with fail
  refine (h2).mono ?_
  rintro E w1 ⟨rfl, rfl⟩
  go_wp2_with fail
  refine (h5).mono ?_
  rintro E w1 ⟨rfl, rfl⟩
  go_wp2_with fail
  refine (h3).mono ?_
  rintro E w1 ⟨rfl, rfl⟩
  go_wp2_with fail
  refine (h4).mono ?_
  rintro E w1 ⟨rfl, rfl⟩
  go_wp2_with fail
  refine (h6).mono ?_
  rintro E w1 ⟨rfl, rfl⟩
  go_wp2
  go_ret2
  exact ⟨rfl, rfl⟩
theorem refFire (i : Nat) (w : World) (hi : i < 256) :
    Calls Try.prog 15 #[.int .u8 i] w fun E w' => E = .returned (.bool (bitb i 4)) ∧ w = w' := by
  have h1 := refBit i 4 w hi (by omega)
  go_enter Try.func15, Try.ntmps15
  go_wp2_with fail
  refine (h1).mono ?_
  rintro E w1 ⟨rfl, rfl⟩
  go_wp2
  go_ret
  exact ⟨rfl, rfl⟩
theorem refDash (i : Nat) (w : World) (hi : i < 256) :
    Calls Try.prog 17 #[.int .u8 i] w fun E w' => E = .returned (.bool (bitb i 5)) ∧ w = w' := by
  have h1 := refBit i 5 w hi (by omega)
  go_enter Try.func17, Try.ntmps17
  go_wp2_with fail
  refine (h1).mono ?_
  rintro E w1 ⟨rfl, rfl⟩
  go_wp2
  go_ret
  exact ⟨rfl, rfl⟩

/-- Both say the same. -/
theorem bits_same : ∀ i : Fin 256, along i.val 1 2 = against (bitb i.val 0) (bitb i.val 1) ∧ along i.val 4 8 = against (bitb i.val 2) (bitb i.val 3) ∧ hasb i.val 16 = bitb i.val 4 ∧ hasb i.val 32 = bitb i.val 5 := by decide +kernel
/-- With left and right changed about, and up and down. -/
def swap (i : Nat) : Nat := (i &&& 1) * 2 ||| (i / 2 &&& 1) ||| (i &&& 4) * 2 ||| (i / 2 &&& 4) ||| (i &&& 240)
theorem swap_says : ∀ i : Fin 256, swap i.val < 256 ∧ along (swap i.val) 1 2 = - along i.val 1 2 ∧ along (swap i.val) 4 8 = - along i.val 4 8 ∧ along (i.val &&& 15) 1 2 = along i.val 1 2 ∧ along (i.val &&& 15) 4 8 = along i.val 4 8 := by decide +kernel
theorem along_within (i a b : Nat) : -1 ≤ along i a b ∧ along i a b ≤ 1 := by unfold along; split <;> split <;> omega
end Go.Proofs.Ytkhecaohbmlnlaa
