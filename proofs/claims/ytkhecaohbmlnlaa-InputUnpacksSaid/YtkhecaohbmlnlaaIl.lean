/- Layer 6's statements on bits: InputBits, InputTurned. -/
import Derived.Test.YtkhecaohbmlnlaaIk
namespace Go.Proofs.Ytkhecaohbmlnlaa
open Go.RowKit
set_option linter.unusedVariables false

set_option maxHeartbeats 2000000 in
theorem lawBits (i : Nat) (w : World) (hi : i < 256) : Calls Try.prog 3 #[.int .u8 i] w (Yes w) := by
  obtain ⟨e1, e2, e3, e4⟩ := bits_same ⟨i, hi⟩
  simp only at e1 e2 e3 e4
  have c1 := dir_c i w hi
  rw [e1, e2] at c1
  have c2 := refDir i w hi
  have c3 := fire_c i w hi
  rw [e3] at c3
  have c4 := refFire i w hi
  have c5 := dash_c i w hi
  rw [e4] at c5
  have c6 := refDash i w hi
  have c7 := legal_c i w
  have c8 := refLegal i w
  clear e1 e2 e3 e4
  generalize against (bitb i 0) (bitb i 1) = x at *
  generalize against (bitb i 2) (bitb i 3) = y at *
  generalize bitb i 4 = f at *
  generalize bitb i 5 = d at *
  generalize decide (i < 64) = g at *
  have HC := Lib.hid (And.intro c1 (And.intro c2 (And.intro c3 (And.intro c4 (And.intro c5 (And.intro c6 (And.intro c7 c8)))))))
  clear c1 c2 c3 c4 c5 c6 c7 c8
  go_enter Try.func3, Try.ntmps3
  go_wp2_with fail
  refine (HC.out.1).mono ?_
  rintro E w1 ⟨rfl, rfl⟩
  go_wp2_with fail
  refine (HC.out.2.1).mono ?_
  rintro E w1 ⟨rfl, rfl⟩
  go_wp2_with fail
  refine (HC.out.2.2.2.2.2.2.1).mono ?_
  rintro E w1 ⟨rfl, rfl⟩
  go_wp2_with fail
  refine (HC.out.2.2.2.2.2.2.2).mono ?_
  rintro E w1 ⟨rfl, rfl⟩
  go_wp2_with fail
  refine (HC.out.2.2.1).mono ?_
  rintro E w1 ⟨rfl, rfl⟩
  go_wp2_with fail
  refine (HC.out.2.2.2.1).mono ?_
  rintro E w1 ⟨rfl, rfl⟩
  go_wp2_with fail
  refine (HC.out.2.2.2.2.1).mono ?_
  rintro E w1 ⟨rfl, rfl⟩
  go_wp2_with fail
  refine (HC.out.2.2.2.2.2.1).mono ?_
  rintro E w1 ⟨rfl, rfl⟩
  go_wp2_with fail
  refine (works_c _).mono ?_
  rintro E w1 ⟨rfl, hb⟩
  go_wp2
  go_ret
  exact ⟨rfl, hb⟩
abbrev swapI (i : Int) : Int :=
  bits .or .u8 (bits .or .u8 (bits .or .u8 (bits .or .u8 (bits .and .u8 i 1 * 2 % 256) (bits .and .u8 (i / 2) 1)) (bits .and .u8 i 4 * 2 % 256)) (bits .and .u8 (i / 2) 4)) (bits .and .u8 i 240)
theorem swapI_eq : ∀ i : Fin 256, swapI (i.val : Int) = ((swap i.val : Nat) : Int) ∧ ((i.val : Int) % 16) = ((i.val &&& 15 : Nat) : Int) := by decide +kernel
set_option maxHeartbeats 2000000 in
theorem lawTurned (i : Nat) (w : World) (hi : i < 256) : Calls Try.prog 8 #[.int .u8 i] w (Yes w) := by
  obtain ⟨s1, s2⟩ := swapI_eq ⟨i, hi⟩
  obtain ⟨t0, t1, t2, t3, t4⟩ := swap_says ⟨i, hi⟩
  simp only at s1 s2 t0 t1 t2 t3 t4
  have c1 := dir_c i w hi
  have c2 := dir_c (swap i) w t0
  rw [t1, t2] at c2
  have c3 := dir_c (i &&& 15) w (Nat.lt_of_le_of_lt Nat.and_le_left hi)
  rw [t3, t4] at c3
  have b1 := along_within i 1 2
  have b2 := along_within i 4 8
  clear t0 t1 t2 t3 t4
  generalize along i 1 2 = x at *
  generalize along i 4 8 = y at *
  generalize swap i = sw at *
  generalize i &&& 15 = lo at *
  have HS := Lib.hid (And.intro s1 s2)
  have HC := Lib.hid (And.intro c1 (And.intro c2 c3))
  obtain ⟨b1a, b1b⟩ := b1
  obtain ⟨b2a, b2b⟩ := b2
  clear s1 s2 c1 c2 c3
  go_enter Try.func8, Try.ntmps8
  go_wp2_with fail
  refine (HC.out.1).mono ?_
  rintro E w1 ⟨rfl, rfl⟩
  go_wp2_with fail
  rw [show bits .or .u8 (bits .or .u8 (bits .or .u8 (bits .or .u8 (bits .and .u8 (i : Int) 1 * 2 % 256) (bits .and .u8 ((i : Int) / 2) 1)) (bits .and .u8 (i : Int) 4 * 2 % 256)) (bits .and .u8 ((i : Int) / 2) 4)) (bits .and .u8 (i : Int) 240) = (sw : Int) from HS.out.1]
  refine (HC.out.2.1).mono ?_
  rintro E w1 ⟨rfl, rfl⟩
  go_wp2_with fail
  rw [HS.out.2]
  refine (HC.out.2.2).mono ?_
  rintro E w1 ⟨rfl, rfl⟩
  have hn1 : IntKind.i32.wrap (-x) = -x := IntWalk.i32_in _ (by omega)
  have hn2 : IntKind.i32.wrap (-y) = -y := IntWalk.i32_in _ (by omega)
  go_wp2_with fail
  refine (works_c _).mono ?_
  rintro E w1 ⟨rfl, hb⟩
  go_wp2
  go_ret
  exact ⟨rfl, hb⟩
end Go.Proofs.Ytkhecaohbmlnlaa
