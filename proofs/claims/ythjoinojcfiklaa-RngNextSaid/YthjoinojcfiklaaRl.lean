/- The Go functions RngNext, RngSkips, RngBelow, RngApart, RngWithin, RngKnown, RngGoes, called with numbers of their kinds, return true, and what lay in memory stays. Conditions: the numbers lie in their kinds' ranges. -/
import Derived.Test.YthjoinojcfiklaaRt
import Derived.Deep.RegionHeld3
namespace Go.Proofs.Ythjoinojcfiklaa
open Go.RowKit
set_option linter.unusedVariables false
set_option maxRecDepth 20000

theorem lawNext (s : Nat) (w : World) (h : s < 18446744073709551616) :
    Calls Try.prog 3 #[.int .u64 (s : Int)] w fun e w' => e = .returned (.bool true) ∧ Below w.heap.size w w' := by
  go_enter Try.func3, Try.ntmps3
  go_wp2_with fail
  refine (next s _ h).mono ?_
  rintro E w1 ⟨rfl, hb⟩
  have HB := Lib.hid hb
  clear hb
  go_wp2_with fail
  refine (refNext s _ h).mono ?_
  rintro E w2 ⟨rfl, rfl⟩
  go_wp2_with fail
  refine (mix s _ h).mono ?_
  rintro E w2 ⟨rfl, rfl⟩
  go_wp2_with fail
  refine (refMix s _ h).mono ?_
  rintro E w2 ⟨rfl, rfl⟩
  go_wp2_with fail
  refine (awake _).mono ?_
  rintro E w2 ⟨rfl, hb2⟩
  have HB2 := Lib.hid ((HB.out.alloc HB.out.size _).trans (hb2.mono (by have := HB.out.size; simp; omega)))
  clear hb2
  go_wp2
  go_ret
  exact ⟨rfl, HB2.out⟩
theorem field_c (s : Int) (w : World) : (Instr.field 24 (.agg #[.int .u64 s]) 0).run Try.prog w = .ok (.int .u64 s) w := by
  simp [Instr.field, run_underlying Try.underlying24, go_sem]
  rfl
theorem skp_two (t n : Nat) : skp t (n + 1) = skp (skp t n) 1 := (skp_skp t n 1).symm
theorem lawSkips (s n : Nat) (w : World) (h : s < 18446744073709551616) (hn : n < 18446744073709551616) :
    Calls Try.prog 4 #[.int .u64 (s : Int), .int .u64 (n : Int)] w fun e w' => e = .returned (.bool true) ∧ Below w.heap.size w w' := by
  have HS := Lib.hid (skp_says s n)
  have hf := field_c
  have HT := Lib.hid (skp_two s n)
  go_enter Try.func4, Try.ntmps4
  go_wp2_with fail
  refine (stride _).mono ?_
  rintro E w1 ⟨rfl, rfl⟩
  have hs := HS.out
  go_wp2_with fail
  clear hs
  refine (refNext (skp s n) _ (skp_lt _ _)).mono ?_
  rintro E w1 ⟨rfl, rfl⟩
  go_wp2_with fail
  refine (skip s n _).mono ?_
  rintro E w1 ⟨rfl, hb⟩
  have HB := Lib.hid hb
  clear hb
  go_wp2_with fail
  refine (at_c s n _).mono ?_
  rintro E w2 ⟨rfl, hb2⟩
  rw [HT.out]
  have HB2 := Lib.hid (HB.out.trans (hb2.mono HB.out.size))
  clear hb2
  go_wp2_with fail
  refine (awake _).mono ?_
  rintro E w3 ⟨rfl, hb3⟩
  have HB3 := Lib.hid (HB2.out.trans (hb3.mono HB2.out.size))
  clear hb3
  go_wp2
  go_ret
  exact ⟨rfl, HB3.out⟩
theorem i64_of {n : Int} (h : (Lit.int .i64 n).wf = true) : -9223372036854775808 ≤ n ∧ n ≤ 9223372036854775807 := by
  simpa [Lit.wf, IntKind.min, IntKind.max, IntKind.bits, IntKind.signed] using h
theorem lawBelow (s : Nat) (n : Int) (w : World) (h : s < 18446744073709551616) (h2 : n ≤ 9223372036854775807) :
    Calls Try.prog 5 #[.int .u64 (s : Int), .int .i64 n] w fun e w' => e = .returned (.bool true) ∧ Below w.heap.size w w' := by
  by_cases h1 : n < 1
  · go_enter Try.func5, Try.ntmps5
    go_wp2_with fail
    refine (below_one s n _ h1).mono ?_
    rintro E w1 ⟨rfl, hb⟩
    have HB := Lib.hid hb
    clear hb
    go_wp2_with fail
    refine (refBelow_one s n _ h1).mono ?_
    rintro E w2 ⟨rfl, rfl⟩
    go_wp2_with fail
    refine (awake _).mono ?_
    rintro E w2 ⟨rfl, hb2⟩
    have HB2 := Lib.hid ((HB.out.alloc HB.out.size _).trans (hb2.mono (by have := HB.out.size; simp; omega)))
    clear hb2
    go_wp2
    go_ret
    exact ⟨rfl, HB2.out⟩
  · obtain ⟨m, rfl⟩ : ∃ m : Nat, n = m := ⟨n.toNat, by omega⟩
    have HBL := Lib.hid (below_many s m w (by omega) (by omega) h)
    have HRB := Lib.hid (fun w => refBelow_many s m w (by omega) (by omega) h)
    go_enter Try.func5, Try.ntmps5
    go_wp2_with fail
    refine HBL.out.mono ?_
    rintro E w1 ⟨rfl, hb⟩
    have HB := Lib.hid hb
    clear hb
    go_wp2_with fail
    refine (HRB.out _).mono ?_
    rintro E w2 ⟨rfl, rfl⟩
    go_wp2_with fail
    refine (awake _).mono ?_
    rintro E w2 ⟨rfl, hb2⟩
    have HB2 := Lib.hid ((HB.out.alloc HB.out.size _).trans (hb2.mono (by have := HB.out.size; simp; omega)))
    clear hb2
    go_wp2
    go_ret
    exact ⟨rfl, HB2.out⟩
theorem mx_iff {a b : Nat} (ha : a < 18446744073709551616) (hb : b < 18446744073709551616) : mx a = mx b ↔ a = b := ⟨mx_inj ha hb, fun h => by rw [h]⟩
theorem lawApart (a b : Nat) (w : World) (ha : a < 18446744073709551616) (hb : b < 18446744073709551616) :
    Calls Try.prog 8 #[.int .u64 (a : Int), .int .u64 (b : Int)] w fun e w' => e = .returned (.bool true) ∧ Below w.heap.size w w' := by
  have H := mx_iff ha hb
  have M1 := Lib.hid (fun w => mix a w ha)
  have M2 := Lib.hid (fun w => mix b w hb)
  generalize mx a = x at *
  generalize mx b = y at *
  clear ha hb
  by_cases h : a = b
  · have hx := H.2 h
    clear H
    subst h
    subst hx
    go_enter Try.func8, Try.ntmps8
    go_wp2_with fail
    refine (M1.out _).mono ?_
    rintro E w1 ⟨rfl, rfl⟩
    go_wp2_with fail
    refine (M2.out _).mono ?_
    rintro E w1 ⟨rfl, rfl⟩
    go_wp2_with fail
    refine (awake _).mono ?_
    rintro E w2 ⟨rfl, hb2⟩
    have HB2 := Lib.hid hb2
    clear hb2
    go_wp2
    go_ret
    exact ⟨rfl, HB2.out⟩
  · have hx : ¬ x = y := fun e => h (H.1 e)
    clear H
    have e1 : ((x : Int) == (y : Int)) = false := beq_eq_false_iff_ne.2 (by omega)
    have e2 : ((a : Int) == (b : Int)) = false := beq_eq_false_iff_ne.2 (by omega)
    clear h hx
    go_enter Try.func8, Try.ntmps8
    go_wp2_with fail
    refine (M1.out _).mono ?_
    rintro E w1 ⟨rfl, rfl⟩
    go_wp2_with fail
    refine (M2.out _).mono ?_
    rintro E w1 ⟨rfl, rfl⟩
    go_wp2_with fail
    refine (awake _).mono ?_
    rintro E w2 ⟨rfl, hb2⟩
    have HB2 := Lib.hid hb2
    clear hb2
    go_wp2
    go_ret
    exact ⟨rfl, HB2.out⟩
end Go.Proofs.Ythjoinojcfiklaa
