/- The functions of package rng, and the document's answers, as the walk of the program's text gives them: one contract each. Nothing is assumed beyond each contract's own bounds. -/
import Derived.Test.YthjoinojcfiklaaRows
import Derived.WalkKit
import Derived.ProofKit
import Derived.OpenShut
import Derived.Handy
import Derived.Below
import Derived.Lib.Hide
import Derived.StillTailTactics
import Derived.Test.YthjoinojcfiklaaMem
import Derived.Test.YthjoinojcfiklaaRx
namespace Go.Proofs.Ythjoinojcfiklaa
open Go.RowKit
set_option linter.unusedVariables false
set_option maxRecDepth 20000

theorem ret_int {k : IntKind} {a b : Int} (h : a = b) : Ending.returned (.int k a) = .returned (.int k b) := by rw [h]
theorem ret_src {a b : Int} (h : a = b) : Ending.returned (.agg #[.int .u64 a]) = .returned (.agg #[.int .u64 b]) := by rw [h]
theorem xor_30 (n : Nat) (h : n < 18446744073709551616) : bits .xor .u64 (n : Int) ((n : Int) / 1073741824) = ((sh 1073741824 n : Nat) : Int) :=
  u64_xor_nat n (n / 1073741824) h (by omega)
theorem xor_27 (n : Nat) (h : n < 18446744073709551616) : bits .xor .u64 (n : Int) ((n : Int) / 134217728) = ((sh 134217728 n : Nat) : Int) :=
  u64_xor_nat n (n / 134217728) h (by omega)
theorem xor_31 (n : Nat) (h : n < 18446744073709551616) : bits .xor .u64 (n : Int) ((n : Int) / 2147483648) = ((sh 2147483648 n : Nat) : Int) :=
  u64_xor_nat n (n / 2147483648) h (by omega)
theorem wrap_u64 (n : Nat) : IntKind.u64.wrap (n : Int) = ((n % 18446744073709551616 : Nat) : Int) := by
  simp [IntKind.wrap, IntKind.signed, IntKind.bits]
theorem mul_one30 (a : Nat) : IntKind.u64.wrap ((a : Int) * 13787848793156543929) = ((a * 13787848793156543929 % 18446744073709551616 : Nat) : Int) := wrap_u64 (a * 13787848793156543929)
theorem mul_two27 (a : Nat) : IntKind.u64.wrap ((a : Int) * 10723151780598845931) = ((a * 10723151780598845931 % 18446744073709551616 : Nat) : Int) := wrap_u64 (a * 10723151780598845931)
theorem mix_says (n : Nat) (h : n < 18446744073709551616) :
    bits .xor .u64 (IntKind.u64.wrap (bits .xor .u64 (IntKind.u64.wrap (bits .xor .u64 (n : Int) ((n : Int) / 1073741824) * 13787848793156543929)) (IntKind.u64.wrap (bits .xor .u64 (n : Int) ((n : Int) / 1073741824) * 13787848793156543929) / 134217728) * 10723151780598845931)) (IntKind.u64.wrap (bits .xor .u64 (IntKind.u64.wrap (bits .xor .u64 (n : Int) ((n : Int) / 1073741824) * 13787848793156543929)) (IntKind.u64.wrap (bits .xor .u64 (n : Int) ((n : Int) / 1073741824) * 13787848793156543929) / 134217728) * 10723151780598845931) / 2147483648) = ((mx n : Nat) : Int) := by
  rw [xor_30 n h, mul_one30, xor_27 _ (Nat.mod_lt _ (by decide)), mul_two27, xor_31 _ (Nat.mod_lt _ (by decide))]
  rfl

theorem mix (n : Nat) (w : World) (h : n < 18446744073709551616) :
    Calls Try.prog 12 #[.int .u64 n] w fun e w' => e = .returned (.int .u64 ((mx n : Nat) : Int)) ∧ w = w' := by
  have HM := Lib.hid (mix_says n h)
  go_enter Try.func12, Try.ntmps12
  go_wp2
  go_ret
  exact ⟨ret_int HM.out, rfl⟩
theorem refMix (n : Nat) (w : World) (h : n < 18446744073709551616) :
    Calls Try.prog 13 #[.int .u64 n] w fun e w' => e = .returned (.int .u64 ((mx n : Nat) : Int)) ∧ w = w' := by
  have HM := Lib.hid (mix_says n h)
  go_enter Try.func13, Try.ntmps13
  go_wp2
  go_ret
  exact ⟨ret_int HM.out, rfl⟩
theorem stride (w : World) :
    Calls Try.prog 15 #[] w fun e w' => e = .returned (.int .u64 11400714819323198485) ∧ w = w' := by
  go_enter Try.func15, Try.ntmps15
  go_wp2
  go_ret
  exact ⟨rfl, rfl⟩
theorem skp_says (s n : Nat) : IntKind.u64.wrap ((s : Int) + IntKind.u64.wrap ((n : Int) * 11400714819323198485)) = ((skp s n : Nat) : Int) := by
  have h1 : IntKind.u64.wrap ((n : Int) * 11400714819323198485) = ((n * 11400714819323198485 % 18446744073709551616 : Nat) : Int) := wrap_u64 (n * 11400714819323198485)
  rw [h1]
  have h2 := wrap_u64 (s + n * 11400714819323198485 % 18446744073709551616)
  unfold skp
  rw [Nat.add_mod_mod] at h2
  exact h2
section
variable {w w' : World} {g : Nat} {t : TypeId} {v : Value}
theorem cell1 (h : Cells w g t #[v]) : w.cell? ⟨g, 0, none⟩ = some v := h.cell 0
end
theorem skip (s n : Nat) (w : World) :
    Calls Try.prog 16 #[.agg #[.int .u64 (s : Int)], .int .u64 n] w fun e w' => e = .returned (.agg #[.int .u64 ((skp s n : Nat) : Int)]) ∧ Below w.heap.size w w' := by
  have HM := Lib.hid (skp_says s n)
  go_enter Try.func16, Try.ntmps16
  go_wp2
  go_returns
  exact ⟨ret_src HM.out, by go_grown⟩
theorem next (s : Nat) (w : World) (h : s < 18446744073709551616) :
    Calls Try.prog 10 #[.agg #[.int .u64 (s : Int)]] w fun e w' => e = .returned (.tuple #[.int .u64 ((mx (skp s 1) : Nat) : Int), (.agg #[.int .u64 ((skp s 1 : Nat) : Int)])]) ∧ Below w.heap.size w w' := by
  go_enter Try.func10, Try.ntmps10
  have HB0 := Lib.hid (show Below w.heap.size w ((w.alloc (.cells #[.int .u64 s] 24)).alloc (.cells #[.int .u64 0] 24)) by go_grown)
  have C0 := Lib.hid ((Cells.made w 24 #[.int .u64 s]).alloc (.cells #[.int .u64 0] 24))
  have C1 := Lib.hid (Cells.made (w.alloc (.cells #[.int .u64 s] 24)) 24 #[.int .u64 0])
  go_wp2_with fail
  refine (skip s 1 _).mono ?_
  rintro E w1 ⟨rfl, hb⟩
  have c0 : Cells w1 w.heap.size 24 #[.int .u64 s] := C0.out.below hb (by simp; omega)
  have c1 : Cells w1 (w.heap.size + 1) 24 #[.int .u64 0] := (by simpa using C1.out : Cells _ (w.heap.size + 1) _ _).below hb (by simp)
  have HB1 := Lib.hid (HB0.out.trans (hb.mono (by simp; omega)))
  have z0 := c0.frozen 0
  have k0 := cell1 c0
  have C0' := Lib.hid (c0.set 0 (.int .u64 ((skp s 1 : Nat) : Int)))
  have C1' := Lib.hid (c1.far (p := ⟨w.heap.size, 0, none⟩) (by simp) (.int .u64 ((skp s 1 : Nat) : Int)))
  have HB2 := Lib.hid (HB1.out.setCell (p := ⟨w.heap.size, 0, none⟩) (Nat.le_refl _) (.int .u64 ((skp s 1 : Nat) : Int)))
  clear hb c0 c1
  go_wp2
  clear z0 k0
  generalize w1.setCell ⟨w.heap.size, 0, none⟩ (.int .u64 ((skp s 1 : Nat) : Int)) = w2 at *
  obtain ⟨w3, hw3⟩ : ∃ w3 : World, { w2 with drawn := w2.drawn + 1 } = w3 := ⟨_, rfl⟩
  have k2 : w3.cell? ⟨w.heap.size, 0, none⟩ = some (.int .u64 ((skp s 1 : Nat) : Int)) := hw3 ▸ cell1 C0'.out
  refine wp_region_still_tail 5 (by kernel_rfl) (by kernel_rfl) ?_
  simp only [List.take_succ_cons, List.take_zero, List.drop_succ_cons, List.drop_zero]
  rw [hw3]
  still_step
  still_step
  still_call ((mix (skp s 1) _ (skp_lt _ _)).mono fun _ _ ⟨h1, h2⟩ => ⟨h1, h2.symm⟩)
  still_step
  still_step
  refine wpStill_nil ?_
  have C1w : Cells w3 (w.heap.size + 1) 24 #[.int .u64 0] := by rw [← hw3]; exact C1'.out
  have HB3 := Lib.hid (show Below w.heap.size w w3 by rw [← hw3]; exact HB2.out.drew)
  clear hw3
  have k3 := cell1 C1w
  have z3 := C1w.frozen 0
  have k4 := cell1 (v := .int .u64 ((skp s 1 : Nat) : Int)) (C1w.set 0 _)
  clear C1w
  go_wp2
  refine bodyPost_ret (v := .tuple #[.int .u64 ((mx (skp s 1) : Nat) : Int), .agg #[.int .u64 ((skp s 1 : Nat) : Int)]]) (by simp [results, Try.results10, go_sem, k4]) rfl ?_
  exact ⟨rfl, HB3.out.setCell (Nat.le_succ _) _⟩
theorem refNext (s : Nat) (w : World) (h : s < 18446744073709551616) :
    Calls Try.prog 11 #[.int .u64 s] w fun e w' => e = .returned (.tuple #[.int .u64 ((mx (skp s 1) : Nat) : Int), .int .u64 ((skp s 1 : Nat) : Int)]) ∧ w = w' := by
  have HS := Lib.hid (show IntKind.u64.wrap ((s : Int) + 11400714819323198485) = ((skp s 1 : Nat) : Int) from by
    have := wrap_u64 (s + 1 * 11400714819323198485)
    simpa [skp] using this)
  go_enter Try.func11, Try.ntmps11
  go_wp2_with fail
  refine (stride _).mono ?_
  rintro E w1 ⟨rfl, rfl⟩
  have hs := HS.out
  go_wp2_with fail
  clear hs
  refine (refMix (skp s 1) _ (skp_lt _ _)).mono ?_
  rintro E w1 ⟨rfl, rfl⟩
  go_wp2
  go_ret2
  exact ⟨rfl, rfl⟩
end Go.Proofs.Ythjoinojcfiklaa
