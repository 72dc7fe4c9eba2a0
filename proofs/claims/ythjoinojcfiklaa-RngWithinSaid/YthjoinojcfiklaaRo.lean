/- The seven Go functions' walks, over the numbers as a row reads them. Conditions: the numbers lie in their kinds' ranges. -/
import Derived.Test.YthjoinojcfiklaaRg
namespace Go.Proofs.Ythjoinojcfiklaa
open Go.RowKit
set_option linter.unusedVariables false

theorem u64_nat {n : Int} (h : (Lit.int .u64 n).wf = true) : ∃ s : Nat, n = (s : Int) ∧ s < 18446744073709551616 := by
  have : 0 ≤ n ∧ n ≤ 18446744073709551615 := by simpa [Lit.wf, IntKind.min, IntKind.max, IntKind.bits, IntKind.signed] using h
  exact ⟨n.toNat, by omega, by omega⟩
theorem u16_nat {n : Int} (h : (Lit.int .u16 n).wf = true) : ∃ s : Nat, n = (s : Int) ∧ s < 65536 := by
  have : 0 ≤ n ∧ n ≤ 65535 := by simpa [Lit.wf, IntKind.min, IntKind.max, IntKind.bits, IntKind.signed] using h
  exact ⟨n.toNat, by omega, by omega⟩
theorem rowNext (a : Int) (w : World) (h : (Lit.int .u64 a).wf = true) : Calls Try.prog 3 #[.int .u64 a] w fun e w' => e = .returned (.bool true) ∧ Below w.heap.size w w' := by
  obtain ⟨s, rfl, hs⟩ := u64_nat h
  exact lawNext s w hs
theorem rowSkips (a b : Int) (w : World) (h : (Lit.int .u64 a).wf = true) (k : (Lit.int .u64 b).wf = true) : Calls Try.prog 4 #[.int .u64 a, .int .u64 b] w fun e w' => e = .returned (.bool true) ∧ Below w.heap.size w w' := by
  obtain ⟨s, rfl, hs⟩ := u64_nat h
  obtain ⟨n, rfl, hn⟩ := u64_nat k
  exact lawSkips s n w hs hn
theorem rowBelow (a b : Int) (w : World) (h : (Lit.int .u64 a).wf = true) (k : (Lit.int .i64 b).wf = true) : Calls Try.prog 5 #[.int .u64 a, .int .i64 b] w fun e w' => e = .returned (.bool true) ∧ Below w.heap.size w w' := by
  obtain ⟨s, rfl, hs⟩ := u64_nat h
  exact lawBelow s b w hs (i64_of k).2
theorem rowApart (a b : Int) (w : World) (h : (Lit.int .u64 a).wf = true) (k : (Lit.int .u64 b).wf = true) : Calls Try.prog 8 #[.int .u64 a, .int .u64 b] w fun e w' => e = .returned (.bool true) ∧ Below w.heap.size w w' := by
  obtain ⟨s, rfl, hs⟩ := u64_nat h
  obtain ⟨n, rfl, hn⟩ := u64_nat k
  exact lawApart s n w hs hn
theorem rowWithin (a b : Int) (w : World) (h : (Lit.int .u64 a).wf = true) (k : (Lit.int .i64 b).wf = true) : Calls Try.prog 9 #[.int .u64 a, .int .i64 b] w fun e w' => e = .returned (.bool true) ∧ Below w.heap.size w w' := by
  obtain ⟨s, rfl, hs⟩ := u64_nat h
  exact lawWithin s b w hs (i64_of k).2
theorem rowGoes (a b c : Int) (w : World) (h : (Lit.int .u64 a).wf = true) (k : (Lit.int .u64 b).wf = true) (m : (Lit.int .u16 c).wf = true) : Calls Try.prog 7 #[.int .u64 a, .int .u64 b, .int .u16 c] w fun e w' => e = .returned (.bool true) ∧ Below w.heap.size w w' := by
  obtain ⟨s, rfl, hs⟩ := u64_nat h
  obtain ⟨t, rfl, ht⟩ := u64_nat k
  obtain ⟨n, rfl, hn⟩ := u16_nat m
  exact lawGoes s t n w hs ht hn
end Go.Proofs.Ythjoinojcfiklaa
