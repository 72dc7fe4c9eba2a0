/- The arguments of layer 3's statements as they come in: numbers within their kind, strings out of bytes. -/
import Derived.Test.YtkemjpiioigilaaDoorBurst
namespace Go.Proofs.YtkemjpiioigilaaDoor
open Go.RowKit
set_option linter.unusedVariables false

theorem u32_nat {n : Int} (h : (Lit.int .u32 n).wf = true) : ∃ k : Nat, n = k ∧ k < 4294967296 := by
  have h2 : (decide (0 ≤ n) && decide (n ≤ 4294967295)) = true := h
  simp only [Bool.and_eq_true, decide_eq_true_eq] at h2
  exact ⟨n.toNat, by omega, by omega⟩
theorem str_le {s : ByteArray} (h : s.size ≤ maxLen) : s.data.toList.length ≤ maxLen := by simpa using h
theorem law_sums (a0 : Int) (a1 : ByteArray) (W : World) (w0 : (Lit.int .u32 a0).wf = true) (w1 : a1.size ≤ maxLen) (ht : Tab W) :
    Calls Tryd.prog 3 #[.int .u32 a0, .string a1] W (Yes W) := by
  obtain ⟨k, rfl, hk⟩ := u32_nat w0
  have := lawSums k a1.data.toList W hk (str_le w1) ht
  rwa [← str_of a1] at this
theorem law_joins (a0 a1 a2 : Int) (W : World) (w0 : (Lit.int .u32 a0).wf = true) (w1 : (Lit.int .u32 a1).wf = true) (ht : Tab W) :
    Calls Tryd.prog 4 #[.int .u32 a0, .int .u32 a1, .int .i64 a2] W (Yes W) := by
  obtain ⟨k, rfl, hk⟩ := u32_nat w0
  obtain ⟨j, rfl, hj⟩ := u32_nat w1
  exact lawJoins k j a2 W hk hj ht
theorem law_parts (a0 a1 : ByteArray) (W : World) (w0 : a0.size ≤ maxLen) (w1 : a1.size ≤ maxLen) (ht : Tab W) :
    Calls Tryd.prog 6 #[.string a0, .string a1] W (Yes W) := by
  have := lawParts a0.data.toList a1.data.toList W (str_le w0) (str_le w1) ht
  rwa [← str_of a0, ← str_of a1] at this
theorem law_tail (a0 : ByteArray) (W : World) (w0 : a0.size ≤ maxLen) (ht : Tab W) :
    Calls Tryd.prog 8 #[.string a0] W (Yes W) := by
  have := lawTail a0.data.toList W (str_le w0) ht
  rwa [← str_of a0] at this
theorem law_burst (a0 : ByteArray) (a1 a2 : Int) (W : World) (w0 : a0.size ≤ maxLen) (w1 : (Lit.int .u32 a1).wf = true) (w2 : (Lit.int .u32 a2).wf = true) (ht : Tab W) :
    Calls Tryd.prog 7 #[.string a0, .int .u32 a1, .int .u32 a2] W (Yes W) := by
  obtain ⟨k, rfl, hk⟩ := u32_nat w1
  obtain ⟨j, rfl, hj⟩ := u32_nat w2
  have := lawBurst a0.data.toList k j W (str_le w0) hk hj ht
  rwa [← str_of a0] at this
end Go.Proofs.YtkemjpiioigilaaDoor
