/- The Go functions' walks, over texts and numbers as a row reads them. Conditions: the numbers lie in their kinds' ranges, the texts are as long as a text may be. -/
import Derived.Test.YtggeakngmlhjpaaNf
namespace Go.Proofs.Ytggeakngmlhjpaa
open Go.RowKit
set_option linter.unusedVariables false

theorem u64_nat {n : Int} (h : (Lit.int .u64 n).wf = true) : ∃ s : Nat, n = (s : Int) ∧ s < 18446744073709551616 := by
  have : 0 ≤ n ∧ n ≤ 18446744073709551615 := by simpa [Lit.wf, IntKind.min, IntKind.max, IntKind.bits, IntKind.signed] using h
  exact ⟨n.toNat, by omega, by omega⟩
theorem str_le {s : ByteArray} (h : s.size ≤ maxLen) : s.data.toList.length ≤ 9223372036854775807 := by
  have h2 : s.size ≤ 9223372036854775807 := Nat.le_trans h (by decide)
  simpa using h2
theorem rowTell (a b : Int) (s : ByteArray) (W : World) (ha : (Lit.int .u64 a).wf = true) (hb : (Lit.int .u64 b).wf = true) (hs : s.size ≤ maxLen) :
    Calls Try.prog 3 #[.int .u64 a, .int .u64 b, .string s] W fun e w' => e = .returned (.bool true) ∧ Below W.heap.size W w' := by
  obtain ⟨n, rfl, hn⟩ := u64_nat ha
  obtain ⟨f, rfl, hf⟩ := u64_nat hb
  have := law_tell n f s.data.toList W hn hf (str_le hs)
  rwa [← str_of] at this
theorem rowParse (s : ByteArray) (W : World) (hs : s.size ≤ maxLen) :
    Calls Try.prog 4 #[.string s] W fun e w' => e = .returned (.bool true) ∧ Below W.heap.size W w' := by
  have := law_parse s.data.toList W (str_le hs)
  rwa [← str_of] at this
end Go.Proofs.Ytggeakngmlhjpaa
