/- The rows' walks: DiskApart, DiskSure. -/
import Derived.Test.YtecchaogpcpooaaDs
import Derived.Test.YtecchaogpcpooaaDq
namespace Go.Proofs.Ytecchaogpcpooaa
open Go.RowKit
set_option linter.unusedVariables false
theorem rowApart (qi : Int) (lo : Option Addr) (len cap : Nat) (l : List Act2) (s : ByteArray) (W : World) (h : ActArg W lo len l) (hs : s.size ≤ maxLen) :
    Calls Try.prog 5 #[.int .i64 qi, .slice lo len cap, .string s] W fun E w' => E = .returned (.bool true) ∧ Below W.heap.size W w' := by
  obtain ⟨rfl, h1, h2⟩ := h
  have := law_apart qi l lo cap s.data.toList W h2 h1 (by simpa using hs)
  rwa [← str_of s] at this
theorem rowSure (qi : Int) (lo : Option Addr) (len cap : Nat) (l : List Act2) (k0 k1 : Option Addr) (s0 s1 : List Int) (c0 c1 : Nat) (W : World) (h : ActArg W lo len l) (l0 : s0.length ≤ maxLen) (l1 : s1.length ≤ maxLen) (i0 : Ints W k0 s0) (i1 : Ints W k1 s1) :
    Calls Try.prog 4 #[.int .i64 qi, .slice lo len cap, .agg #[.slice k0 s0.length c0, .slice k1 s1.length c1]] W fun E w' => E = .returned (.bool true) ∧ Below W.heap.size W w' := by
  obtain ⟨rfl, h1, h2⟩ := h
  exact law_sure qi l lo cap k0 k1 s0 s1 c0 c1 W h2 h1 i0 i1 l0 l1 i0.lt i1.lt
end Go.Proofs.Ytecchaogpcpooaa
