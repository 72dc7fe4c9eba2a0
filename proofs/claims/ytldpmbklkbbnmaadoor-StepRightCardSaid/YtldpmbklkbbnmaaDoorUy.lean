/- The arguments of layer 9's statements as they come in: a pair by value, a slice of pairs. -/
import Derived.Test.YtldpmbklkbbnmaaDoorUw
import Derived.Test.YtldpmbklkbbnmaaDoorAe
import Derived.Test.YtldpmbklkbbnmaaDoorAc
import Derived.Test.YtldpmbklkbbnmaaDoorLaid
namespace Go.Proofs.YtldpmbklkbbnmaaDoor
open Go.ChangeShapes Go.WideShapes Go.RowKit Go.Deep
set_option linter.unusedVariables false

/-- A slice of pairs as it comes in. -/
def PsArg (w : World) (_ : Nat) (a : Option Addr) (len : Nat) (l : List (Nat × Nat)) : Prop := l.length = len ∧ len ≤ maxLen ∧ Prs w a l
theorem u8_nat {n : Int} (h : (Lit.int .u8 n).wf = true) : ∃ k : Nat, n = k ∧ k < 256 := by
  have h2 : (decide (0 ≤ n) && decide (n ≤ 255)) = true := h
  simp only [Bool.and_eq_true, decide_eq_true_eq] at h2
  exact ⟨n.toNat, by omega, by omega⟩
section
variable {H : Type} {enc : TypeId × Value → H} {w : World} {base : Nat} {spare : Nat → Bool} {held : Bool}
theorem open_pair {n : Nat} {c0 c1 : Value} {y : DataW H × List MemPlace} (h : DataW.trod enc Tryd.prog w base spare held n 33 [c0, c1] = some y) :
    ∃ i j : Nat, i < 256 ∧ j < 256 ∧ c0 = .int .u8 (i : Int) ∧ c1 = .int .u8 (j : Int) := by
  have qi : Tryd.prog.cellsOf 31 = 1 := by kernel_rfl
  obtain ⟨n0, y0, h0⟩ := trod_elem Tryd.underlying33 h (i := 0) (by omega)
  obtain ⟨z0, e0, _, w0⟩ := DataW.trod_int Tryd.underlying31 h0
  simp [qi] at e0
  obtain ⟨n1, y1, h1⟩ := trod_elem Tryd.underlying33 h (i := 1) (by omega)
  obtain ⟨z1, e1, _, w1⟩ := DataW.trod_int Tryd.underlying31 h1
  simp [qi] at e1
  obtain ⟨i, rfl, hi⟩ := u8_nat w0
  obtain ⟨j, rfl, hj⟩ := u8_nat w1
  exact ⟨i, j, hi, hj, e0, e1⟩
set_option maxRecDepth 20000 in
theorem open_pairs {fuel : Nat} {a : Option Addr} {len cap : Nat} {x : DataW H × List MemPlace} (h : DataW.trod enc Tryd.prog w base spare held fuel 41 (Value.cells (.slice a len cap)).toList = some x) : ∃ l, PsArg w w.heap.size a len l := by
  rcases open_slice Tryd.underlying41 h with ⟨hcs, _⟩ | ⟨ad, len', cap', m, n, D, Pl, hcs, _, hl, hm, hmm, _, hel⟩
  · simp [Value.cells] at hcs
    obtain ⟨rfl, rfl, rfl⟩ := hcs
    exact ⟨[], rfl, by simp [maxLen], fun k h => by simp at h⟩
  · simp [Value.cells] at hcs
    obtain ⟨rfl, rfl, rfl⟩ := hcs
    have hlm : len ≤ m := by rw [hmm]; split <;> omega
    have hC : Tryd.prog.cellsOf 33 = 2 := by kernel_rfl
    have plain : 0 < len → ∃ b o, ad = ⟨b, o, none⟩ := fun h0 => by
      obtain ⟨cs, hcells, _⟩ := hel 0 (by omega)
      rw [hC] at hcells
      obtain ⟨_, hcl, hat⟩ := World.cells?_some hcells
      have h1 := hat 0 (by omega)
      rw [Deep.add_add, List.getElem?_eq_getElem (by omega)] at h1
      exact addr_flat h1
    have one : ∀ i, i < len → ∃ p : Nat × Nat, p.1 < 256 ∧ p.2 < 256 ∧ ∃ b o, some ad = some ⟨b, o, none⟩ ∧ w.cell? ⟨b, o + i * 2, none⟩ = some (.int .u8 (p.1 : Int)) ∧ w.cell? ⟨b, o + i * 2 + 1, none⟩ = some (.int .u8 (p.2 : Int)) := by
      intro i hi
      obtain ⟨cs, hcells, ht⟩ := hel i (by omega)
      rw [hC] at hcells
      obtain ⟨_, hcl, hat⟩ := World.cells?_some hcells
      match cs, hcl with
      | [c0, c1], _ =>
        obtain ⟨p0, p1, h0, h1, rfl, rfl⟩ := open_pair ht
        obtain ⟨b, o, rfl⟩ := plain (by omega)
        refine ⟨(p0, p1), h0, h1, b, o, rfl, ?_, ?_⟩
        · have := hat 0 (by omega)
          rw [Deep.add_add, Go.WideShapes.add_plain, ← Nat.add_assoc, Nat.add_zero] at this
          exact this
        · have := hat 1 (by omega)
          rw [Deep.add_add, Go.WideShapes.add_plain, ← Nat.add_assoc] at this
          exact this
    refine ⟨(List.range len).pmap (fun i hi => Classical.choose (one i hi)) (fun i hi => List.mem_range.1 hi), by simp, by omega, fun i hi => ?_⟩
    have hi2 : i < len := by simpa using hi
    have hx : ((List.range len).pmap (fun i hi => Classical.choose (one i hi)) (fun i hi => List.mem_range.1 hi))[i]'hi = Classical.choose (one i hi2) := by simp
    rw [hx]
    exact Classical.choose_spec (one i hi2)
end
theorem u64_nat {n : Int} (h : (Lit.int .u64 n).wf = true) : ∃ k : Nat, n = k ∧ k < 18446744073709551616 := by
  have h2 : (decide (0 ≤ n) && decide (n ≤ 18446744073709551615)) = true := h
  simp only [Bool.and_eq_true, decide_eq_true_eq] at h2
  exact ⟨n.toNat, by omega, by omega⟩
theorem rowMakes (s : St) (ao : Option Addr) (cap : Nat) (a b : Int) (W : World) (hS : Shs W ao s.ss) (hn : ao = none → cap = 0) (hl : s.ss.length ≤ maxLen) (hf : s.fit) (wa : (Lit.int .u8 a).wf = true) (wb : (Lit.int .u8 b).wf = true) (hL : Laid W) :
    Calls Tryd.prog 3 #[sv s ao cap, .agg #[.int .u8 a, .int .u8 b]] W fun E w' => E = .returned (.bool true) ∧ Below W.heap.size W w' := by
  obtain ⟨i, rfl, hi⟩ := u8_nat wa
  obtain ⟨j, rfl, hj⟩ := u8_nat wb
  exact law_makes s ao cap i j W hS hn hl hf hi hj hL
theorem rowRight (s : St) (ao : Option Addr) (cap : Nat) (a b : Int) (W : World) (hS : Shs W ao s.ss) (hn : ao = none → cap = 0) (hl : s.ss.length ≤ maxLen) (hf : s.fit) (wa : (Lit.int .u8 a).wf = true) (wb : (Lit.int .u8 b).wf = true) (hL : Laid W) :
    Calls Tryd.prog 6 #[sv s ao cap, .agg #[.int .u8 a, .int .u8 b]] W fun E w' => E = .returned (.bool true) ∧ Below W.heap.size W w' := by
  obtain ⟨i, rfl, hi⟩ := u8_nat wa
  obtain ⟨j, rfl, hj⟩ := u8_nat wb
  exact law_right s ao cap i j W hS hn hl hf hi hj hL
theorem rowGoes (n : Int) (lo : Option Addr) (len cap : Nat) (l : List (Nat × Nat)) (W : World) (wn : (Lit.int .u64 n).wf = true) (h : PsArg W W.heap.size lo len l) (hL : Laid W) :
    Calls Tryd.prog 4 #[.int .u64 n, .slice lo len cap] W fun E w' => E = .returned (.bool true) ∧ Below W.heap.size W w' := by
  obtain ⟨k, rfl, hk⟩ := u64_nat wn
  obtain ⟨rfl, hl, hP⟩ := h
  exact law_goes k l lo cap W hk hP hl hL
end Go.Proofs.YtldpmbklkbbnmaaDoor
