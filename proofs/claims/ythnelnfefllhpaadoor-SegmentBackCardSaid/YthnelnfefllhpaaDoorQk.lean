/- The document's Put: one contract. -/
import Derived.Test.YthnelnfefllhpaaDoorQj
namespace Go.Proofs.YthnelnfefllhpaaDoor
open Go.RowKit
set_option linter.unusedVariables false
set_option linter.unusedSimpArgs false
set_option maxRecDepth 20000

section
variable {P : Program} {ops : Array Oper} {Q : Exit → Act → World → Prop} {md : Region.Mode} {S : World → Prop}
theorem wpTill_two {i j n : Nat} {oi oj : Oper} {listed : Array Bool} {a : Act} {w : World} (hr : Region.ready md ops listed = [i, j]) (hi : ops[i]? = some oi) (hj : ops[j]? = some oj) (hS : S w)
    (h1 : ∀ K' : Act → World → Prop, (∀ a' w', wpTill P md ops Q S n (listed.setIfInBounds i true) a' w' → K' a' w') → if Region.wanted oi (yielded ops a.tmps) = true then Oper.wp P oi a w K' Q else K' (a.put oi.dst undef) w)
    (h2 : ∀ K' : Act → World → Prop, (∀ a' w', wpTill P md ops Q S n (listed.setIfInBounds j true) a' w' → K' a' w') → if Region.wanted oj (yielded ops a.tmps) = true then Oper.wp P oj a w K' Q else K' (a.put oj.dst undef) w) :
    wpTill P md ops Q S (n + 1) listed a w :=
  ⟨fun k => (by rw [hr] at k; cases k), fun _ => hS, fun l hl => by
    rw [hr] at hl
    rcases List.mem_cons.1 hl with rfl | hl
    · exact wpOp_step hi h1
    · rw [List.mem_singleton] at hl
      subst hl
      exact wpOp_step hj h2⟩
end
theorem keep_rowB {w1 w2 : World} (h : Below w1.heap.size w1 w2) {g : Nat} (hg : g < w1.heap.size) : rowOf w2 g = rowOf w1 g := by
  unfold rowOf; rw [h.block g hg]
theorem G.on_alloc {wd w1 : World} {o : Obj} (h : G.On wd.heap.size wd w1) : G.On wd.heap.size wd (w1.alloc o) := G.on_step h (below_of_grown (grown_alloc w1 o))
theorem G.on_drewB {B : Nat} {w w' : World} (h : G.On B w w') : G.On B w w'.drew := Below.drew h
theorem strOf1 (a : Nat) : strOf #[.int .u8 (a : Int)] = str [UInt8.ofNat a] := by simp [strOf, byteV]
theorem pA_yes {r : Rc} (h : mayB r = true) : pA r = encR r := if_pos h
attribute [local go_sem ↓] ld_dec ld_int ld_input ld_u8 ld_u64
attribute [local go_sem] rowOf_new rowOf_old rowOf_drew rowOf_drewN drew_size
end Go.Proofs.YthnelnfefllhpaaDoor
