/- Small things of layer 18: two operations either of which may come up; a row of shots that stays. -/
import Derived.Test.YtacgmadgkmcmoaaGreatDoorJf
namespace Go.Proofs.YtacgmadgkmcmoaaGreatDoor
open Go.RowKit
set_option linter.unusedVariables false
set_option linter.unusedSimpArgs false
set_option maxRecDepth 20000

theorem str_yes3 (a : List UInt8) : ((str a).toList != (str a).toList) = false := by rw [bne_self_eq_false]
section
variable {P : Program} {ops : Array Oper} {Q : Exit → Act → World → Prop} {md : Region.Mode} {S : World → Prop}
theorem wpTill_pair {i j n : Nat} {oi oj : Oper} {listed : Array Bool} {a : Act} {w : World} (hr : Region.ready md ops listed = [i, j]) (hi : ops[i]? = some oi) (hj : ops[j]? = some oj) (hS : S w)
    (h1 : ∀ K' : Act → World → Prop, (∀ a' w', wpTill P md ops Q S n (listed.setIfInBounds i true) a' w' → K' a' w') → if Region.wanted oi (yielded ops a.tmps) = true then Oper.wp P oi a w K' Q else K' (a.put oi.dst undef) w)
    (h2 : ∀ K' : Act → World → Prop, (∀ a' w', wpTill P md ops Q S n (listed.setIfInBounds j true) a' w' → K' a' w') → if Region.wanted oj (yielded ops a.tmps) = true then Oper.wp P oj a w K' Q else K' (a.put oj.dst undef) w) :
    wpTill P md ops Q S (n + 1) listed a w :=
  ⟨fun k => (by rw [hr] at k; cases k), fun _ => hS, fun l hl => by
    rw [hr] at hl
    rcases List.mem_cons.1 hl with rfl | hl
    · exact wpOp_step hi h1
    · rw [List.mem_singleton] at hl
      subst hl
      exact wpOp_step hj h2⟩
end
theorem shs_tu {S : Nat → Prop} {w w' : World} {ao : Option Addr} {l : List Sh} (h : Shs w ao l) (k : Tu S w w') (hs : ∀ a, ao = some a → l ≠ [] → ¬ S a.block) : Shs w' ao l := fun i hi => by
  obtain ⟨hf, b, o, e, hc⟩ := h i hi
  refine ⟨hf, b, o, e, fun j v hv => ?_⟩
  have h1 := hc j v hv
  rw [World.cell?_of_block (w := w) (k.block b (World.block_lt_of_cell? w _ h1) (hs _ e (fun e0 => by rw [e0] at hi; cases hi)))]
  exact h1
theorem shs_lt {w : World} {ao : Option Addr} {l : List Sh} (h : Shs w ao l) : ∀ a, ao = some a → l ≠ [] → a.block < w.heap.size := fun a e hn => by
  obtain ⟨_, b, o, e2, hc⟩ := h 0 (List.length_pos_iff.2 hn)
  rw [e] at e2
  cases e2
  exact World.block_lt_of_cell? w _ (hc 0 _ rfl)
end Go.Proofs.YtacgmadgkmcmoaaGreatDoor
