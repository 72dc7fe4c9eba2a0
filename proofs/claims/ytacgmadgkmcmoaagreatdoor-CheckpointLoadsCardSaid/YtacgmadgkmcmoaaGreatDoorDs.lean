/- The arguments of layer 12's statements as they come in: acts with their lists of numbers, two such lists; the rows' walks. -/
import Derived.Test.YtacgmadgkmcmoaaGreatDoorDz
import Derived.Deep.Slices
import Derived.Deep.Strs
import Derived.Lib.SmallJoins
import Derived.OpenShut
import Derived.ShutString
namespace Go.Proofs.YtacgmadgkmcmoaaGreatDoor
open Go.ChangeShapes Go.WideShapes Go.RowKit Go.Deep
set_option linter.unusedVariables false
set_option linter.unusedSimpArgs false
set_option maxRecDepth 20000
theorem i64_of {n : Int} (h : (Lit.int .i64 n).wf = true) : -9223372036854775808 ≤ n ∧ n ≤ 9223372036854775807 := by
  have h2 : (decide (-9223372036854775808 ≤ n) && decide (n ≤ 9223372036854775807)) = true := h
  simp only [Bool.and_eq_true, decide_eq_true_eq] at h2
  exact h2
section
variable {H : Type} {enc : TypeId × Value → H} {P : Program} {w : World} {base : Nat} {spare : Nat → Bool} {held : Bool}
end
theorem Ints.lt {w : World} {ao : Option Addr} {ks : List Int} (h : Ints w ao ks) : ∀ x, ao = some x → ks ≠ [] → x.block < w.heap.size := fun x hx hn => by
  obtain ⟨b, o, e, hc, _⟩ := h 0 (List.length_pos_iff.2 hn)
  rw [hx] at e
  cases e
  exact World.block_lt_of_cell? w _ hc
section
variable {H : Type} {enc : TypeId × Value → H} {w : World} {base : Nat} {spare : Nat → Bool} {held : Bool} {fuel : Nat}
/-- A list of numbers as it comes in. -/
theorem open_il {c : Value} {x : DataW H × List MemPlace} (h : DataW.trod enc Tryz.prog w base spare held fuel 24 [c] = some x) : ∃ (ao : Option Addr) (ks : List Int) (cap : Nat), c = .slice ao ks.length cap ∧ ks.length ≤ maxLen ∧ Ints w ao ks := by
  rcases open_ints Tryz.underlying24 Tryz.underlying3 (by kernel_rfl) h with ⟨hcs, _⟩ | ⟨ad, l, cp, zs, hcs, _, hl, hm, hz, _, hcell, hwz⟩
  · simp at hcs
    subst hcs
    exact ⟨none, [], 0, rfl, by simp [maxLen], fun j h => by cases h⟩
  · simp at hcs
    subst hcs
    have hzl : l ≤ zs.length := by rw [hz]; split <;> omega
    have htl : (zs.take l).length = l := by rw [List.length_take]; omega
    refine ⟨some ad, zs.take l, cp, by rw [htl], by rw [htl]; omega, fun j hj => ?_⟩
    rw [htl] at hj
    obtain ⟨b, o, rfl, hc⟩ := ints_at hcell (by omega)
    have hci := hc j (by omega)
    have hg : zs.getD j 0 = zs[j]'(by omega) := by simp [List.getD, List.getElem?_eq_getElem (show j < zs.length from by omega)]
    rw [hg] at hci
    have hr := i64_of (hwz (zs[j]'(by omega)) (List.getElem_mem _))
    refine ⟨b, o, rfl, ?_, ?_, ?_⟩
    · rw [hci, List.getElem_take]
    · rw [List.getElem_take]; exact hr.1
    · rw [List.getElem_take]; exact hr.2
end
end Go.Proofs.YtacgmadgkmcmoaaGreatDoor
