/- alike: two disks of one list; both nil. -/
import Derived.Test.YthjhjbiihhpnfaaGreatEl
import Derived.Test.YthjhjbiihhpnfaaGreatDp
import Derived.Test.YthjhjbiihhpnfaaGreatDy
namespace Go.Proofs.YthjhjbiihhpnfaaGreat
open Go.RowKit Go.Shelf Go.Deep
set_option linter.unusedVariables false
set_option linter.unusedSimpArgs false
set_option maxRecDepth 100000

theorem Lst.nmAt2 {w : World} {B : Nat} {uo : Option Addr} {uc : Nat} {E : List Ent} (h : Lst w B (.slice uo E.length uc) (E.map Ent.nm)) {k : Nat} (hk : k < E.length) :
    ∃ g, uo = some ⟨g, 0, none⟩ ∧ ∀ W, Below w.heap.size w W → W.cell? ⟨g, k, none⟩ = some (.string (str (E[k]'hk).nm)) := by
  obtain ⟨g, cap, e, hc⟩ := h.at (k := k) (by rw [List.length_map]; exact hk)
  have e2 : uo = some ⟨g, 0, none⟩ := by injection e
  refine ⟨g, e2, fun W hW => ?_⟩
  rw [Nat.zero_add] at hc
  rw [hW.cell (p := ⟨g, k, none⟩) (World.block_lt_of_cell? w _ hc), hc, List.getElem_map]
theorem nm_short2 {q : Nat} {E : List Ent} (h : Good q E) {j : Nat} (hj : j < E.length) : (E[j]'hj).nm.length ≤ 32 := by
  have := h.nms _ (List.getElem_mem hj)
  simp [isNm] at this
  exact this.1.2
end Go.Proofs.YthjhjbiihhpnfaaGreat
