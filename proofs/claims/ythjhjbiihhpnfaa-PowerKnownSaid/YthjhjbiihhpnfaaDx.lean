/- Acts in a slice; few. -/
import Derived.Test.YthjhjbiihhpnfaaDw
namespace Go.Proofs.Ythjhjbiihhpnfaa
open Go.RowKit Go.Shelf
set_option linter.unusedVariables false
set_option linter.unusedSimpArgs false
set_option maxRecDepth 100000

/-- Acts that can be read there. -/
def Acs (w : World) (ao : Option Addr) (l : List Act2) : Prop :=
  ∀ j (h : j < l.length), ∃ b o, ao = some ⟨b, o, none⟩ ∧ (∀ i v, ((l[j]'h).cs)[i]? = some v → w.cell? ⟨b, o + j * 5 + i, none⟩ = some v) ∧ (l[j]'h).ok w
theorem Act2.ok.to {w w' : World} {a : Act2} (h : a.ok w) (hb : Below w.heap.size w w') : a.ok w' :=
  ⟨h.c, h.n, h.t, h.b, h.k, h.i.tu (S := fun _ => False) (.new hb) (fun _ _ h => h), fun x hx hn => Nat.lt_of_lt_of_le (h.lo x hx hn) hb.size⟩
theorem Acs.to {w w' : World} {ao : Option Addr} {l : List Act2} (h : Acs w ao l) (hb : Below w.heap.size w w') : Acs w' ao l := fun j hj => by
  obtain ⟨b, o, e, hc, hk⟩ := h j hj
  refine ⟨b, o, e, fun i v hv => ?_, hk.to hb⟩
  have h1 := hc i v hv
  have hlt := World.block_lt_of_cell? w _ h1
  rw [hb.cell (p := ⟨b, o + j * 5 + i, none⟩) hlt]
  exact h1
def FewPost (w : World) (R : Ending) (w' : World) : Prop := ∃ z, R = .returned (.bool z) ∧ w = w'
end Go.Proofs.Ythjhjbiihhpnfaa
