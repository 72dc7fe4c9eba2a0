/- few, texts; two disks of the same files are alike. -/
import Derived.Test.YtacgmadgkmcmoaaGreatDoorPj
import Derived.Test.YtacgmadgkmcmoaaGreatDoorEw
namespace Go.Proofs.YtacgmadgkmcmoaaGreatDoor
open Go.RowKit Go.Shelf Go.Deep
set_option linter.unusedVariables false
set_option linter.unusedSimpArgs false
set_option maxRecDepth 100000

/-- A call: what, a name, another text. -/
structure Act3 where
  c : Nat
  n : List UInt8
  t : List UInt8
def Act3.cs (a : Act3) : Array Value := #[.int .u8 (a.c : Int), .string (str a.n), .string (str a.t)]
structure Act3.ok (a : Act3) : Prop where
  c : a.c < 256
  n : a.n.length ≤ maxLen
  t : a.t.length ≤ maxLen
/-- Acts that can be read there. -/
def Acs3 (w : World) (ao : Option Addr) (l : List Act3) : Prop :=
  ∀ j (h : j < l.length), ∃ b o, ao = some ⟨b, o, none⟩ ∧ (∀ i v, ((l[j]'h).cs)[i]? = some v → w.cell? ⟨b, o + j * 3 + i, none⟩ = some v) ∧ (l[j]'h).ok
theorem Acs3.tu {S : Nat → Prop} {w w' : World} {ao : Option Addr} {l : List Act3} (h : Acs3 w ao l) (k : Tu S w w') (hs : ∀ a, ao = some a → a.block < w.heap.size → ¬ S a.block) : Acs3 w' ao l := fun j hj => by
  obtain ⟨b, o, e, hc, hk⟩ := h j hj
  refine ⟨b, o, e, fun i v hv => ?_, hk⟩
  have h1 := hc i v hv
  have hlt := World.block_lt_of_cell? w _ h1
  rw [World.cell?_of_block (w := w) (k.block b hlt (hs _ e hlt))]
  exact h1
theorem Acs3.to {w w' : World} {ao : Option Addr} {l : List Act3} (h : Acs3 w ao l) (hb : Below w.heap.size w w') : Acs3 w' ao l := h.tu (S := fun _ => False) (.new hb) (fun _ _ _ h => h)
end Go.Proofs.YtacgmadgkmcmoaaGreatDoor
