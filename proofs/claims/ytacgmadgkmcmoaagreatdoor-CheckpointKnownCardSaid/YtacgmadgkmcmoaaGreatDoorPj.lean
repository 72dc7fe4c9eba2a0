/- A power of a run's own; left, awake. -/
import Derived.Test.YtacgmadgkmcmoaaGreatDoorPz
namespace Go.Proofs.YtacgmadgkmcmoaaGreatDoor
open Go.RowKit
set_option linter.unusedVariables false
set_option linter.unusedSimpArgs false
set_option maxRecDepth 100000

/-- A power that the run made since w0, and all that is new is its disk's. -/
structure PwR (S : Nat → Prop) (w0 w : World) (g : Nat) (dv : Value) (q : Nat) (ko : Option Addr) (kc : Nat) (p : Pw) : Prop where
  p : PwC S w g dv q ko kc p
  lo : ∀ x, S x → w0.heap.size ≤ x
  hg : w0.heap.size ≤ g
  new : ∀ x, w.heap.size ≤ x → S x
  be : Below w0.heap.size w0 w
section
variable {S : Nat → Prop} {w0 w w1 : World} {g q kc : Nat} {dv : Value} {ko : Option Addr} {p p' : Pw}
theorem PwR.step (h : PwR S w0 w g dv q ko kc p) (hp : PwC S w1 g dv q ko kc p') (ht : Tu (fun x => x = g ∨ S x) w w1) : PwR S w0 w1 g dv q ko kc p' :=
  ⟨hp, h.lo, h.hg, fun x hx => h.new x (Nat.le_trans ht.size hx), h.be.trans (ht.below (fun x hx e => by
    rcases e with e | e
    · have := h.hg; omega
    · have := h.lo x e; omega) h.be.size)⟩
theorem PwR.more (h : PwR S w0 w g dv q ko kc p) (hb : Below w.heap.size w w1) : PwR S w0 w1 g dv q ko kc p :=
  ⟨h.p.new hb, h.lo, h.hg, fun x hx => h.new x (Nat.le_trans hb.size hx), h.be.trans (hb.mono h.be.size)⟩
theorem PwR.made {S0 : Nat → Prop} (h : PwC (fun x => S0 x ∧ x < w.heap.size) w1 g dv q ko kc p) (hg : w.heap.size ≤ g) (hb : Below w.heap.size w w1) (hlo : ∀ x, S0 x → w0.heap.size ≤ x) (hb0 : Below w0.heap.size w0 w) :
    PwR (fun x => (S0 x ∧ x < w.heap.size) ∨ w1.heap.size ≤ x) w0 w1 g dv q ko kc p := by
  have hbb := hb0.trans (hb.mono hb0.size)
  refine ⟨h.mono (fun x hx => ⟨fun hs => .inl hs, fun hs => ?_⟩), fun x hx => ?_, Nat.le_trans hb0.size hg, fun x hx => .inr hx, hbb⟩
  · rcases hs with hs | hs
    · exact hs
    · omega
  · rcases hx with hx | hx
    · exact hlo x hx.1
    · exact Nat.le_trans hbb.size hx
end
/-- What the chapter's example leaves. -/
def lastE (ks : List Int) : List Ent := aCrash ks (if oddK ks then aAppend 100 (aCreate [] [97]) [97] [120, 121, 122] else aCreate [] [97])
def p0 (ks : List Int) : Pw := ⟨1, ks, 0, false, []⟩
def p1 (ks : List Int) : Pw := ⟨1, ks, 1, false, aCreate [] [97]⟩
def p2 (ks : List Int) : Pw := ⟨1, ks, 2, true, lastE ks⟩
end Go.Proofs.YtacgmadgkmcmoaaGreatDoor
