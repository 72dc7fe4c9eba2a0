/- What a step may turn. -/
import Derived.Test.YthnelnfefllhpaaDoorAc
namespace Go.Proofs.YthnelnfefllhpaaDoor
open Go.RowKit
set_option linter.unusedVariables false

/-- Of what was there nothing has turned but blocks of S. -/
structure Tu (S : Nat → Prop) (w w' : World) : Prop where
  os : w'.os = w.os
  tape : w'.tape = w.tape
  output : w'.output = w.output
  size : w.heap.size ≤ w'.heap.size
  block : ∀ k, k < w.heap.size → ¬ S k → w'.heap[k]? = w.heap[k]?
section
variable {S S' : Nat → Prop} {w w' w'' : World} {g B : Nat} {t : TypeId} {cs : Array Value}
theorem Tu.refl (S : Nat → Prop) (w : World) : Tu S w w := ⟨rfl, rfl, rfl, Nat.le_refl _, fun _ _ _ => rfl⟩
theorem Tu.trans (h : Tu S w w') (k : Tu S' w' w'') (hs : ∀ x, x < w.heap.size → S' x → S x) : Tu S w w'' :=
  ⟨k.os.trans h.os, k.tape.trans h.tape, k.output.trans h.output, Nat.le_trans h.size k.size, fun i hi hn => (k.block i (Nat.lt_of_lt_of_le hi h.size) fun hx => hn (hs i hi hx)).trans (h.block i hi hn)⟩
theorem Tu.mono (h : Tu S w w') (hs : ∀ x, x < w.heap.size → S x → S' x) : Tu S' w w' := ⟨h.os, h.tape, h.output, h.size, fun i hi hn => h.block i hi fun hx => hn (hs i hi hx)⟩
theorem Tu.grown {row : Option Nat} (hg : w.grownBy w' row) : Tu (fun x => some x = row) w w' := ⟨hg.os, hg.tape, hg.output, hg.size, hg.block⟩
theorem Tu.new (hb : Below w.heap.size w w') : Tu S w w' := ⟨hb.os, hb.tape, hb.output, hb.size, fun i hi _ => hb.block i hi⟩
theorem Tu.fresh (hg : w.grownBy w' none) : Tu S w w' := ⟨hg.os, hg.tape, hg.output, hg.size, fun i hi _ => hg.block i hi (by simp)⟩
theorem Tu.below (h : Tu S w w') (hB : ∀ x, x < B → ¬ S x) (hle : B ≤ w.heap.size) : Below B w w' := ⟨h.os, h.tape, h.output, h.size, fun i hi => h.block i (Nat.lt_of_lt_of_le hi hle) (hB i hi)⟩
theorem Tu.of_below (h : Below B w w') : Tu (fun x => B ≤ x) w w' := ⟨h.os, h.tape, h.output, h.size, fun i _ hn => h.block i (by omega)⟩
theorem Tu.draw (h : Tu S w w') : Tu S w w'.drew := ⟨h.os, h.tape, h.output, h.size, h.block⟩
theorem Cells.tu (h : Cells w g t cs) (k : Tu S w w') (hg : ¬ S g) : Cells w' g t cs := (k.block g h.lt hg).trans h
theorem row_tu {base : Nat} {e : TypeId} {size n : Nat} {v : Value} {xs : List Value} (h : w.ownsRow base e size v n xs) (k : Tu S w w') (hg : ∀ x, v.ownBlock = some x → ¬ S x) : w'.ownsRow base e size v n xs := by
  refine ⟨h.1, ?_⟩
  rcases h.2 with h2 | ⟨b, cap, cur, rfl, hb, hh, r⟩
  · exact .inl h2
  · exact .inr ⟨b, cap, cur, rfl, hb, (k.block b (Array.getElem?_eq_some_iff.1 hh).1 (hg b rfl)).trans hh, r⟩
end
theorem below_alloc (w : World) (o : Obj) : Below w.heap.size w (w.alloc o) := (Below.refl _ w).alloc (Nat.le_refl _) o
end Go.Proofs.YthnelnfefllhpaaDoor
