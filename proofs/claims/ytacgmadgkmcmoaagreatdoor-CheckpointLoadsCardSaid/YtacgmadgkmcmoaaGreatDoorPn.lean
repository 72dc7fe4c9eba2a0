/- Two powers, the program's and the document's, in blocks apart; one call of both. -/
import Derived.Test.YtacgmadgkmcmoaaGreatDoorPm
namespace Go.Proofs.YtacgmadgkmcmoaaGreatDoor
open Go.RowKit
set_option linter.unusedVariables false
set_option linter.unusedSimpArgs false
set_option maxRecDepth 100000

structure BothP (w0 w : World) (g gd h gr q : Nat) (ko ko2 : Option Addr) (kc kc2 : Nat) (p p' : Pw) (S1 S2 : Nat → Prop) : Prop where
  d : PwC S1 w g (.pointer (some ⟨gd, 0, none⟩)) q ko kc p
  r : QwC S2 w h gr q ko2 kc2 p'
  ap : ∀ x, S1 x → ¬ S2 x
  gh : g ≠ h
  g2 : ¬ S2 g
  h1 : ¬ S1 h
  k1 : ∀ a, ko = some a → p.ks ≠ [] → a.block ≠ h ∧ ¬ S2 a.block
  k2 : ∀ a, ko2 = some a → p'.ks ≠ [] → a.block ≠ g ∧ ¬ S1 a.block
  lo1 : ∀ x, x = g ∨ S1 x → w0.heap.size ≤ x
  lo2 : ∀ x, x = h ∨ S2 x → w0.heap.size ≤ x
  be : Below w0.heap.size w0 w
section
variable {w0 w w1 : World} {g gd h gr q kc kc2 : Nat} {ko ko2 : Option Addr} {p p' pn : Pw} {S1 S2 T1 T2 : Nat → Prop}
/-- Other sets of blocks, that say the same of what is there. -/
theorem BothP.sets (k : BothP w0 w g gd h gr q ko ko2 kc kc2 p p' S1 S2) (e1 : ∀ x, x < w.heap.size → (S1 x ↔ T1 x)) (e2 : ∀ x, x < w.heap.size → (S2 x ↔ T2 x)) (ap : ∀ x, w.heap.size ≤ x → T1 x → ¬ T2 x) :
    BothP w0 w g gd h gr q ko ko2 kc kc2 p p' T1 T2 := by
  have hsz := k.be.size
  have hg := k.d.lt
  have hh := k.r.blk.lt
  refine ⟨k.d.mono e1, k.r.mono e2, fun x hx hn => ?_, k.gh, fun hx => k.g2 ((e2 _ hg).2 hx), fun hx => k.h1 ((e1 _ hh).2 hx), fun a e hn => ⟨(k.k1 a e hn).1, fun hx => (k.k1 a e hn).2 ((e2 _ (k.d.kf a e hn).2).2 hx)⟩, fun a e hn => ⟨(k.k2 a e hn).1, fun hx => (k.k2 a e hn).2 ((e1 _ (k.r.kf a e hn).2).2 hx)⟩, fun x hx => ?_, fun x hx => ?_, k.be⟩
  · by_cases hlt : x < w.heap.size
    · exact k.ap x ((e1 x hlt).2 hx) ((e2 x hlt).2 hn)
    · exact ap x (by omega) hx hn
  · by_cases hlt : x < w.heap.size
    · rcases hx with e | hx
      · exact k.lo1 x (.inl e)
      · exact k.lo1 x (.inr ((e1 x hlt).2 hx))
    · omega
  · by_cases hlt : x < w.heap.size
    · rcases hx with e | hx
      · exact k.lo2 x (.inl e)
      · exact k.lo2 x (.inr ((e2 x hlt).2 hx))
    · omega
theorem BothP.trim (k : BothP w0 w g gd h gr q ko ko2 kc kc2 p p' S1 S2) : BothP w0 w g gd h gr q ko ko2 kc kc2 p p' (fun x => S1 x ∧ x < w.heap.size) (fun x => S2 x ∧ x < w.heap.size) :=
  k.sets (fun x hx => ⟨fun h => ⟨h, hx⟩, fun h => h.1⟩) (fun x hx => ⟨fun h => ⟨h, hx⟩, fun h => h.1⟩) (fun x hx h => by have := h.2; omega)
theorem BothP.wide1 (k : BothP w0 w g gd h gr q ko ko2 kc kc2 p p' S1 S2) : BothP w0 w g gd h gr q ko ko2 kc kc2 p p' (fun x => S1 x ∨ w.heap.size ≤ x) (fun x => S2 x ∧ x < w.heap.size) :=
  k.sets (fun x hx => ⟨fun h => .inl h, fun h => h.elim (fun h => h) (fun h => by omega)⟩) (fun x hx => ⟨fun h => ⟨h, hx⟩, fun h => h.1⟩) (fun x hx _ h => by have := h.2; omega)
theorem BothP.wide2 (k : BothP w0 w g gd h gr q ko ko2 kc kc2 p p' S1 S2) : BothP w0 w g gd h gr q ko ko2 kc kc2 p p' (fun x => S1 x ∧ x < w.heap.size) (fun x => S2 x ∨ w.heap.size ≤ x) :=
  k.sets (fun x hx => ⟨fun h => ⟨h, hx⟩, fun h => h.1⟩) (fun x hx => ⟨fun h => .inl h, fun h => h.elim (fun h => h) (fun h => by omega)⟩) (fun x hx h => by have := h.2; omega)
theorem BothP.new (k : BothP w0 w g gd h gr q ko ko2 kc kc2 p p' S1 S2) (hb : Below w.heap.size w w1) : BothP w0 w1 g gd h gr q ko ko2 kc kc2 p p' S1 S2 :=
  ⟨k.d.new hb, k.r.new hb, k.ap, k.gh, k.g2, k.h1, k.k1, k.k2, k.lo1, k.lo2, k.be.trans (hb.mono k.be.size)⟩
/-- The program's power has acted. -/
theorem BothP.s1 (k : BothP w0 w g gd h gr q ko ko2 kc kc2 p p' S1 S2) (hd : PwC S1 w1 g (.pointer (some ⟨gd, 0, none⟩)) q ko kc pn) (hk : pn.ks = p.ks) (ht : Tu (fun x => x = g ∨ S1 x) w w1) : BothP w0 w1 g gd h gr q ko ko2 kc kc2 pn p' S1 S2 := by
  refine ⟨hd, k.r.tu ht ?_ ?_ ?_, k.ap, k.gh, k.g2, k.h1, fun a e hn => k.k1 a e (hk ▸ hn), k.k2, k.lo1, k.lo2, k.be.trans (ht.below (fun x hx hn => ?_) k.be.size)⟩
  · rintro (e | e)
    · exact k.gh e.symm
    · exact k.h1 e
  · rintro a e hn (e' | e')
    · exact (k.k2 a e hn).1 e'
    · exact (k.k2 a e hn).2 e'
  · rintro x _ hs (e | e)
    · exact k.g2 (e ▸ hs)
    · exact k.ap x e hs
  · have := k.lo1 x hn; omega
theorem BothP.s2 (k : BothP w0 w g gd h gr q ko ko2 kc kc2 p p' S1 S2) (hr : QwC S2 w1 h gr q ko2 kc2 pn) (hk : pn.ks = p'.ks) (ht : Tu (fun x => x = h ∨ S2 x) w w1) : BothP w0 w1 g gd h gr q ko ko2 kc kc2 p pn S1 S2 := by
  refine ⟨k.d.tu ht ?_ ?_ ?_, hr, k.ap, k.gh, k.g2, k.h1, k.k1, fun a e hn => k.k2 a e (hk ▸ hn), k.lo1, k.lo2, k.be.trans (ht.below (fun x hx hn => ?_) k.be.size)⟩
  · rintro (e | e)
    · exact k.gh e
    · exact k.g2 e
  · rintro a e hn (e' | e')
    · exact (k.k1 a e hn).1 e'
    · exact (k.k1 a e hn).2 e'
  · rintro x _ hs (e | e)
    · exact k.h1 (e ▸ hs)
    · exact k.ap x hs e
  · have := k.lo2 x hn; omega
end
theorem blow_ks (p : Pw) : p.blow.ks = p.ks := by unfold Pw.blow; split <;> rfl
theorem BothP.start {w0 w : World} {g gd h gr q kc kc2 : Nat} {ko ko2 : Option Addr} {p p' : Pw} {S1 S2 : Nat → Prop} (k : BothP w0 w g gd h gr q ko ko2 kc kc2 p p' S1 S2) (o : Obj) :
    ∃ V1 V2, BothP w0 (w.alloc o) g gd h gr q ko ko2 kc kc2 p p' V1 V2 ∧ (∀ x, (w.alloc o).heap.size ≤ x → V1 x) ∧ ¬ V1 w.heap.size ∧ ¬ V2 w.heap.size := by
  have k1 := ((k.trim).new (below_alloc w o)).wide1
  refine ⟨_, _, k1, fun x hx => .inr hx, ?_, ?_⟩
  · rintro (hx | hx)
    · have := hx.2; omega
    · rw [World.size_alloc] at hx; omega
  · rintro ⟨hx, _⟩
    have := hx.2; omega
end Go.Proofs.YtacgmadgkmcmoaaGreatDoor
