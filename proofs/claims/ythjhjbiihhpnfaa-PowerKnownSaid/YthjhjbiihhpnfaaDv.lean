/- The law's own helpers: some, torn, works. -/
import Derived.Test.YthjhjbiihhpnfaaDi
namespace Go.Proofs.Ythjhjbiihhpnfaa
open Go.RowKit Go.Shelf
set_option linter.unusedVariables false
set_option linter.unusedSimpArgs false
set_option maxRecDepth 100000

def nA : List UInt8 := [97]
def e0 : Ent := ⟨nA, [49, 50, 51, 52, 53], 3⟩
theorem strA : (⟨#[97]⟩ : ByteArray) = str nA := rfl
/-- What holds of the disk in a helper: in blocks from b on; below b nothing has turned. -/
structure Own (b : Nat) (w0 w : World) (v : Value) (q : Nat) (E : List Ent) : Prop where
  dk : DkS (fun x => b ≤ x) w v q E
  be : Below b w0 w
  le : b ≤ w0.heap.size
theorem Own.step {b : Nat} {w0 w w' : World} {v : Value} {q : Nat} {E E' : List Ent} (h : Own b w0 w v q E) (h1 : DkS (fun x => b ≤ x) w' v q E') (h2 : Tu (fun x => b ≤ x) w w') : Own b w0 w' v q E' :=
  ⟨h1, h.be.trans (h2.below (fun x hx => by omega) (Nat.le_trans h.le h.be.size)), h.le⟩
theorem Own.new {b : Nat} {w0 w w' : World} {v : Value} {q : Nat} {E : List Ent} (h : Own b w0 w v q E) (h1 : Below w.heap.size w w') : Own b w0 w' v q E :=
  ⟨h.dk.new h1, h.be.trans (h1.mono (Nat.le_trans h.le h.be.size)), h.le⟩
theorem Own.grow {b : Nat} {w0 w : World} {v : Value} {q : Nat} {E : List Ent} (h : Own b w0 w v q E) : ∀ x, w.heap.size ≤ x → b ≤ x := fun x hx => Nat.le_trans (Nat.le_trans h.le h.be.size) hx
theorem rd_one (f : Ent) (h : f.nm = nA) : rd [f] nA = f.bs ∧ sy [f] nA = f.su ∧ eFind [f] nA = 0 := by
  have hf : fnd nA [f] = some f := by simp [fndK, h]
  have hn : isNm nA = true := by decide
  exact ⟨by unfold rd; rw [hn, hf]; rfl, by unfold sy; rw [hn, hf]; rfl, by unfold eFind; rw [hn, hf]; rfl⟩
/-- What is left of it. -/
def tornB (ks : List Int) : List UInt8 := (tearE (numAt ks 0) e0).bs
theorem ints_none (w : World) : Ints w none [] := fun j h => by cases h
theorem ints_one (w : World) (k : Int) (h : -9223372036854775808 ≤ k ∧ k ≤ 9223372036854775807) : Ints (w.alloc (.cells #[.int .i64 k] 3)) (some ⟨w.heap.size, 0, none⟩) [k] := fun j hj => by
  have : j = 0 := by simp at hj; exact hj
  subst this
  exact ⟨w.heap.size, 0, rfl, by rw [(Cells.made w _ _).cell]; rfl, h⟩
theorem str_eq (l m : List UInt8) (h : l = m) : ((str l).toList == m) = true := by subst h; simp [str, ByteArray.toList_eq]
end Go.Proofs.Ythjhjbiihhpnfaa
