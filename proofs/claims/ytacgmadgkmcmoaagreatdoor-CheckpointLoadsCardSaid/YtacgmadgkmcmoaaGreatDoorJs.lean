/- The arguments of layer 18's statements as they come in: a setup, two states, frames; the rows' walks. -/
import Derived.Test.YtacgmadgkmcmoaaGreatDoorJn
import Derived.Test.YtacgmadgkmcmoaaGreatDoorDs
import Derived.Test.YtacgmadgkmcmoaaGreatDoorLaid
namespace Go.Proofs.YtacgmadgkmcmoaaGreatDoor
open Go.ChangeShapes Go.WideShapes Go.RowKit Go.Deep
set_option linter.unusedVariables false
set_option linter.unusedSimpArgs false
set_option maxRecDepth 20000
section
variable {H : Type} {enc : TypeId × Value → H} {w : World} {base : Nat} {spare : Nat → Bool} {held : Bool} {fuel : Nat}
theorem open_file {n : Nat} {c0 c1 : Value} {y : DataW H × List MemPlace} (h : DataW.trod enc Tryz.prog w base spare held n 86 [c0, c1] = some y) :
    ∃ f : List UInt8 × List UInt8, f.1.length ≤ maxLen ∧ f.2.length ≤ maxLen ∧ c0 = .string (str f.1) ∧ c1 = .string (str f.2) := by
  have qs : Tryz.prog.cellsOf 9 = 1 := by kernel_rfl
  obtain ⟨n1, y1, h1⟩ := trod_field Tryz.underlying86 h (i := 0) rfl
  obtain ⟨n2, y2, h2⟩ := trod_field Tryz.underlying86 h (i := 1) rfl
  obtain ⟨s1, e1, _, w1⟩ := DataW.trod_string Tryz.underlying9 h1
  obtain ⟨s2, e2, _, w2⟩ := DataW.trod_string Tryz.underlying9 h2
  simp [Value.cells, qs] at e1 e2
  subst e1 e2
  refine ⟨(s1.data.toList, s2.data.toList), by simpa using w1, by simpa using w2, ?_, ?_⟩
  · rw [← str_of]
  · rw [← str_of]
theorem open_files {c : Value} {x : DataW H × List MemPlace} (h : DataW.trod enc Tryz.prog w base spare held fuel 22 [c] = some x) : ∃ (a : Option Addr) (l : List (List UInt8 × List UInt8)) (cap : Nat), c = .slice a l.length cap ∧ l.length ≤ maxLen ∧ FsAt w a l := by
  rcases open_slice Tryz.underlying22 h with ⟨hcs, _⟩ | ⟨ad, len, cap, m, n, D, Pl, hcs, _, hl, hm, hmm, _, hel⟩
  · simp at hcs
    subst hcs
    exact ⟨none, [], 0, rfl, by simp [maxLen], fun k h => by simp at h⟩
  · simp at hcs
    subst hcs
    have hlm : len ≤ m := by rw [hmm]; split <;> omega
    have hC : Tryz.prog.cellsOf 86 = 2 := by kernel_rfl
    have plain : 0 < len → ∃ b o, ad = ⟨b, o, none⟩ := fun h0 => by
      obtain ⟨cs, hcells, _⟩ := hel 0 (by omega)
      rw [hC] at hcells
      obtain ⟨_, hcl, hat⟩ := World.cells?_some hcells
      have h1 := hat 0 (by omega)
      rw [Deep.add_add, List.getElem?_eq_getElem (by omega)] at h1
      exact addr_flat h1
    have one : ∀ i, i < len → ∃ f : List UInt8 × List UInt8, f.1.length ≤ maxLen ∧ f.2.length ≤ maxLen ∧ ∃ b o, some ad = some ⟨b, o, none⟩ ∧ w.cell? ⟨b, o + i * 2, none⟩ = some (.string (str f.1)) ∧ w.cell? ⟨b, o + i * 2 + 1, none⟩ = some (.string (str f.2)) := by
      intro i hi
      obtain ⟨cs, hcells, ht⟩ := hel i (by omega)
      rw [hC] at hcells
      obtain ⟨_, hcl, hat⟩ := World.cells?_some hcells
      match cs, hcl with
      | [c0, c1], _ =>
        obtain ⟨f, h1, h2, rfl, rfl⟩ := open_file ht
        obtain ⟨b, o, rfl⟩ := plain (by omega)
        have at_ : ∀ j v, ([.string (str f.1), .string (str f.2)] : List Value)[j]? = some v → w.cell? ⟨b, o + i * 2 + j, none⟩ = some v := fun j v hv => by
          have hj : j < 2 := by
            obtain ⟨hj, _⟩ := List.getElem?_eq_some_iff.1 hv
            simpa using hj
          have := hat j (by omega)
          rw [Deep.add_add, Go.WideShapes.add_plain, ← Nat.add_assoc] at this
          rw [this]
          exact hv
        exact ⟨f, h1, h2, b, o, rfl, at_ 0 _ rfl, at_ 1 _ rfl⟩
    refine ⟨some ad, (List.range len).pmap (fun i hi => Classical.choose (one i hi)) (fun i hi => List.mem_range.1 hi), cap, by simp, by simp; omega, fun i hi => ?_⟩
    have hi2 : i < len := by simpa using hi
    have hx : ((List.range len).pmap (fun i hi => Classical.choose (one i hi)) (fun i hi => List.mem_range.1 hi))[i]'hi = Classical.choose (one i hi2) := by simp
    rw [hx]
    exact Classical.choose_spec (one i hi2)
/-- A setup, by value. -/
theorem open_setup {r : Reach} {b0 : Nat} {v : Value} {d : DataW H} {p : List MemPlace} (hv : Value.okWide Tryz.prog w r b0 26 v) (h : DataW.Trod enc Tryz.prog w base spare held 26 v d p) :
    ∃ (x : Stu) (lo : Option Addr) (lc : Nat) (ko : Option Addr) (kc : Nat), v = .agg (scs x lo lc ko kc) ∧ SuAt w x lo ko := by
  obtain ⟨cs, rfl, hsz⟩ := okWide_struct Tryz.underlying26 hv
  rw [show Tryz.prog.cellsOf 26 = 4 by kernel_rfl] at hsz
  obtain ⟨c0, c1, c2, c3, rfl⟩ : ∃ c0 c1 c2 c3, cs = #[c0, c1, c2, c3] := by
    obtain ⟨l⟩ := cs
    match l, hsz with
    | [c0, c1, c2, c3], _ => exact ⟨c0, c1, c2, c3, rfl⟩
  obtain ⟨fuel, hf⟩ := h
  have qf : Tryz.prog.cellsOf 22 = 1 := by kernel_rfl
  have q16 : Tryz.prog.cellsOf 23 = 1 := by kernel_rfl
  have qi : Tryz.prog.cellsOf 3 = 1 := by kernel_rfl
  have qk : Tryz.prog.cellsOf 24 = 1 := by kernel_rfl
  obtain ⟨n0, y0, h0⟩ := trod_field Tryz.underlying26 hf (i := 0) rfl
  obtain ⟨n1, y1, h1⟩ := trod_field Tryz.underlying26 hf (i := 1) rfl
  obtain ⟨n2, y2, h2⟩ := trod_field Tryz.underlying26 hf (i := 2) rfl
  obtain ⟨n3, y3, h3⟩ := trod_field Tryz.underlying26 hf (i := 3) rfl
  obtain ⟨z1, e1, _, w1⟩ := DataW.trod_int Tryz.underlying23 h1
  obtain ⟨z2, e2, _, w2⟩ := DataW.trod_int Tryz.underlying3 h2
  simp [Value.cells, qf] at h0
  simp [Value.cells, q16] at e1
  simp [Value.cells, qi] at e2
  simp [Value.cells, qk] at h3
  subst e1 e2
  have b1 := bounds_u16 w1
  obtain ⟨k1, rfl⟩ := Int.eq_ofNat_of_zero_le b1.1
  obtain ⟨lo, L, lc, rfl, hL, hF⟩ := open_files h0
  obtain ⟨ko, ks, kc, rfl, hk, hi⟩ := open_il h3
  exact ⟨⟨L, k1, z2, ks⟩, lo, lc, ko, kc, rfl, hF, hL, hi, hk, by show k1 < _; omega⟩
end
end Go.Proofs.YtacgmadgkmcmoaaGreatDoor
