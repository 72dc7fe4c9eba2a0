/- A manifest as an argument of a statement: taken apart. -/
import Derived.Test.YtakejacamkdncaaGreatDoorMb
import Derived.Test.YtakejacamkdncaaGreatDoorAe
import Derived.Deep.Slices
import Derived.Deep.Strs
import Derived.Lib.SmallJoins
import Derived.OpenShut
namespace Go.Proofs.YtakejacamkdncaaGreatDoor
open Go.ChangeShapes Go.WideShapes Go.RowKit Go.Deep
set_option linter.unusedVariables false
set_option linter.unusedSimpArgs false
set_option maxRecDepth 20000
theorem b64n {n : Int} (h : (Lit.int .u64 n).wf = true) : ∃ k : Nat, n = k ∧ k < 18446744073709551616 := by
  have h2 : (decide (0 ≤ n) && decide (n ≤ 18446744073709551615)) = true := h
  simp only [Bool.and_eq_true, decide_eq_true_eq] at h2
  exact ⟨n.toNat, by omega, by omega⟩
theorem b8n {n : Int} (h : (Lit.int .u8 n).wf = true) : ∃ k : Nat, n = k ∧ k < 256 := by
  have h2 : (decide (0 ≤ n) && decide (n ≤ 255)) = true := h
  simp only [Bool.and_eq_true, decide_eq_true_eq] at h2
  exact ⟨n.toNat, by omega, by omega⟩
section
variable {H : Type} {enc : TypeId × Value → H} {w : World} {base : Nat} {spare : Nat → Bool} {held : Bool}
theorem open_part {n : Nat} {c0 c1 : Value} {y : DataW H × List MemPlace} (h : DataW.trod enc Tryz.prog w base spare held n 61 [c0, c1] = some y) :
    ∃ p : Nat × Nat, p.1 < 18446744073709551616 ∧ p.2 < 18446744073709551616 ∧ [c0, c1] = gpv p := by
  have q : Tryz.prog.cellsOf 30 = 1 := by kernel_rfl
  obtain ⟨n0, y0, h0⟩ := trod_field Tryz.underlying61 h (i := 0) rfl
  obtain ⟨n1, y1, h1⟩ := trod_field Tryz.underlying61 h (i := 1) rfl
  obtain ⟨z0, e0, _, w0⟩ := DataW.trod_int Tryz.underlying30 h0
  obtain ⟨z1, e1, _, w1⟩ := DataW.trod_int Tryz.underlying30 h1
  simp [q] at e0 e1
  subst e0 e1
  obtain ⟨i, rfl, hi⟩ := b64n w0
  obtain ⟨j, rfl, hj⟩ := b64n w1
  exact ⟨(i, j), hi, hj, rfl⟩
theorem open_ps {fuel : Nat} {c : Value} {x : DataW H × List MemPlace} (h : DataW.trod enc Tryz.prog w base spare held fuel 31 [c] = some x) :
    ∃ (l : List (Nat × Nat)) (so : Option Addr) (sc : Nat), c = .slice so l.length sc ∧ sgFit l ∧ PsAt w so l ∧ l.length ≤ maxLen := by
  rcases open_slice Tryz.underlying31 h with ⟨hcs, _⟩ | ⟨ad, len, cap, m, n, D, Pl, hcs, _, hl, hm, hmm, _, hel⟩
  · simp at hcs
    subst hcs
    exact ⟨[], none, 0, rfl, (fun p h => by cases h), PsAt.nil _ _, by simp [maxLen]⟩
  · simp at hcs
    subst hcs
    have hlm : len ≤ m := by rw [hmm]; split <;> omega
    have hC : Tryz.prog.cellsOf 61 = 2 := by kernel_rfl
    have plain : 0 < len → ∃ b o, ad = ⟨b, o, none⟩ := fun h0 => by
      obtain ⟨cs, hcells, _⟩ := hel 0 (by omega)
      rw [hC] at hcells
      obtain ⟨_, hcl, hat⟩ := World.cells?_some hcells
      have h1 := hat 0 (by omega)
      rw [Deep.add_add, List.getElem?_eq_getElem (by omega)] at h1
      exact addr_flat h1
    have one : ∀ i, i < len → ∃ p : Nat × Nat, p.1 < 18446744073709551616 ∧ p.2 < 18446744073709551616 ∧ ∃ b o, some ad = some ⟨b, o, none⟩ ∧ ∀ j v, (gpv p)[j]? = some v → w.cell? ⟨b, o + i * 2 + j, none⟩ = some v := by
      intro i hi
      obtain ⟨cs, hcells, ht⟩ := hel i (by omega)
      rw [hC] at hcells
      obtain ⟨_, hcl, hat⟩ := World.cells?_some hcells
      match cs, hcl with
      | [c0, c1], _ =>
        obtain ⟨p, h0, h1, hp⟩ := open_part ht
        obtain ⟨b, o, rfl⟩ := plain (by omega)
        refine ⟨p, h0, h1, b, o, rfl, fun j v hv => ?_⟩
        rw [← hp] at hv
        have hj : j < 2 := by
          obtain ⟨hj, _⟩ := List.getElem?_eq_some_iff.1 hv
          simpa using hj
        have := hat j (by omega)
        rw [Deep.add_add, Go.WideShapes.add_plain, ← Nat.add_assoc] at this
        rw [this]; exact hv
    have hx : ∀ i (hi : i < ((List.range len).pmap (fun i hi => Classical.choose (one i hi)) (fun i hi => List.mem_range.1 hi)).length), ((List.range len).pmap (fun i hi => Classical.choose (one i hi)) (fun i hi => List.mem_range.1 hi))[i]'hi = Classical.choose (one i (by simpa using hi)) := fun i hi => by simp
    refine ⟨(List.range len).pmap (fun i hi => Classical.choose (one i hi)) (fun i hi => List.mem_range.1 hi), some ad, cap, by simp, fun p hp => ?_, fun i hi => ?_, by simp; omega⟩
    · obtain ⟨i, hi, rfl⟩ := List.getElem_of_mem hp
      rw [hx i hi]
      have := Classical.choose_spec (one i (by simpa using hi))
      exact ⟨this.1, this.2.1⟩
    · rw [hx i hi]
      exact (Classical.choose_spec (one i (by simpa using hi))).2.2
theorem open_ns {fuel : Nat} {c : Value} {x : DataW H × List MemPlace} (h : DataW.trod enc Tryz.prog w base spare held fuel 32 [c] = some x) :
    ∃ (l : List Nat) (co : Option Addr) (cc : Nat), c = .slice co l.length cc ∧ ckFit l ∧ NsAt w co l ∧ l.length ≤ maxLen ∧ (co = none → cc = 0) := by
  rcases open_slice Tryz.underlying32 h with ⟨hcs, _⟩ | ⟨ad, len, cap, m, n, D, Pl, hcs, _, hl, hm, hmm, _, hel⟩
  · simp at hcs
    subst hcs
    exact ⟨[], none, 0, rfl, (fun p h => by cases h), NsAt.nil _ _, by simp [maxLen], fun _ => rfl⟩
  · simp at hcs
    subst hcs
    have hlm : len ≤ m := by rw [hmm]; split <;> omega
    have hC : Tryz.prog.cellsOf 30 = 1 := by kernel_rfl
    have plain : 0 < len → ∃ b o, ad = ⟨b, o, none⟩ := fun h0 => by
      obtain ⟨cs, hcells, _⟩ := hel 0 (by omega)
      rw [hC] at hcells
      obtain ⟨_, hcl, hat⟩ := World.cells?_some hcells
      have h1 := hat 0 (by omega)
      rw [Deep.add_add, List.getElem?_eq_getElem (by omega)] at h1
      exact addr_flat h1
    have one : ∀ i, i < len → ∃ p : Nat, p < 18446744073709551616 ∧ ∃ b o, some ad = some ⟨b, o, none⟩ ∧ ∀ j v, (gnv p)[j]? = some v → w.cell? ⟨b, o + i * 1 + j, none⟩ = some v := by
      intro i hi
      obtain ⟨cs, hcells, ht⟩ := hel i (by omega)
      rw [hC] at hcells
      obtain ⟨_, hcl, hat⟩ := World.cells?_some hcells
      match cs, hcl with
      | [c0], _ =>
        obtain ⟨z0, e0, _, w0⟩ := DataW.trod_int Tryz.underlying30 ht
        simp at e0
        subst e0
        obtain ⟨p, rfl, hp⟩ := b64n w0
        obtain ⟨b, o, rfl⟩ := plain (by omega)
        refine ⟨p, hp, b, o, rfl, fun j v hv => ?_⟩
        have hj : j < 1 := by
          obtain ⟨hj, _⟩ := List.getElem?_eq_some_iff.1 hv
          simpa [gnv] using hj
        have := hat j (by omega)
        rw [Deep.add_add, Go.WideShapes.add_plain, ← Nat.add_assoc] at this
        rw [this]; exact hv
    have hx : ∀ i (hi : i < ((List.range len).pmap (fun i hi => Classical.choose (one i hi)) (fun i hi => List.mem_range.1 hi)).length), ((List.range len).pmap (fun i hi => Classical.choose (one i hi)) (fun i hi => List.mem_range.1 hi))[i]'hi = Classical.choose (one i (by simpa using hi)) := fun i hi => by simp
    refine ⟨(List.range len).pmap (fun i hi => Classical.choose (one i hi)) (fun i hi => List.mem_range.1 hi), some ad, cap, by simp, fun p hp => ?_, fun i hi => ?_, by simp; omega, fun e => by cases e⟩
    · obtain ⟨i, hi, rfl⟩ := List.getElem_of_mem hp
      rw [hx i hi]
      exact (Classical.choose_spec (one i (by simpa using hi))).1
    · rw [hx i hi]
      exact (Classical.choose_spec (one i (by simpa using hi))).2
theorem open_mf {n : Nat} {c0 c1 c2 c3 : Value} {y : DataW H × List MemPlace} (h : DataW.trod enc Tryz.prog w base spare held n 34 [c0, c1, c2, c3] = some y) :
    ∃ (m : Mf) (so : Option Addr) (sc : Nat) (co : Option Addr) (cc : Nat), #[c0, c1, c2, c3] = mcs m so sc co cc ∧ MfAt w m so co ∧ (co = none → cc = 0) := by
  have q64 : Tryz.prog.cellsOf 30 = 1 := by kernel_rfl
  have q8 : Tryz.prog.cellsOf 5 = 1 := by kernel_rfl
  have qp : Tryz.prog.cellsOf 31 = 1 := by kernel_rfl
  have qn : Tryz.prog.cellsOf 32 = 1 := by kernel_rfl
  obtain ⟨n0, y0, h0⟩ := trod_field Tryz.underlying34 h (i := 0) rfl
  obtain ⟨n1, y1, h1⟩ := trod_field Tryz.underlying34 h (i := 1) rfl
  obtain ⟨n2, y2, h2⟩ := trod_field Tryz.underlying34 h (i := 2) rfl
  obtain ⟨n3, y3, h3⟩ := trod_field Tryz.underlying34 h (i := 3) rfl
  obtain ⟨z0, e0, _, w0⟩ := DataW.trod_int Tryz.underlying30 h0
  obtain ⟨z1, e1, _, w1⟩ := DataW.trod_int Tryz.underlying5 h1
  simp [q64] at e0
  simp [q8] at e1
  simp [qp] at h2
  simp [qn] at h3
  subst e0 e1
  obtain ⟨e, rfl, he⟩ := b64n w0
  obtain ⟨p, rfl, hp⟩ := b8n w1
  obtain ⟨l, so, sc, rfl, hf, hps, hl⟩ := open_ps h2
  obtain ⟨k, co, cc, rfl, hkf, hns, hkl, hn⟩ := open_ns h3
  exact ⟨⟨e, p, l, k⟩, so, sc, co, cc, rfl, ⟨⟨he, hp, hf, hkf⟩, hps, hns, hl, hkl⟩, hn⟩
theorem open_man {r : Reach} {b0 : Nat} {v : Value} {d : DataW H} {p : List MemPlace} (hv : Value.okWide Tryz.prog w r b0 34 v) (h : DataW.Trod enc Tryz.prog w base spare held 34 v d p) :
    ∃ (m : Mf) (so : Option Addr) (sc : Nat) (co : Option Addr) (cc : Nat), v = .agg (mcs m so sc co cc) ∧ MfAt w m so co ∧ (co = none → cc = 0) := by
  obtain ⟨cs, rfl, hsz⟩ := okWide_struct Tryz.underlying34 hv
  rw [show Tryz.prog.cellsOf 34 = 4 by kernel_rfl] at hsz
  obtain ⟨c0, c1, c2, c3, rfl⟩ : ∃ c0 c1 c2 c3, cs = #[c0, c1, c2, c3] := by
    obtain ⟨l⟩ := cs
    match l, hsz with
    | [c0, c1, c2, c3], _ => exact ⟨c0, c1, c2, c3, rfl⟩
  obtain ⟨fuel, hf⟩ := h
  obtain ⟨m, so, sc, co, cc, he, hm, hn⟩ := open_mf hf
  exact ⟨m, so, sc, co, cc, by rw [he], hm, hn⟩
end
end Go.Proofs.YtakejacamkdncaaGreatDoor
