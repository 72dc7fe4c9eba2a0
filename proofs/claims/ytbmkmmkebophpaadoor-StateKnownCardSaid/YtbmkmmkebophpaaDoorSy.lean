/- A state as an argument of a statement: taken apart. -/
import Derived.Test.YtbmkmmkebophpaaDoorSe
import Derived.Deep.Slices
import Derived.Deep.Strs
import Derived.Lib.SmallJoins
import Derived.OpenShut
namespace Go.Proofs.YtbmkmmkebophpaaDoor
open Go.ChangeShapes Go.WideShapes Go.RowKit Go.Deep
set_option linter.unusedVariables false

theorem arr19 (cs : Array Value) (h : cs.size = 19) : ∃ c0 c1 c2 c3 c4 c5 c6 c7 c8 c9 c10 c11 c12 c13 c14 c15 c16 c17 c18, cs = #[c0, c1, c2, c3, c4, c5, c6, c7, c8, c9, c10, c11, c12, c13, c14, c15, c16, c17, c18] := by
  obtain ⟨l⟩ := cs
  match l, h with
  | [c0, c1, c2, c3, c4, c5, c6, c7, c8, c9, c10, c11, c12, c13, c14, c15, c16, c17, c18], _ => exact ⟨c0, c1, c2, c3, c4, c5, c6, c7, c8, c9, c10, c11, c12, c13, c14, c15, c16, c17, c18, rfl⟩
theorem addr_flat {w : World} {a : Addr} {v : Value} (h : w.cell? (a.add 0) = some v) : ∃ b o, a = ⟨b, o, none⟩ := by
  obtain ⟨b, off, spot⟩ := a
  have hspot : spot = none := by simpa [Addr.add] using World.cell?_spot h
  subst hspot
  exact ⟨b, off, rfl⟩
section
variable {H : Type} {enc : TypeId × Value → H} {P : Program} {w : World} {base : Nat} {spare : Nat → Bool} {held : Bool}
theorem trod_field {t : TypeId} {fs : Array Field} {fuel : Nat} {cs : List Value} {x : DataW H × List MemPlace} (ht : P.underlying t = some (.struct fs)) (h : DataW.trod enc P w base spare held fuel t cs = some x) {i : Nat} {f : Field} (hi : fs[i]? = some f) :
    ∃ n y, DataW.trod enc P w base spare held n f.type ((cs.drop f.offset).take (P.cellsOf f.type)) = some y := by
  obtain ⟨xs, n, _, _, _, hlen, hf⟩ := DataW.trod_struct ht h
  obtain ⟨hlt, _⟩ := Array.getElem?_eq_some_iff.1 hi
  have := hf i f hi
  rw [List.getElem?_eq_getElem (by omega)] at this
  exact ⟨n, _, this⟩
theorem trod_elem {t e : TypeId} {k : Nat} {fuel : Nat} {cs : List Value} {x : DataW H × List MemPlace} (ht : P.underlying t = some (.array k e)) (h : DataW.trod enc P w base spare held fuel t cs = some x) {i : Nat} (hi : i < k) :
    ∃ n y, DataW.trod enc P w base spare held n e ((cs.drop (i * P.cellsOf e)).take (P.cellsOf e)) = some y := by
  obtain ⟨xs, n, _, _, _, hlen, hf⟩ := DataW.trod_array ht h
  have := hf i hi
  rw [List.getElem?_eq_getElem (by omega)] at this
  exact ⟨n, _, this⟩
end
section
variable {H : Type} {enc : TypeId × Value → H} {w : World} {base : Nat} {spare : Nat → Bool} {held : Bool}
theorem open_player {n : Nat} {c0 c1 c2 c3 c4 c5 c6 : Value} {y : DataW H × List MemPlace} (h : DataW.trod enc Tryd.prog w base spare held n 24 [c0, c1, c2, c3, c4, c5, c6] = some y) :
    ∃ p : Pl, p.fit ∧ c0 = .int .i32 p.x ∧ c1 = .int .i32 p.y ∧ c2 = .int .i32 p.vx ∧ c3 = .int .i32 p.vy ∧ c4 = .int .u8 (p.h : Int) ∧ c5 = .int .u8 (p.c : Int) ∧ c6 = .int .u8 (p.f : Int) := by
  have qi : Tryd.prog.cellsOf 21 = 1 := by kernel_rfl
  have qb : Tryd.prog.cellsOf 5 = 1 := by kernel_rfl
  obtain ⟨n0, y0, h0⟩ := trod_field Tryd.underlying24 h (i := 0) rfl
  obtain ⟨z0, e0, _, w0⟩ := DataW.trod_int Tryd.underlying21 h0
  simp [qi] at e0
  subst e0
  obtain ⟨n1, y1, h1⟩ := trod_field Tryd.underlying24 h (i := 1) rfl
  obtain ⟨z1, e1, _, w1⟩ := DataW.trod_int Tryd.underlying21 h1
  simp [qi] at e1
  subst e1
  obtain ⟨n2, y2, h2⟩ := trod_field Tryd.underlying24 h (i := 2) rfl
  obtain ⟨z2, e2, _, w2⟩ := DataW.trod_int Tryd.underlying21 h2
  simp [qi] at e2
  subst e2
  obtain ⟨n3, y3, h3⟩ := trod_field Tryd.underlying24 h (i := 3) rfl
  obtain ⟨z3, e3, _, w3⟩ := DataW.trod_int Tryd.underlying21 h3
  simp [qi] at e3
  subst e3
  obtain ⟨n4, y4, h4⟩ := trod_field Tryd.underlying24 h (i := 4) rfl
  obtain ⟨z4, e4, _, w4⟩ := DataW.trod_int Tryd.underlying5 h4
  simp [qb] at e4
  subst e4
  obtain ⟨n5, y5, h5⟩ := trod_field Tryd.underlying24 h (i := 5) rfl
  obtain ⟨z5, e5, _, w5⟩ := DataW.trod_int Tryd.underlying5 h5
  simp [qb] at e5
  subst e5
  obtain ⟨n6, y6, h6⟩ := trod_field Tryd.underlying24 h (i := 6) rfl
  obtain ⟨z6, e6, _, w6⟩ := DataW.trod_int Tryd.underlying5 h6
  simp [qb] at e6
  subst e6
  have b0 := bounds_i32 w0
  have b1 := bounds_i32 w1
  have b2 := bounds_i32 w2
  have b3 := bounds_i32 w3
  have b4 := bounds_u8 w4
  have b5 := bounds_u8 w5
  have b6 := bounds_u8 w6
  refine ⟨⟨z0, z1, z2, z3, z4.toNat, z5.toNat, z6.toNat⟩, ⟨b0, b1, b2, b3, (by show z4.toNat < 256; omega), (by show z5.toNat < 256; omega), (by show z6.toNat < 256; omega)⟩, rfl, rfl, rfl, rfl, (by show Value.int .u8 z4 = .int .u8 (z4.toNat : Int); rw [Int.toNat_of_nonneg (by omega)]), (by show Value.int .u8 z5 = .int .u8 (z5.toNat : Int); rw [Int.toNat_of_nonneg (by omega)]), (by show Value.int .u8 z6 = .int .u8 (z6.toNat : Int); rw [Int.toNat_of_nonneg (by omega)])⟩
theorem open_shot {n : Nat} {c0 c1 c2 c3 c4 c5 : Value} {y : DataW H × List MemPlace} (h : DataW.trod enc Tryd.prog w base spare held n 46 [c0, c1, c2, c3, c4, c5] = some y) :
    ∃ p : Sh, p.fit ∧ c0 = .int .i32 p.x ∧ c1 = .int .i32 p.y ∧ c2 = .int .i32 p.vx ∧ c3 = .int .i32 p.vy ∧ c4 = .int .u8 (p.o : Int) ∧ c5 = .int .u8 (p.l : Int) := by
  have qi : Tryd.prog.cellsOf 21 = 1 := by kernel_rfl
  have qb : Tryd.prog.cellsOf 5 = 1 := by kernel_rfl
  obtain ⟨n0, y0, h0⟩ := trod_field Tryd.underlying46 h (i := 0) rfl
  obtain ⟨z0, e0, _, w0⟩ := DataW.trod_int Tryd.underlying21 h0
  simp [qi] at e0
  subst e0
  obtain ⟨n1, y1, h1⟩ := trod_field Tryd.underlying46 h (i := 1) rfl
  obtain ⟨z1, e1, _, w1⟩ := DataW.trod_int Tryd.underlying21 h1
  simp [qi] at e1
  subst e1
  obtain ⟨n2, y2, h2⟩ := trod_field Tryd.underlying46 h (i := 2) rfl
  obtain ⟨z2, e2, _, w2⟩ := DataW.trod_int Tryd.underlying21 h2
  simp [qi] at e2
  subst e2
  obtain ⟨n3, y3, h3⟩ := trod_field Tryd.underlying46 h (i := 3) rfl
  obtain ⟨z3, e3, _, w3⟩ := DataW.trod_int Tryd.underlying21 h3
  simp [qi] at e3
  subst e3
  obtain ⟨n4, y4, h4⟩ := trod_field Tryd.underlying46 h (i := 4) rfl
  obtain ⟨z4, e4, _, w4⟩ := DataW.trod_int Tryd.underlying5 h4
  simp [qb] at e4
  subst e4
  obtain ⟨n5, y5, h5⟩ := trod_field Tryd.underlying46 h (i := 5) rfl
  obtain ⟨z5, e5, _, w5⟩ := DataW.trod_int Tryd.underlying5 h5
  simp [qb] at e5
  subst e5
  have b0 := bounds_i32 w0
  have b1 := bounds_i32 w1
  have b2 := bounds_i32 w2
  have b3 := bounds_i32 w3
  have b4 := bounds_u8 w4
  have b5 := bounds_u8 w5
  refine ⟨⟨z0, z1, z2, z3, z4.toNat, z5.toNat⟩, ⟨b0, b1, b2, b3, (by show z4.toNat < 256; omega), (by show z5.toNat < 256; omega)⟩, rfl, rfl, rfl, rfl, (by show Value.int .u8 z4 = .int .u8 (z4.toNat : Int); rw [Int.toNat_of_nonneg (by omega)]), (by show Value.int .u8 z5 = .int .u8 (z5.toNat : Int); rw [Int.toNat_of_nonneg (by omega)])⟩
set_option maxRecDepth 20000 in
theorem open_shots {n : Nat} {cs : List Value} {y : DataW H × List MemPlace} (h : DataW.trod enc Tryd.prog w base spare held n 26 cs = some y) :
    ∃ (l : List Sh) (ao : Option Addr) (cap : Nat), cs = [.slice ao l.length cap] ∧ l.length ≤ maxLen ∧ (ao = none → cap = 0) ∧ Shs w ao l := by
  rcases open_slice Tryd.underlying26 h with ⟨hcs, _⟩ | ⟨ad, len, cap, m, n, D, Pl, hcs, _, hl, hm, hmm, _, hel⟩
  · exact ⟨[], none, 0, hcs, by simp [maxLen], fun _ => rfl, fun k h => by simp at h⟩
  · have hlm : len ≤ m := by rw [hmm]; split <;> omega
    have hC : Tryd.prog.cellsOf 46 = 6 := by kernel_rfl
    have plain : 0 < len → ∃ b o, ad = ⟨b, o, none⟩ := fun h0 => by
      obtain ⟨cs, hcells, _⟩ := hel 0 (by omega)
      rw [hC] at hcells
      obtain ⟨_, hcl, hat⟩ := World.cells?_some hcells
      have h1 := hat 0 (by omega)
      rw [Deep.add_add, List.getElem?_eq_getElem (by omega)] at h1
      exact addr_flat h1
    have one : ∀ i, i < len → ∃ x : Sh, x.fit ∧ ∃ b o, some ad = some ⟨b, o, none⟩ ∧ ∀ j v, [Value.int .i32 x.x, .int .i32 x.y, .int .i32 x.vx, .int .i32 x.vy, .int .u8 (x.o : Int), .int .u8 (x.l : Int)][j]? = some v → w.cell? ⟨b, o + i * 6 + j, none⟩ = some v := by
      intro i hi
      obtain ⟨cs, hcells, ht⟩ := hel i (by omega)
      rw [hC] at hcells
      obtain ⟨_, hcl, hat⟩ := World.cells?_some hcells
      match cs, hcl with
      | [c0, c1, c2, c3, c4, c5], _ =>
        obtain ⟨x, hx, rfl, rfl, rfl, rfl, rfl, rfl⟩ := open_shot ht
        obtain ⟨b, o, rfl⟩ := plain (by omega)
        refine ⟨x, hx, b, o, rfl, fun j v hv => ?_⟩
        have hj : j < 6 := by
          rcases Nat.lt_or_ge j 6 with h1 | h1
          · exact h1
          · rw [List.getElem?_eq_none (by simpa using h1)] at hv; cases hv
        have := hat j (by omega)
        rw [Deep.add_add, Go.WideShapes.add_plain, hv, ← Nat.add_assoc] at this
        exact this
    refine ⟨(List.range len).pmap (fun i hi => Classical.choose (one i hi)) (fun i hi => List.mem_range.1 hi), some ad, cap, ?_, ?_, (fun e => by cases e), fun i hi => ?_⟩
    · rw [hcs]; simp
    · simp; omega
    · have hi2 : i < len := by simpa using hi
      have hx : ((List.range len).pmap (fun i hi => Classical.choose (one i hi)) (fun i hi => List.mem_range.1 hi))[i]'hi = Classical.choose (one i hi2) := by simp
      rw [hx]
      exact Classical.choose_spec (one i hi2)
set_option maxRecDepth 20000 in
/-- A state, by value: opened. -/
theorem open_state {r : Reach} {b0 : Nat} {v : Value} {d : DataW H} {p : List MemPlace} (hv : Value.okWide Tryd.prog w r b0 30 v) (h : DataW.Trod enc Tryd.prog w base spare held 30 v d p) :
    ∃ (s : St) (ao : Option Addr) (cap : Nat), v = sv s ao cap ∧ s.fit ∧ s.ss.length ≤ maxLen ∧ (ao = none → cap = 0) ∧ Shs w ao s.ss := by
  obtain ⟨cs, rfl, hsz⟩ := okWide_struct Tryd.underlying30 hv
  rw [show Tryd.prog.cellsOf 30 = 19 by kernel_rfl] at hsz
  obtain ⟨c0, c1, c2, c3, c4, c5, c6, c7, c8, c9, c10, c11, c12, c13, c14, c15, c16, c17, c18, rfl⟩ := arr19 cs hsz
  obtain ⟨fuel, hf⟩ := h
  have q64 : Tryd.prog.cellsOf 22 = 1 := by kernel_rfl
  have q16 : Tryd.prog.cellsOf 27 = 1 := by kernel_rfl
  have qp : Tryd.prog.cellsOf 24 = 7 := by kernel_rfl
  have qa : Tryd.prog.cellsOf 25 = 14 := by kernel_rfl
  have qs : Tryd.prog.cellsOf 26 = 1 := by kernel_rfl
  have qc : Tryd.prog.cellsOf 28 = 2 := by kernel_rfl
  obtain ⟨n0, y0, h0⟩ := trod_field Tryd.underlying30 hf (i := 0) rfl
  obtain ⟨n1, y1, h1⟩ := trod_field Tryd.underlying30 hf (i := 1) rfl
  obtain ⟨n2, y2, h2⟩ := trod_field Tryd.underlying30 hf (i := 2) rfl
  obtain ⟨n3, y3, h3⟩ := trod_field Tryd.underlying30 hf (i := 3) rfl
  obtain ⟨n4, y4, h4⟩ := trod_field Tryd.underlying30 hf (i := 4) rfl
  obtain ⟨z0, e0, _, w0⟩ := DataW.trod_int Tryd.underlying22 h0
  obtain ⟨z1, e1, _, w1⟩ := DataW.trod_int Tryd.underlying22 h1
  obtain ⟨l, ao, cap, e3, hl, hn, hs⟩ := open_shots h3
  obtain ⟨m0, x0, g0⟩ := trod_elem Tryd.underlying25 h2 (i := 0) (by omega)
  obtain ⟨m1, x1, g1⟩ := trod_elem Tryd.underlying25 h2 (i := 1) (by omega)
  obtain ⟨m2, x2, g2⟩ := trod_elem Tryd.underlying28 h4 (i := 0) (by omega)
  obtain ⟨m3, x3, g3⟩ := trod_elem Tryd.underlying28 h4 (i := 1) (by omega)
  simp [Value.cells, q64] at e0 e1
  simp [Value.cells, qs] at e3
  simp [Value.cells, qa, qp] at g0 g1
  simp [Value.cells, qc, q16] at g2 g3
  obtain ⟨z2, e4, _, w2⟩ := DataW.trod_int Tryd.underlying27 g2
  obtain ⟨z3, e5, _, w3⟩ := DataW.trod_int Tryd.underlying27 g3
  simp at e4 e5
  obtain ⟨p, hp, rfl, rfl, rfl, rfl, rfl, rfl, rfl⟩ := open_player g0
  obtain ⟨q, hq, rfl, rfl, rfl, rfl, rfl, rfl, rfl⟩ := open_player g1
  subst e0 e1 e3 e4 e5
  have b0 := bounds_u64 w0
  have b1 := bounds_u64 w1
  have b2 := bounds_u16 w2
  have b3 := bounds_u16 w3
  obtain ⟨k0, rfl⟩ := Int.eq_ofNat_of_zero_le b0.1
  obtain ⟨k1, rfl⟩ := Int.eq_ofNat_of_zero_le b1.1
  obtain ⟨k2, rfl⟩ := Int.eq_ofNat_of_zero_le b2.1
  obtain ⟨k3, rfl⟩ := Int.eq_ofNat_of_zero_le b3.1
  exact ⟨⟨k0, k1, p, q, l, k2, k3⟩, ao, cap, rfl, ⟨by show k0 < _; omega, by show k1 < _; omega, hp, hq, fun x hx => by
    obtain ⟨i, hi, rfl⟩ := List.getElem_of_mem hx
    exact (hs i hi).1, by show k2 < _; omega, by show k3 < _; omega⟩, hl, hn, hs⟩
end
end Go.Proofs.YtbmkmmkebophpaaDoor
