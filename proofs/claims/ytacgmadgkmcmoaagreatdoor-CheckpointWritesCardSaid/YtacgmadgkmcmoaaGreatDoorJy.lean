/- Two states as an argument. -/
import Derived.Test.YtacgmadgkmcmoaaGreatDoorJs
import Derived.Test.YtacgmadgkmcmoaaGreatDoorJo
namespace Go.Proofs.YtacgmadgkmcmoaaGreatDoor
open Go.ChangeShapes Go.WideShapes Go.RowKit Go.Deep
set_option linter.unusedVariables false
set_option linter.unusedSimpArgs false
set_option maxRecDepth 20000
section
variable {H : Type} {enc : TypeId × Value → H} {w : World} {base : Nat} {spare : Nat → Bool} {held : Bool} {fuel : Nat}
theorem open_stl {n : Nat} {c0 c1 c2 c3 c4 c5 c6 c7 c8 c9 c10 c11 c12 c13 c14 c15 c16 c17 c18 : Value} {y : DataW H × List MemPlace} (hf : DataW.trod enc Tryz.prog w base spare held n 34 [c0, c1, c2, c3, c4, c5, c6, c7, c8, c9, c10, c11, c12, c13, c14, c15, c16, c17, c18] = some y) :
    ∃ (s : St) (ao : Option Addr) (cap : Nat), [c0, c1, c2, c3, c4, c5, c6, c7, c8, c9, c10, c11, c12, c13, c14, c15, c16, c17, c18] = (stc s ao cap).toList ∧ s.fit ∧ s.ss.length ≤ maxLen ∧ (ao = none → cap = 0) ∧ Shs w ao s.ss := by
  have q64 : Tryz.prog.cellsOf 27 = 1 := by kernel_rfl
  have q16 : Tryz.prog.cellsOf 23 = 1 := by kernel_rfl
  have qp : Tryz.prog.cellsOf 29 = 7 := by kernel_rfl
  have qa : Tryz.prog.cellsOf 30 = 14 := by kernel_rfl
  have qs : Tryz.prog.cellsOf 31 = 1 := by kernel_rfl
  have qc : Tryz.prog.cellsOf 32 = 2 := by kernel_rfl
  obtain ⟨n0, y0, h0⟩ := trod_field Tryz.underlying34 hf (i := 0) rfl
  obtain ⟨n1, y1, h1⟩ := trod_field Tryz.underlying34 hf (i := 1) rfl
  obtain ⟨n2, y2, h2⟩ := trod_field Tryz.underlying34 hf (i := 2) rfl
  obtain ⟨n3, y3, h3⟩ := trod_field Tryz.underlying34 hf (i := 3) rfl
  obtain ⟨n4, y4, h4⟩ := trod_field Tryz.underlying34 hf (i := 4) rfl
  obtain ⟨z0, e0, _, w0⟩ := DataW.trod_int Tryz.underlying27 h0
  obtain ⟨z1, e1, _, w1⟩ := DataW.trod_int Tryz.underlying27 h1
  obtain ⟨l, ao, cap, e3, hl, hn, hs⟩ := open_shots h3
  obtain ⟨m0, x0, g0⟩ := trod_elem Tryz.underlying30 h2 (i := 0) (by omega)
  obtain ⟨m1, x1, g1⟩ := trod_elem Tryz.underlying30 h2 (i := 1) (by omega)
  obtain ⟨m2, x2, g2⟩ := trod_elem Tryz.underlying32 h4 (i := 0) (by omega)
  obtain ⟨m3, x3, g3⟩ := trod_elem Tryz.underlying32 h4 (i := 1) (by omega)
  simp [Value.cells, q64] at e0 e1
  simp [Value.cells, qs] at e3
  simp [Value.cells, qa, qp] at g0 g1
  simp [Value.cells, qc, q16] at g2 g3
  obtain ⟨z2, e4, _, w2⟩ := DataW.trod_int Tryz.underlying23 g2
  obtain ⟨z3, e5, _, w3⟩ := DataW.trod_int Tryz.underlying23 g3
  simp at e4 e5
  obtain ⟨p, hp, rfl, rfl, rfl, rfl, rfl, rfl, rfl⟩ := open_player g0
  obtain ⟨q, hq, rfl, rfl, rfl, rfl, rfl, rfl, rfl⟩ := open_player g1
  subst e0 e1 e3 e4 e5
  have b0 := bounds_u64 w0
  have b1 := bounds_u64 w1
  have b2 := bounds_u16 w2
  have b3 := bounds_u16 w3
  obtain ⟨k0, rfl⟩ := Int.eq_ofNat_of_zero_le b0.1
  obtain ⟨k1, rfl⟩ := Int.eq_ofNat_of_zero_le b1.1
  obtain ⟨k2, rfl⟩ := Int.eq_ofNat_of_zero_le b2.1
  obtain ⟨k3, rfl⟩ := Int.eq_ofNat_of_zero_le b3.1
  exact ⟨⟨k0, k1, p, q, l, k2, k3⟩, ao, cap, rfl, ⟨by show k0 < _; omega, by show k1 < _; omega, hp, hq, fun x hx => by
    obtain ⟨i, hi, rfl⟩ := List.getElem_of_mem hx
    exact (hs i hi).1, by show k2 < _; omega, by show k3 < _; omega⟩, hl, hn, hs⟩
/-- Two states, by value. -/
theorem open_pair18 {r : Reach} {b0 : Nat} {v : Value} {d : DataW H} {p : List MemPlace} (hv : Value.okWide Tryz.prog w r b0 35 v) (h : DataW.Trod enc Tryz.prog w base spare held 35 v d p) :
    ∃ (s t : St) (ao : Option Addr) (ac : Nat) (bo : Option Addr) (bc : Nat), v = .agg (wcs s t ao ac bo bc) ∧ Shs w ao s.ss ∧ Shs w bo t.ss ∧ s.fit ∧ t.fit ∧ (ao = none → ac = 0) ∧ (bo = none → bc = 0) ∧ s.ss.length ≤ maxLen ∧ t.ss.length ≤ maxLen := by
  have hC : Tryz.prog.cellsOf 35 = 38 := by kernel_rfl
  have hce : Tryz.prog.cellsOf 34 = 19 := by kernel_rfl
  simp only [Value.okWide, Tryz.underlying35] at hv
  obtain ⟨cs, rfl, hsz, _⟩ := hv
  rw [hC] at hsz
  obtain ⟨l⟩ := cs
  obtain ⟨fuel, hf⟩ := h
  obtain ⟨m0, x0, g0⟩ := trod_elem Tryz.underlying35 hf (i := 0) (by omega)
  obtain ⟨m1, x1, g1⟩ := trod_elem Tryz.underlying35 hf (i := 1) (by omega)
  rw [hce] at g0 g1
  have hcl : (Value.cells (.agg ⟨l⟩)).toList = l := by simp [Value.cells]
  rw [hcl] at g0 g1
  have hsz2 : l.length = 38 := hsz
  obtain ⟨c0, c1, c2, c3, c4, c5, c6, c7, c8, c9, c10, c11, c12, c13, c14, c15, c16, c17, c18, hc⟩ := arr19 ((l.drop (0 * 19)).take 19).toArray (by simp; omega)
  obtain ⟨d0, d1, d2, d3, d4, d5, d6, d7, d8, d9, d10, d11, d12, d13, d14, d15, d16, d17, d18, hd⟩ := arr19 ((l.drop (1 * 19)).take 19).toArray (by simp; omega)
  have hc1 := congrArg Array.toList hc
  have hd1 := congrArg Array.toList hd
  simp only [List.toList_toArray] at hc1 hd1
  rw [hc1] at g0
  rw [hd1] at g1
  obtain ⟨s, ao, ac, es, fs, ls, ns, ss⟩ := open_stl g0
  obtain ⟨t, bo, bc, et, ft, lt, nt, st⟩ := open_stl g1
  have hl : l = (stc s ao ac).toList ++ (stc t bo bc).toList := by
    have h1 : l = l.take 19 ++ (l.drop 19).take 19 := by
      rw [List.take_of_length_le (l := l.drop 19) (by simp; omega), List.take_append_drop]
    rw [← es, ← et, ← hc1, ← hd1]
    simpa using h1
  exact ⟨s, t, ao, ac, bo, bc, by rw [hl]; rfl, ss, st, fs, ft, ns, nt, ls, lt⟩
end
end Go.Proofs.YtacgmadgkmcmoaaGreatDoor
