/- Records as they come in: taken apart; the rows' walks. -/
import Derived.Test.YthnelnfefllhpaaGreatDoorQz
import Derived.Deep.Slices
import Derived.Deep.Strs
import Derived.Lib.SmallJoins
import Derived.OpenShut
namespace Go.Proofs.YthnelnfefllhpaaGreatDoor
open Go.ChangeShapes Go.WideShapes Go.RowKit Go.Deep
set_option linter.unusedVariables false
set_option maxRecDepth 20000

theorem n_u8 {n : Int} (h : (Lit.int .u8 n).wf = true) : ∃ k : Nat, n = k ∧ k < 256 := by
  have h2 : (decide (0 ≤ n) && decide (n ≤ 255)) = true := h
  simp only [Bool.and_eq_true, decide_eq_true_eq] at h2
  exact ⟨n.toNat, by omega, by omega⟩
theorem n_u64 {n : Int} (h : (Lit.int .u64 n).wf = true) : ∃ k : Nat, n = k ∧ k < 18446744073709551616 := by
  have h2 : (decide (0 ≤ n) && decide (n ≤ 18446744073709551615)) = true := h
  simp only [Bool.and_eq_true, decide_eq_true_eq] at h2
  exact ⟨n.toNat, by omega, by omega⟩
theorem n_i64 {n : Int} (h : (Lit.int .i64 n).wf = true) : -9223372036854775808 ≤ n ∧ n ≤ 9223372036854775807 := by
  have h2 : (decide (-9223372036854775808 ≤ n) && decide (n ≤ 9223372036854775807)) = true := h
  simpa only [Bool.and_eq_true, decide_eq_true_eq] using h2
section
variable {H : Type} {enc : TypeId × Value → H} {w : World} {base : Nat} {spare : Nat → Bool} {held : Bool}
theorem open_pr {n : Nat} {c0 c1 : Value} {y : DataW H × List MemPlace} (h : DataW.trod enc Tryz.prog w base spare held n 41 [c0, c1] = some y) :
    ∃ i j : Nat, i < 256 ∧ j < 256 ∧ c0 = .int .u8 (i : Int) ∧ c1 = .int .u8 (j : Int) := by
  have qi : Tryz.prog.cellsOf 39 = 1 := by kernel_rfl
  obtain ⟨n0, y0, h0⟩ := trod_elem Tryz.underlying41 h (i := 0) (by omega)
  obtain ⟨z0, e0, _, w0⟩ := DataW.trod_int Tryz.underlying39 h0
  simp [qi] at e0
  obtain ⟨n1, y1, h1⟩ := trod_elem Tryz.underlying41 h (i := 1) (by omega)
  obtain ⟨z1, e1, _, w1⟩ := DataW.trod_int Tryz.underlying39 h1
  simp [qi] at e1
  obtain ⟨i, rfl, hi⟩ := n_u8 w0
  obtain ⟨j, rfl, hj⟩ := n_u8 w1
  exact ⟨i, j, hi, hj, e0, e1⟩
theorem open_rec {r : Reach} {b0 : Nat} {v : Value} {d : DataW H} {p : List MemPlace} (hv : Value.okWide Tryz.prog w r b0 43 v) (h : DataW.Trod enc Tryz.prog w base spare held 43 v d p) :
    ∃ x : Rc, v = .agg (rcs x) ∧ x.fit := by
  obtain ⟨cs, rfl, hsz⟩ := okWide_struct Tryz.underlying43 hv
  rw [show Tryz.prog.cellsOf 43 = 9 by kernel_rfl] at hsz
  obtain ⟨c0, c1, c2, c3, c4, c5, c6, c7, c8, rfl⟩ : ∃ c0 c1 c2 c3 c4 c5 c6 c7 c8, cs = #[c0, c1, c2, c3, c4, c5, c6, c7, c8] := by
    obtain ⟨l⟩ := cs
    match l, hsz with
    | [c0, c1, c2, c3, c4, c5, c6, c7, c8], _ => exact ⟨c0, c1, c2, c3, c4, c5, c6, c7, c8, rfl⟩
  obtain ⟨fuel, hf⟩ := h
  have qk : Tryz.prog.cellsOf 3 = 1 := by kernel_rfl
  have q64 : Tryz.prog.cellsOf 22 = 1 := by kernel_rfl
  have q8 : Tryz.prog.cellsOf 5 = 1 := by kernel_rfl
  have qi : Tryz.prog.cellsOf 39 = 1 := by kernel_rfl
  have qp : Tryz.prog.cellsOf 41 = 2 := by kernel_rfl
  obtain ⟨n0, y0, h0⟩ := trod_field Tryz.underlying43 hf (i := 0) rfl
  obtain ⟨n1, y1, h1⟩ := trod_field Tryz.underlying43 hf (i := 1) rfl
  obtain ⟨n2, y2, h2⟩ := trod_field Tryz.underlying43 hf (i := 2) rfl
  obtain ⟨n3, y3, h3⟩ := trod_field Tryz.underlying43 hf (i := 3) rfl
  obtain ⟨n4, y4, h4⟩ := trod_field Tryz.underlying43 hf (i := 4) rfl
  obtain ⟨n5, y5, h5⟩ := trod_field Tryz.underlying43 hf (i := 5) rfl
  obtain ⟨n6, y6, h6⟩ := trod_field Tryz.underlying43 hf (i := 6) rfl
  obtain ⟨n7, y7, h7⟩ := trod_field Tryz.underlying43 hf (i := 7) rfl
  obtain ⟨z0, e0, _, w0⟩ := DataW.trod_int Tryz.underlying3 h0
  obtain ⟨z1, e1, _, w1⟩ := DataW.trod_int Tryz.underlying22 h1
  obtain ⟨z2, e2, _, w2⟩ := DataW.trod_int Tryz.underlying39 h2
  obtain ⟨z4, e4, _, w4⟩ := DataW.trod_int Tryz.underlying22 h4
  obtain ⟨z5, e5, _, w5⟩ := DataW.trod_int Tryz.underlying22 h5
  obtain ⟨z6, e6, _, w6⟩ := DataW.trod_int Tryz.underlying22 h6
  obtain ⟨z7, e7, _, w7⟩ := DataW.trod_int Tryz.underlying5 h7
  simp [Value.cells, qp] at h3
  obtain ⟨i, j, hi, hj, rfl, rfl⟩ := open_pr h3
  simp [Value.cells, qk] at e0
  simp [Value.cells, q64] at e1 e4 e5 e6
  simp [Value.cells, qi] at e2
  simp [Value.cells, q8] at e7
  subst e0 e1 e2 e4 e5 e6 e7
  obtain ⟨a1, a2⟩ := n_i64 w0
  obtain ⟨f, rfl, hf1⟩ := n_u64 w1
  obtain ⟨o, rfl, ho⟩ := n_u8 w2
  obtain ⟨s, rfl, hs⟩ := n_u64 w4
  obtain ⟨fi, rfl, hi2⟩ := n_u64 w5
  obtain ⟨ep, rfl, he⟩ := n_u64 w6
  obtain ⟨y, rfl, hy⟩ := n_u8 w7
  exact ⟨⟨z0, f, o, i, j, s, fi, ep, y⟩, rfl, ⟨a1, a2, hf1, ho, hi, hj, hs, hi2, he, hy⟩⟩
end
theorem str_le {s : ByteArray} (h : s.size ≤ maxLen) : s.data.toList.length ≤ 9223372036854775807 := by
  have h2 : s.size ≤ 9223372036854775807 := Nat.le_trans h (by decide)
  simpa using h2
end Go.Proofs.YthnelnfefllhpaaGreatDoor
