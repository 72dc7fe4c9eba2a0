/- SegmentTorn's arguments as they come in, and its row. -/
import Derived.Test.YthnelnfefllhpaaGreatDoorCh
import Derived.Test.YthnelnfefllhpaaGreatDoorQo
import Derived.Test.YthnelnfefllhpaaGreatDoorLaid
import Derived.Deep.Slices
import Derived.Deep.Strs
import Derived.Lib.SmallJoins
import Derived.OpenShut
namespace Go.Proofs.YthnelnfefllhpaaGreatDoor
open Go.ChangeShapes Go.WideShapes Go.RowKit Go.Deep
set_option linter.unusedVariables false
set_option maxRecDepth 20000

theorem n_u16 {n : Int} (h : (Lit.int .u16 n).wf = true) : ∃ k : Nat, n = k ∧ k < 65536 := by
  have h2 : (decide (0 ≤ n) && decide (n ≤ 65535)) = true := h
  simp only [Bool.and_eq_true, decide_eq_true_eq] at h2
  exact ⟨n.toNat, by omega, by omega⟩
section
variable {H : Type} {enc : TypeId × Value → H} {w : World} {base : Nat} {spare : Nat → Bool} {held : Bool} {fuel : Nat}
theorem open_u16s {c : Value} {x : DataW H × List MemPlace} (h : DataW.trod enc Tryz.prog w base spare held fuel 23 [c] = some x) : ∃ (ao : Option Addr) (ks : List Nat) (cap : Nat), c = .slice ao ks.length cap ∧ U16s w ao ks := by
  rcases open_ints Tryz.underlying23 Tryz.underlying59 (by kernel_rfl) h with ⟨hcs, _⟩ | ⟨ad, l, cp, zs, hcs, _, hl, hm, hz, _, hcell, hwz⟩
  · simp at hcs
    subst hcs
    exact ⟨none, [], 0, rfl, fun j h => by cases h⟩
  · simp at hcs
    subst hcs
    have hzl : l ≤ zs.length := by rw [hz]; split <;> omega
    have htl : ((zs.take l).map Int.toNat).length = l := by rw [List.length_map, List.length_take]; omega
    refine ⟨some ad, (zs.take l).map Int.toNat, cp, by rw [htl], fun j hj => ?_⟩
    rw [htl] at hj
    obtain ⟨b, o, rfl, hc⟩ := ints_at hcell (by omega)
    have hci := hc j (by omega)
    have hg : zs.getD j 0 = zs[j]'(by omega) := by simp [List.getD, List.getElem?_eq_getElem (show j < zs.length from by omega)]
    rw [hg] at hci
    obtain ⟨k, hk, hk2⟩ := n_u16 (hwz (zs[j]'(by omega)) (List.getElem_mem _))
    simp only [List.getElem_map, List.getElem_take]
    rw [hk] at hci ⊢
    exact ⟨by simpa using hk2, b, o, rfl, by simpa using hci⟩
theorem open_play {r : Reach} {b0 : Nat} {v : Value} {d : DataW H} {p : List MemPlace} (hv : Value.okWide Tryz.prog w r b0 25 v) (h : DataW.Trod enc Tryz.prog w base spare held 25 v d p) :
    ∃ (pl fi : Nat) (L : List Nat) (a : Option Addr) (acap : Nat), v = .agg #[.int .u8 (pl : Int), .int .u64 (fi : Int), .slice a L.length acap] ∧ pl < 256 ∧ fi < 18446744073709551616 ∧ U16s w a L := by
  obtain ⟨cs, rfl, hsz⟩ := okWide_struct Tryz.underlying25 hv
  rw [show Tryz.prog.cellsOf 25 = 3 by kernel_rfl] at hsz
  obtain ⟨c0, c1, c2, rfl⟩ : ∃ c0 c1 c2, cs = #[c0, c1, c2] := by
    obtain ⟨l⟩ := cs
    match l, hsz with
    | [c0, c1, c2], _ => exact ⟨c0, c1, c2, rfl⟩
  obtain ⟨fuel, hf⟩ := h
  have q8 : Tryz.prog.cellsOf 5 = 1 := by kernel_rfl
  have q64 : Tryz.prog.cellsOf 22 = 1 := by kernel_rfl
  have qs : Tryz.prog.cellsOf 23 = 1 := by kernel_rfl
  obtain ⟨n0, y0, h0⟩ := trod_field Tryz.underlying25 hf (i := 0) rfl
  obtain ⟨n1, y1, h1⟩ := trod_field Tryz.underlying25 hf (i := 1) rfl
  obtain ⟨n2, y2, h2⟩ := trod_field Tryz.underlying25 hf (i := 2) rfl
  obtain ⟨z0, e0, _, w0⟩ := DataW.trod_int Tryz.underlying5 h0
  obtain ⟨z1, e1, _, w1⟩ := DataW.trod_int Tryz.underlying22 h1
  simp [Value.cells, q8] at e0
  simp [Value.cells, q64] at e1
  simp [Value.cells, qs] at h2
  subst e0 e1
  obtain ⟨ao, ks, cap, rfl, hk⟩ := open_u16s h2
  obtain ⟨pl, rfl, hp⟩ := n_u8 w0
  obtain ⟨fi, rfl, hf1⟩ := n_u64 w1
  exact ⟨pl, fi, ks, ao, cap, rfl, hp, hf1, hk⟩
theorem open_il16 {c : Value} {x : DataW H × List MemPlace} (h : DataW.trod enc Tryz.prog w base spare held fuel 27 [c] = some x) : ∃ (ao : Option Addr) (ks : List Int) (cap : Nat), c = .slice ao ks.length cap ∧ ks.length ≤ maxLen ∧ Ints w ao ks := by
  rcases open_ints Tryz.underlying27 Tryz.underlying3 (by kernel_rfl) h with ⟨hcs, _⟩ | ⟨ad, l, cp, zs, hcs, _, hl, hm, hz, _, hcell, hwz⟩
  · simp at hcs
    subst hcs
    exact ⟨none, [], 0, rfl, by simp [maxLen], fun j h => by cases h⟩
  · simp at hcs
    subst hcs
    have hzl : l ≤ zs.length := by rw [hz]; split <;> omega
    have htl : (zs.take l).length = l := by rw [List.length_take]; omega
    refine ⟨some ad, zs.take l, cp, by rw [htl], by rw [htl]; omega, fun j hj => ?_⟩
    rw [htl] at hj
    obtain ⟨b, o, rfl, hc⟩ := ints_at hcell (by omega)
    have hci := hc j (by omega)
    have hg : zs.getD j 0 = zs[j]'(by omega) := by simp [List.getD, List.getElem?_eq_getElem (show j < zs.length from by omega)]
    rw [hg] at hci
    have hr := n_i64 (hwz (zs[j]'(by omega)) (List.getElem_mem _))
    refine ⟨b, o, rfl, ?_, ?_, ?_⟩
    · rw [hci, List.getElem_take]
    · rw [List.getElem_take]; exact hr.1
    · rw [List.getElem_take]; exact hr.2
theorem open_keep16 {r : Reach} {b0 : Nat} {v : Value} {d : DataW H} {p : List MemPlace} (hv : Value.okWide Tryz.prog w r b0 29 v) (h : DataW.Trod enc Tryz.prog w base spare held 29 v d p) :
    ∃ (ao : Option Addr) (ks : List Int) (cap : Nat), v = .agg #[.slice ao ks.length cap] ∧ ks.length ≤ maxLen ∧ Ints w ao ks := by
  obtain ⟨cs, rfl, hsz⟩ := okWide_struct Tryz.underlying29 hv
  rw [show Tryz.prog.cellsOf 29 = 1 by kernel_rfl] at hsz
  obtain ⟨c0, rfl⟩ : ∃ c0, cs = #[c0] := by
    obtain ⟨l⟩ := cs
    match l, hsz with
    | [c0], _ => exact ⟨c0, rfl⟩
  obtain ⟨fuel, hf⟩ := h
  have qs : Tryz.prog.cellsOf 27 = 1 := by kernel_rfl
  obtain ⟨n0, y0, h0⟩ := trod_field Tryz.underlying29 hf (i := 0) rfl
  simp [Value.cells, qs] at h0
  obtain ⟨ao, ks, cap, rfl, hl, hk⟩ := open_il16 h0
  exact ⟨ao, ks, cap, rfl, hl, hk⟩
theorem open_at16 {r : Reach} {b0 : Nat} {v : Value} {d : DataW H} {p : List MemPlace} (hv : Value.okWide Tryz.prog w r b0 26 v) (h : DataW.Trod enc Tryz.prog w base spare held 26 v d p) :
    ∃ i j : Nat, v = .agg #[.int .u8 (i : Int), .int .u8 (j : Int)] ∧ i < 256 ∧ j < 256 := by
  have hC : Tryz.prog.cellsOf 26 = 2 := by kernel_rfl
  have q8 : Tryz.prog.cellsOf 5 = 1 := by kernel_rfl
  simp only [Value.okWide, Tryz.underlying26] at hv
  obtain ⟨cs, rfl, hsz, _⟩ := hv
  obtain ⟨c0, c1, rfl⟩ := Joins.array2 (hsz.trans hC)
  obtain ⟨fuel, hf⟩ := h
  obtain ⟨n0, y0, h0⟩ := trod_elem Tryz.underlying26 hf (i := 0) (by omega)
  obtain ⟨z0, e0, _, w0⟩ := DataW.trod_int Tryz.underlying5 h0
  obtain ⟨n1, y1, h1⟩ := trod_elem Tryz.underlying26 hf (i := 1) (by omega)
  obtain ⟨z1, e1, _, w1⟩ := DataW.trod_int Tryz.underlying5 h1
  simp [Value.cells, q8] at e0 e1
  subst e0 e1
  obtain ⟨i, rfl, hi⟩ := n_u8 w0
  obtain ⟨j, rfl, hj⟩ := n_u8 w1
  exact ⟨i, j, rfl, hi, hj⟩
end
theorem rowTorn (pl fi : Nat) (L : List Nat) (a : Option Addr) (acap a0 a1 : Nat) (ko : Option Addr) (ks : List Int) (kc : Nat) (W : World) (hp : pl < 256) (hf : fi < 18446744073709551616) (hU : U16s W a L) (h0 : a0 < 256) (h1 : a1 < 256) (hkl : ks.length ≤ maxLen) (hk : Ints W ko ks) (hL : laidMetH Tryz.prog laidList W) :
    Calls Tryz.prog 3 #[.agg #[.int .u8 (pl : Int), .int .u64 (fi : Int), .slice a L.length acap], .agg #[.int .u8 (a0 : Int), .int .u8 (a1 : Int)], .agg #[.slice ko ks.length kc]] W fun e w' => e = .returned (.bool true) ∧ Below W.heap.size W w' :=
  law_torn pl fi L a acap a0 a1 ko ks kc W hp hf hU h0 h1 hk hkl (tab_of_laid hL)
end Go.Proofs.YthnelnfefllhpaaGreatDoor
