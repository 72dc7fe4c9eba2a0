/- A play as it comes in: taken apart; SegmentBack's row. -/
import Derived.Test.YthnelnfefllhpaaDoorBv
import Derived.Test.YthnelnfefllhpaaDoorBo
import Derived.Test.YthnelnfefllhpaaDoorQo
import Derived.Test.YthnelnfefllhpaaDoorLaid
namespace Go.Proofs.YthnelnfefllhpaaDoor
open Go.ChangeShapes Go.WideShapes Go.RowKit Go.Deep
set_option linter.unusedVariables false
set_option maxRecDepth 20000

theorem n_u16 {n : Int} (h : (Lit.int .u16 n).wf = true) : ∃ k : Nat, n = k ∧ k < 65536 := by
  have h2 : (decide (0 ≤ n) && decide (n ≤ 65535)) = true := h
  simp only [Bool.and_eq_true, decide_eq_true_eq] at h2
  exact ⟨n.toNat, by omega, by omega⟩
section
variable {H : Type} {enc : TypeId × Value → H} {w : World} {base : Nat} {spare : Nat → Bool} {held : Bool} {fuel : Nat}
theorem open_u16s {c : Value} {x : DataW H × List MemPlace} (h : DataW.trod enc Tryd.prog w base spare held fuel 40 [c] = some x) : ∃ (ao : Option Addr) (ks : List Nat) (cap : Nat), c = .slice ao ks.length cap ∧ U16s w ao ks := by
  rcases open_ints Tryd.underlying40 Tryd.underlying43 (by kernel_rfl) h with ⟨hcs, _⟩ | ⟨ad, l, cp, zs, hcs, _, hl, hm, hz, _, hcell, hwz⟩
  · simp at hcs
    subst hcs
    exact ⟨none, [], 0, rfl, fun j h => by cases h⟩
  · simp at hcs
    subst hcs
    have hzl : l ≤ zs.length := by rw [hz]; split <;> omega
    have htl : ((zs.take l).map Int.toNat).length = l := by rw [List.length_map, List.length_take]; omega
    refine ⟨some ad, (zs.take l).map Int.toNat, cp, by rw [htl], fun j hj => ?_⟩
    rw [htl] at hj
    obtain ⟨b, o, rfl, hc⟩ := ints_at hcell (by omega)
    have hci := hc j (by omega)
    have hg : zs.getD j 0 = zs[j]'(by omega) := by simp [List.getD, List.getElem?_eq_getElem (show j < zs.length from by omega)]
    rw [hg] at hci
    obtain ⟨k, hk, hk2⟩ := n_u16 (hwz (zs[j]'(by omega)) (List.getElem_mem _))
    simp only [List.getElem_map, List.getElem_take]
    rw [hk] at hci ⊢
    exact ⟨by simpa using hk2, b, o, rfl, by simpa using hci⟩
theorem open_play {r : Reach} {b0 : Nat} {v : Value} {d : DataW H} {p : List MemPlace} (hv : Value.okWide Tryd.prog w r b0 42 v) (h : DataW.Trod enc Tryd.prog w base spare held 42 v d p) :
    ∃ (pl fi : Nat) (L : List Nat) (a : Option Addr) (acap : Nat), v = .agg #[.int .u8 (pl : Int), .int .u64 (fi : Int), .slice a L.length acap] ∧ pl < 256 ∧ fi < 18446744073709551616 ∧ U16s w a L := by
  obtain ⟨cs, rfl, hsz⟩ := okWide_struct Tryd.underlying42 hv
  rw [show Tryd.prog.cellsOf 42 = 3 by kernel_rfl] at hsz
  obtain ⟨c0, c1, c2, rfl⟩ : ∃ c0 c1 c2, cs = #[c0, c1, c2] := by
    obtain ⟨l⟩ := cs
    match l, hsz with
    | [c0, c1, c2], _ => exact ⟨c0, c1, c2, rfl⟩
  obtain ⟨fuel, hf⟩ := h
  have q8 : Tryd.prog.cellsOf 5 = 1 := by kernel_rfl
  have q64 : Tryd.prog.cellsOf 22 = 1 := by kernel_rfl
  have qs : Tryd.prog.cellsOf 40 = 1 := by kernel_rfl
  obtain ⟨n0, y0, h0⟩ := trod_field Tryd.underlying42 hf (i := 0) rfl
  obtain ⟨n1, y1, h1⟩ := trod_field Tryd.underlying42 hf (i := 1) rfl
  obtain ⟨n2, y2, h2⟩ := trod_field Tryd.underlying42 hf (i := 2) rfl
  obtain ⟨z0, e0, _, w0⟩ := DataW.trod_int Tryd.underlying5 h0
  obtain ⟨z1, e1, _, w1⟩ := DataW.trod_int Tryd.underlying22 h1
  simp [Value.cells, q8] at e0
  simp [Value.cells, q64] at e1
  simp [Value.cells, qs] at h2
  subst e0 e1
  obtain ⟨ao, ks, cap, rfl, hk⟩ := open_u16s h2
  obtain ⟨pl, rfl, hp⟩ := n_u8 w0
  obtain ⟨fi, rfl, hf1⟩ := n_u64 w1
  exact ⟨pl, fi, ks, ao, cap, rfl, hp, hf1, hk⟩
end
theorem rowCut16 (pl fi : Nat) (L : List Nat) (a : Option Addr) (acap : Nat) (cut : Int) (W : World) (hp : pl < 256) (hf : fi < 18446744073709551616) (hU : U16s W a L) (hc : (Lit.int .u16 cut).wf = true) (hL : laidMetH Tryd.prog laidList W) :
    Calls Tryd.prog 4 #[.agg #[.int .u8 (pl : Int), .int .u64 (fi : Int), .slice a L.length acap], .int .u16 cut] W fun e w' => e = .returned (.bool true) ∧ Below W.heap.size W w' := by
  obtain ⟨k, rfl, hk⟩ := n_u16 hc
  exact law_back pl fi L a acap k W hp hf hU hk (tab_of_laid hL)
end Go.Proofs.YthnelnfefllhpaaDoor
