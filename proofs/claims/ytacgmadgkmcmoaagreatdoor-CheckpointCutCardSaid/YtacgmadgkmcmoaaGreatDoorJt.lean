/- A cut as an argument; the row's walk. -/
import Derived.Test.YtacgmadgkmcmoaaGreatDoorJq
import Derived.Test.YtacgmadgkmcmoaaGreatDoorDs
import Derived.Test.YtacgmadgkmcmoaaGreatDoorLaid
namespace Go.Proofs.YtacgmadgkmcmoaaGreatDoor
open Go.ChangeShapes Go.WideShapes Go.RowKit Go.Deep
set_option linter.unusedVariables false
set_option linter.unusedSimpArgs false
set_option maxRecDepth 20000
section
variable {H : Type} {enc : TypeId × Value → H} {w : World} {base : Nat} {spare : Nat → Bool} {held : Bool} {fuel : Nat}
theorem open_u8s {c : Value} {x : DataW H × List MemPlace} (h : DataW.trod enc Tryz.prog w base spare held fuel 71 [c] = some x) : ∃ (a : Option Addr) (F : List Nat) (cap : Nat), c = .slice a F.length cap ∧ F.length ≤ maxLen ∧ U8s w a F := by
  rcases open_ints Tryz.underlying71 Tryz.underlying5 (by kernel_rfl) h with ⟨hcs, _⟩ | ⟨ad, len, c, zs, hcs, _, hl, hm, hz, _, hcell, hwz⟩
  · simp at hcs
    subst hcs
    exact ⟨none, [], 0, rfl, by simp [maxLen], fun i h => by simp at h⟩
  · simp at hcs
    subst hcs
    have hzl : len ≤ zs.length := by rw [hz]; split <;> omega
    have hel : ((zs.take len).map Int.toNat).length = len := by simp; omega
    refine ⟨some ad, (zs.take len).map Int.toNat, c, by rw [hel], by rw [hel]; omega, fun i hi => ?_⟩
    have hi2 : i < len := by rw [hel] at hi; omega
    obtain ⟨b, o, rfl, hc⟩ := ints_at hcell (by omega)
    have hci := hc i (by omega)
    have hw := hwz (zs[i]'(by omega)) (List.getElem_mem _)
    have hb := bounds_u8 hw
    have hg : zs.getD i 0 = zs[i]'(by omega) := by simp [List.getD, List.getElem?_eq_getElem (show i < zs.length from by omega)]
    rw [hg] at hci
    refine ⟨?_, b, o, rfl, ?_⟩
    · simp only [List.getElem_map, List.getElem_take]
      omega
    · rw [hci]
      simp only [List.getElem_map, List.getElem_take]
      rw [Int.toNat_of_nonneg (by omega)]
theorem open_cut {r : Reach} {b0 : Nat} {v : Value} {d : DataW H} {p : List MemPlace} (hv : Value.okWide Tryz.prog w r b0 73 v) (h : DataW.Trod enc Tryz.prog w base spare held 73 v d p) :
    ∃ (F : List Nat) (Ks : List Int) (fo : Option Addr) (fc : Nat) (ko : Option Addr) (kc : Nat) (z : Bool), v = .agg (ccs fo F.length fc ko Ks.length kc z) ∧ U8s w fo F ∧ F.length ≤ maxLen ∧ Ints w ko Ks ∧ Ks.length ≤ maxLen := by
  obtain ⟨cs, rfl, hsz⟩ := okWide_struct Tryz.underlying73 hv
  rw [show Tryz.prog.cellsOf 73 = 3 by kernel_rfl] at hsz
  obtain ⟨c0, c1, c2, rfl⟩ : ∃ c0 c1 c2, cs = #[c0, c1, c2] := by
    obtain ⟨l⟩ := cs
    match l, hsz with
    | [c0, c1, c2], _ => exact ⟨c0, c1, c2, rfl⟩
  obtain ⟨fuel, hf⟩ := h
  have qf : Tryz.prog.cellsOf 71 = 1 := by kernel_rfl
  have qk : Tryz.prog.cellsOf 24 = 1 := by kernel_rfl
  have qb : Tryz.prog.cellsOf 4 = 1 := by kernel_rfl
  obtain ⟨n0, y0, h0⟩ := trod_field Tryz.underlying73 hf (i := 0) rfl
  obtain ⟨n1, y1, h1⟩ := trod_field Tryz.underlying73 hf (i := 1) rfl
  obtain ⟨n2, y2, h2⟩ := trod_field Tryz.underlying73 hf (i := 2) rfl
  obtain ⟨z, e2, _⟩ := DataW.trod_bool Tryz.underlying4 h2
  simp [Value.cells, qf] at h0
  simp [Value.cells, qk] at h1
  simp [Value.cells, qb] at e2
  subst e2
  obtain ⟨fo, F, fc, rfl, hFl, hF⟩ := open_u8s h0
  obtain ⟨ko, Ks, kc, rfl, hKl, hK⟩ := open_il h1
  exact ⟨F, Ks, fo, fc, ko, kc, z, rfl, hF, hFl, hK, hKl⟩
end
end Go.Proofs.YtacgmadgkmcmoaaGreatDoor
