/- Frames as an argument; the row's walk of Loads. -/
import Derived.Test.YtacgmadgkmcmoaaGreatDoorJs
import Derived.Test.YtacgmadgkmcmoaaGreatDoorJp
namespace Go.Proofs.YtacgmadgkmcmoaaGreatDoor
open Go.ChangeShapes Go.WideShapes Go.RowKit Go.Deep
set_option linter.unusedVariables false
set_option linter.unusedSimpArgs false
set_option maxRecDepth 20000
section
variable {H : Type} {enc : TypeId × Value → H} {w : World} {base : Nat} {spare : Nat → Bool} {held : Bool} {fuel : Nat}
/-- Frames as they come in. -/
def UArg (w : World) (a : Option Addr) (len : Nat) (l : List Nat) : Prop := l.length = len ∧ len ≤ maxLen ∧ Us w a l
theorem open_us {a : Option Addr} {len cap : Nat} {x : DataW H × List MemPlace} (h : DataW.trod enc Tryz.prog w base spare held fuel 61 (Value.cells (.slice a len cap)).toList = some x) : ∃ l, UArg w a len l := by
  rcases open_ints Tryz.underlying61 Tryz.underlying27 (by kernel_rfl) h with ⟨hcs, _⟩ | ⟨ad, l, c, zs, hcs, _, hl, hm, hz, _, hcell, hwz⟩
  · simp [Value.cells] at hcs
    obtain ⟨rfl, rfl, rfl⟩ := hcs
    exact ⟨[], rfl, by simp [maxLen], fun i h => by simp at h⟩
  · simp [Value.cells] at hcs
    obtain ⟨rfl, rfl, rfl⟩ := hcs
    have hzl : len ≤ zs.length := by rw [hz]; split <;> omega
    refine ⟨(zs.take len).map Int.toNat, by simp; omega, by omega, fun i hi => ?_⟩
    have hi2 : i < len := by simp at hi; omega
    obtain ⟨b, o, rfl, hc⟩ := ints_at hcell (by omega)
    have hci := hc i (by omega)
    have hw := hwz (zs[i]'(by omega)) (List.getElem_mem _)
    have hb := bounds_u64 hw
    have hg : zs.getD i 0 = zs[i]'(by omega) := by simp [List.getD, List.getElem?_eq_getElem (show i < zs.length from by omega)]
    rw [hg] at hci
    refine ⟨?_, b, o, rfl, ?_⟩
    · simp only [List.getElem_map, List.getElem_take]
      omega
    · rw [hci]
      simp only [List.getElem_map, List.getElem_take]
      rw [Int.toNat_of_nonneg (by omega)]
end
theorem rowLoads (x : Stu) (lo : Option Addr) (lc : Nat) (ko : Option Addr) (kc : Nat) (f : Int) (a : Option Addr) (len cap : Nat) (z : List Nat) (w : World) (h : SuAt w x lo ko) (hf : (Lit.int .u64 f).wf = true) (hz : UArg w a len z) (hL : laidMetH Tryz.prog laidList w) :
    Calls Tryz.prog 4 #[.agg (scs x lo lc ko kc), .int .u64 f, .slice a len cap] w fun E w' => E = .returned (.bool true) ∧ Below w.heap.size w w' := by
  obtain ⟨rfl, hl, hu⟩ := hz
  have b := bounds_u64 hf
  obtain ⟨k, rfl⟩ := Int.eq_ofNat_of_zero_le b.1
  exact law_loads x lo lc ko kc k z a cap w h (by omega) hu hl (tab_of_laid hL) (btab_of_laid hL)
end Go.Proofs.YtacgmadgkmcmoaaGreatDoor
