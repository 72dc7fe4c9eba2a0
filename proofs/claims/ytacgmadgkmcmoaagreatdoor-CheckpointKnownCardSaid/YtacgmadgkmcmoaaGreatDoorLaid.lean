/- The program's two listed variables, crc's table and the table of bounds: from the row's condition to what the walks ask; the start that the door's own run leaves meets the condition. -/
import Derived.Test.YtacgmadgkmcmoaaGreatDoorAd
import Derived.Test.YtacgmadgkmcmoaaGreatDoorAb
import Derived.Test.YtacgmadgkmcmoaaGreatDoorRows
import Derived.Lib.LaidTab
import Derived.LaidMore
import Derived.JoinedTies
import Derived.ChangeSame
import Derived.KernelRfl
namespace Go.Proofs.YtacgmadgkmcmoaaGreatDoor
open Go.RowKit
set_option linter.unusedVariables false

noncomputable def laidList : List (String × DataW Unit) := [("hindcast/crc.fourSteps", Rows.laid_hindcast_crc_fourSteps), ("hindcast/state.bounds", Rows.laid_hindcast_state_bounds)]
def fours : List Int := [0, 498536548, 997073096, 651767980, 1994146192, 1802195444, 1303535960, 1342533948, 3988292384, 4027552580, 3604390888, 3412177804, 2607071920, 2262029012, 2685067896, 3183342108]
theorem fours_nib : ∀ i : Nat, i < 16 → fours.getD i 0 = ((nib i : Nat) : Int) := by decide +kernel
theorem gFours : Tryz.prog.globalNamed "hindcast/crc.fourSteps" = some 1 := by kernel_rfl
theorem tFours : (Tryz.prog.globals[1]?).map (·.type) = some 278 := by kernel_rfl
theorem cFours : Tryz.prog.cellsOf 278 = 16 := by kernel_rfl
theorem cU32 : Tryz.prog.cellsOf 104 = 1 := by kernel_rfl
theorem gBounds : Tryz.prog.globalNamed "hindcast/state.bounds" = some 0 := by kernel_rfl
theorem tBounds : (Tryz.prog.globals[0]?).map (·.type) = some 227 := by kernel_rfl
theorem cBounds : Tryz.prog.cellsOf 227 = 26 := by kernel_rfl
theorem cBound : Tryz.prog.cellsOf 226 = 2 := by kernel_rfl
theorem cI32 : Tryz.prog.cellsOf 21 = 1 := by kernel_rfl
theorem pair_trod {H : Type} {enc : TypeId × Value → H} {w : World} {base : Nat} {sp : Nat → Bool} {held : Bool} {fuel : Nat} {cs : List Value} {a b : Int} {p : List MemPlace}
    (h : DataW.trod enc Tryz.prog w base sp held fuel 226 cs = some (.agg [.lit (.int .i32 a), .lit (.int .i32 b)], p)) : cs[0]? = some (.int .i32 a) ∧ cs[1]? = some (.int .i32 b) := by
  obtain ⟨y0, y1, n, hx, hl, h0, h1⟩ := Go.ChangeShapes.trod_struct2 Tryz.underlying226 h
  obtain ⟨z0, e0, rfl, _⟩ := DataW.trod_int Tryz.underlying21 h0
  obtain ⟨z1, e1, rfl, _⟩ := DataW.trod_int Tryz.underlying21 h1
  simp at hx
  obtain ⟨⟨rfl, rfl⟩, _⟩ := hx
  rw [cI32] at e0 e1
  refine ⟨?_, ?_⟩
  · have := congrArg (·[0]?) e0
    simpa [List.getElem?_take, List.getElem?_drop] using this
  · have := congrArg (·[0]?) e1
    simpa [List.getElem?_take, List.getElem?_drop] using this
theorem laid_bds {H : Type} : (Rows.laid_hindcast_state_bounds : DataW H) = .agg (bds.map fun x => .agg [.lit (.int .i32 x.1), .lit (.int .i32 x.2)]) := rfl
theorem cells_of_pairs {H : Type} {enc : TypeId × Value → H} {w : World} {base : Nat} {sp : Nat → Bool} {held : Bool} {fuel : Nat} {cs : List Value} {p : List MemPlace}
    (h : DataW.trod enc Tryz.prog w base sp held fuel 227 cs = some (Rows.laid_hindcast_state_bounds, p)) : ∀ i, i < 13 → cs[i * 2]? = some (.int .i32 (lo i)) ∧ cs[i * 2 + 1]? = some (.int .i32 (hi i)) := fun i hi => by
  rw [laid_bds] at h
  cases fuel with
  | zero => simp [DataW.trod] at h
  | succ fuel =>
    simp only [DataW.trod, Tryz.underlying227, cBound] at h
    split at h
    · obtain ⟨xs, hm, hx⟩ := Option.map_eq_some_iff.1 h
      have hxs : xs.map (·.1) = bds.map fun x => (DataW.agg [.lit (.int .i32 x.1), .lit (.int .i32 x.2)] : DataW H) := by
        have := congrArg Prod.fst hx
        simpa using this
      obtain ⟨b, hb, hf⟩ := Lib.mapM_at hm i i (by simp [hi])
      have h2 : (xs.map (·.1))[i]? = some b.1 := by simp [hb]
      rw [hxs, List.getElem?_map] at h2
      have hbd : bds[i]? = some (lo i, _root_.Go.Proofs.YtacgmadgkmcmoaaGreatDoor.hi i) := by
        have hl : i < bds.length := hi
        rw [List.getElem?_eq_getElem hl]
        simp [lo, Go.Proofs.YtacgmadgkmcmoaaGreatDoor.hi, List.getD, List.getElem?_eq_getElem hl]
      rw [hbd] at h2
      simp only [Option.map_some, Option.some.injEq] at h2
      obtain ⟨b1, b2⟩ := b
      dsimp only at h2
      subst h2
      obtain ⟨k0, k1⟩ := pair_trod hf
      refine ⟨?_, ?_⟩
      · simpa [List.getElem?_take, List.getElem?_drop] using k0
      · simpa [List.getElem?_take, List.getElem?_drop] using k1
    · cases h
theorem tab_of_laid {W : World} (h : laidMetH Tryz.prog laidList W) : Tab W := by
  rw [MakeChecks.laidMetH_plain _ _ _ (by kernel_rfl)] at h
  have hT := Lib.tabIs_of_head (k := .u32) (zs := fours) (rest := [("hindcast/state.bounds", Rows.laid_hindcast_state_bounds)]) gFours tFours Tryz.underlying278 Tryz.underlying104 cU32 cFours h
  have hc : ∀ i : Nat, i < 16 → W.cell? ⟨1, i, none⟩ = some (.int .u32 ((nib i : Nat) : Int)) := fun i hi => by
    rw [hT.cell gFours i hi, fours_nib i hi]
  exact ⟨World.block_lt_of_cell? W _ (hc 0 (by omega)), hc⟩
theorem btab_of_laid {W : World} (h : laidMetH Tryz.prog laidList W) : BTab W := by
  rw [MakeChecks.laidMetH_plain _ _ _ (by kernel_rfl)] at h
  obtain ⟨ps, ⟨g, t, cs, fuel, p, q, hg, ht, hvar, hd, ⟨g2, t2, cs2, fuel2, p2, q2, hg2, ht2, hvar2, hd2, _, _⟩, _⟩, _⟩ := h
  obtain rfl := Option.some.inj (gBounds.symm.trans hg2)
  obtain rfl := Option.some.inj (tBounds.symm.trans ht2)
  have hc := cells_of_pairs hd2
  have cell : ∀ (i : Nat) (v : Value), cs2.toList[i]? = some v → W.cell? ⟨0, i, none⟩ = some v := fun i v hv => by
    have := World.var?_cell gBounds hvar2 i
    rw [this]
    simpa using hv
  exact ⟨World.block_lt_of_cell? W _ (cell _ _ (hc 0 (by omega)).1), fun i hi => ⟨cell _ _ (hc i hi).1, cell _ _ (hc i hi).2⟩⟩
theorem door_met (os : Os) (args : Array Value) : laidMetH Tryz.prog laidList ((World.doorLaid Tryz.prog 32 os).forCall (fun _ _ => 0) ⟨#[], args, []⟩).memory :=
  laidMetH_of_parts3 (fuel := 8) (laidMet_of_run' 8 (by kernel_rfl) (by kernel_rfl)) (by kernel_rfl) (by kernel_rfl)
end Go.Proofs.YtacgmadgkmcmoaaGreatDoor
