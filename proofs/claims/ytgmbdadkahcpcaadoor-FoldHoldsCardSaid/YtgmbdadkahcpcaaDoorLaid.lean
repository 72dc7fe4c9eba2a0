/- The program's two listed variables, the table of bounds and that of ways: from the row's condition to what the walks ask; the start that the door's own run leaves meets the condition. -/
import Derived.Test.YtgmbdadkahcpcaaDoorUf
import Derived.Test.YtgmbdadkahcpcaaDoorUq
import Derived.Test.YtgmbdadkahcpcaaDoorRows
import Derived.Lib.LaidTab
import Derived.LaidMore
import Derived.JoinedTies
import Derived.ChangeSame
import Derived.KernelRfl
namespace Go.Proofs.YtgmbdadkahcpcaaDoor
open Go.RowKit
set_option linter.unusedVariables false

noncomputable def laidList : List (String × DataW Unit) := [("hindcast/state.bounds", Rows.laid_hindcast_state_bounds), ("hindcast/step.faces", Rows.laid_hindcast_step_faces)]
theorem gBounds : Tryd.prog.globalNamed "hindcast/state.bounds" = some 0 := by kernel_rfl
theorem tBounds : (Tryd.prog.globals[0]?).map (·.type) = some 87 := by kernel_rfl
theorem cBounds : Tryd.prog.cellsOf 87 = 26 := by kernel_rfl
theorem cBound : Tryd.prog.cellsOf 86 = 2 := by kernel_rfl
theorem cI32 : Tryd.prog.cellsOf 21 = 1 := by kernel_rfl
theorem pair_trod {H : Type} {enc : TypeId × Value → H} {w : World} {base : Nat} {sp : Nat → Bool} {held : Bool} {fuel : Nat} {cs : List Value} {a b : Int} {p : List MemPlace}
    (h : DataW.trod enc Tryd.prog w base sp held fuel 86 cs = some (.agg [.lit (.int .i32 a), .lit (.int .i32 b)], p)) : cs[0]? = some (.int .i32 a) ∧ cs[1]? = some (.int .i32 b) := by
  obtain ⟨y0, y1, n, hx, hl, h0, h1⟩ := Go.ChangeShapes.trod_struct2 Tryd.underlying86 h
  obtain ⟨z0, e0, rfl, _⟩ := DataW.trod_int Tryd.underlying21 h0
  obtain ⟨z1, e1, rfl, _⟩ := DataW.trod_int Tryd.underlying21 h1
  simp at hx
  obtain ⟨⟨rfl, rfl⟩, _⟩ := hx
  rw [cI32] at e0 e1
  refine ⟨?_, ?_⟩
  · have := congrArg (·[0]?) e0
    simpa [List.getElem?_take, List.getElem?_drop] using this
  · have := congrArg (·[0]?) e1
    simpa [List.getElem?_take, List.getElem?_drop] using this
theorem laid_bds {H : Type} : (Rows.laid_hindcast_state_bounds : DataW H) = .agg (bds.map fun x => .agg [.lit (.int .i32 x.1), .lit (.int .i32 x.2)]) := rfl
theorem cells_of_pairs {H : Type} {enc : TypeId × Value → H} {w : World} {base : Nat} {sp : Nat → Bool} {held : Bool} {fuel : Nat} {cs : List Value} {p : List MemPlace}
    (h : DataW.trod enc Tryd.prog w base sp held fuel 87 cs = some (Rows.laid_hindcast_state_bounds, p)) : ∀ i, i < 13 → cs[i * 2]? = some (.int .i32 (lo i)) ∧ cs[i * 2 + 1]? = some (.int .i32 (hi i)) := fun i hi => by
  rw [laid_bds] at h
  cases fuel with
  | zero => simp [DataW.trod] at h
  | succ fuel =>
    simp only [DataW.trod, Tryd.underlying87, cBound] at h
    split at h
    · obtain ⟨xs, hm, hx⟩ := Option.map_eq_some_iff.1 h
      have hxs : xs.map (·.1) = bds.map fun x => (DataW.agg [.lit (.int .i32 x.1), .lit (.int .i32 x.2)] : DataW H) := by
        have := congrArg Prod.fst hx
        simpa using this
      obtain ⟨b, hb, hf⟩ := Lib.mapM_at hm i i (by simp [hi])
      have h2 : (xs.map (·.1))[i]? = some b.1 := by simp [hb]
      rw [hxs, List.getElem?_map] at h2
      have hbd : bds[i]? = some (lo i, _root_.Go.Proofs.YtgmbdadkahcpcaaDoor.hi i) := by
        have hl : i < bds.length := hi
        rw [List.getElem?_eq_getElem hl]
        simp [lo, Go.Proofs.YtgmbdadkahcpcaaDoor.hi, List.getD, List.getElem?_eq_getElem hl]
      rw [hbd] at h2
      simp only [Option.map_some, Option.some.injEq] at h2
      obtain ⟨b1, b2⟩ := b
      dsimp only at h2
      subst h2
      obtain ⟨k0, k1⟩ := pair_trod hf
      refine ⟨?_, ?_⟩
      · simpa [List.getElem?_take, List.getElem?_drop] using k0
      · simpa [List.getElem?_take, List.getElem?_drop] using k1
    · cases h
theorem gFaces : Tryd.prog.globalNamed "hindcast/step.faces" = some 1 := by kernel_rfl
theorem tFaces : (Tryd.prog.globals[1]?).map (·.type) = some 94 := by kernel_rfl
theorem cWay : Tryd.prog.cellsOf 89 = 2 := by kernel_rfl
theorem way_trod {H : Type} {enc : TypeId × Value → H} {w : World} {base : Nat} {sp : Nat → Bool} {held : Bool} {fuel : Nat} {cs : List Value} {a b : Int} {p : List MemPlace}
    (h : DataW.trod enc Tryd.prog w base sp held fuel 89 cs = some (.agg [.lit (.int .i32 a), .lit (.int .i32 b)], p)) : cs[0]? = some (.int .i32 a) ∧ cs[1]? = some (.int .i32 b) := by
  obtain ⟨y0, y1, n, hx, hl, h0, h1⟩ := Go.ChangeShapes.trod_struct2 Tryd.underlying89 h
  obtain ⟨z0, e0, rfl, _⟩ := DataW.trod_int Tryd.underlying21 h0
  obtain ⟨z1, e1, rfl, _⟩ := DataW.trod_int Tryd.underlying21 h1
  simp at hx
  obtain ⟨⟨rfl, rfl⟩, _⟩ := hx
  rw [cI32] at e0 e1
  refine ⟨?_, ?_⟩
  · have := congrArg (·[0]?) e0
    simpa [List.getElem?_take, List.getElem?_drop] using this
  · have := congrArg (·[0]?) e1
    simpa [List.getElem?_take, List.getElem?_drop] using this
def fps : List (Int × Int) := [(1, 0), (-1, 0), (0, -1), (0, 1)]
theorem laid_fps {H : Type} : (Rows.laid_hindcast_step_faces : DataW H) = .agg (fps.map fun x => .agg [.lit (.int .i32 x.1), .lit (.int .i32 x.2)]) := rfl
theorem cells_of_ways {H : Type} {enc : TypeId × Value → H} {w : World} {base : Nat} {sp : Nat → Bool} {held : Bool} {fuel : Nat} {cs : List Value} {p : List MemPlace}
    (h : DataW.trod enc Tryd.prog w base sp held fuel 94 cs = some (Rows.laid_hindcast_step_faces, p)) : ∀ i, i < 4 → cs[i * 2]? = some (.int .i32 (fcs.getD (i * 2) 0)) ∧ cs[i * 2 + 1]? = some (.int .i32 (fcs.getD (i * 2 + 1) 0)) := fun i hi => by
  rw [laid_fps] at h
  cases fuel with
  | zero => simp [DataW.trod] at h
  | succ fuel =>
    simp only [DataW.trod, Tryd.underlying94, cWay] at h
    split at h
    · obtain ⟨xs, hm, hx⟩ := Option.map_eq_some_iff.1 h
      have hxs : xs.map (·.1) = fps.map fun x => (DataW.agg [.lit (.int .i32 x.1), .lit (.int .i32 x.2)] : DataW H) := by
        have := congrArg Prod.fst hx
        simpa using this
      obtain ⟨b, hb, hf⟩ := Lib.mapM_at hm i i (by simp [hi])
      have h2 : (xs.map (·.1))[i]? = some b.1 := by simp [hb]
      rw [hxs, List.getElem?_map] at h2
      have hbd : fps[i]? = some (fcs.getD (i * 2) 0, fcs.getD (i * 2 + 1) 0) := by
        have h4 : i = 0 ∨ i = 1 ∨ i = 2 ∨ i = 3 := by omega
        rcases h4 with rfl | rfl | rfl | rfl <;> rfl
      rw [hbd] at h2
      simp only [Option.map_some, Option.some.injEq] at h2
      obtain ⟨b1, b2⟩ := b
      dsimp only at h2
      subst h2
      obtain ⟨k0, k1⟩ := way_trod hf
      refine ⟨?_, ?_⟩
      · simpa [List.getElem?_take, List.getElem?_drop] using k0
      · simpa [List.getElem?_take, List.getElem?_drop] using k1
    · cases h
theorem laid_of_laid {W : World} (h : laidMetH Tryd.prog laidList W) : Laid W := by
  rw [MakeChecks.laidMetH_plain _ _ _ (by kernel_rfl)] at h
  obtain ⟨ps, ⟨g, t, cs, fuel, p, q, hg, ht, hvar, hd, ⟨g2, t2, cs2, fuel2, p2, q2, hg2, ht2, hvar2, hd2, _, _⟩, _⟩, _⟩ := h
  obtain rfl := Option.some.inj (gBounds.symm.trans hg)
  obtain rfl := Option.some.inj (tBounds.symm.trans ht)
  obtain rfl := Option.some.inj (gFaces.symm.trans hg2)
  obtain rfl := Option.some.inj (tFaces.symm.trans ht2)
  have hc := cells_of_pairs hd
  have hc2 := cells_of_ways hd2
  have cell : ∀ (i : Nat) (v : Value), cs.toList[i]? = some v → W.cell? ⟨0, i, none⟩ = some v := fun i v hv => by
    have := World.var?_cell gBounds hvar i
    rw [this]
    simpa using hv
  have cell2 : ∀ (i : Nat) (v : Value), cs2.toList[i]? = some v → W.cell? ⟨1, i, none⟩ = some v := fun i v hv => by
    have := World.var?_cell gFaces hvar2 i
    rw [this]
    simpa using hv
  refine ⟨⟨?_, fun i hi => ⟨cell _ _ (hc i hi).1, cell _ _ (hc i hi).2⟩⟩, ?_, fun i hi => ?_⟩
  · exact World.block_lt_of_cell? W _ (cell _ _ (hc 0 (by omega)).1)
  · exact World.block_lt_of_cell? W _ (cell2 _ _ (hc2 0 (by omega)).1)
  · have h8 : i = i / 2 * 2 ∨ i = i / 2 * 2 + 1 := by omega
    rcases h8 with e | e
    · rw [e]; exact cell2 _ _ (hc2 (i / 2) (by omega)).1
    · rw [e]; exact cell2 _ _ (hc2 (i / 2) (by omega)).2
theorem door_met (os : Os) (args : Array Value) : laidMetH Tryd.prog laidList ((World.doorLaid Tryd.prog 36 os).forCall (fun _ _ => 0) ⟨#[], args, []⟩).memory :=
  laidMetH_of_parts3 (fuel := 8) (laidMet_of_run' 8 (by kernel_rfl) (by kernel_rfl)) (by kernel_rfl) (by kernel_rfl)
end Go.Proofs.YtgmbdadkahcpcaaDoor
