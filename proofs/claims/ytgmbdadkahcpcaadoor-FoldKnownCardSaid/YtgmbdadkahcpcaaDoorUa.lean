/- The program's frame: a speed: contracts. -/
import Derived.Test.YtgmbdadkahcpcaaDoorTk
import Derived.Test.YtgmbdadkahcpcaaDoorAf
namespace Go.Proofs.YtgmbdadkahcpcaaDoor
open Go.RowKit
set_option linter.unusedVariables false
set_option linter.unusedSimpArgs false
set_option maxRecDepth 20000

theorem driven_c (v d : Int) (w : World) (hv : -1024 ≤ v ∧ v ≤ 1024) (hd : -1 ≤ d ∧ d ≤ 1) :
    Calls Tryd.prog 58 #[.int .i32 v, .int .i32 d] w fun E w' => E = .returned (.int .i32 (if d = 0 then slow v else v + 64 * d)) ∧ w = w' := by
  obtain ⟨v1, v2⟩ := hv
  obtain ⟨d1, d2⟩ := hd
  obtain ⟨q, hq, hq1, hq2⟩ : ∃ q : Int, v.tdiv 8 = q ∧ (0 ≤ v → 8 * q ≤ v ∧ v < 8 * q + 8) ∧ (v < 0 → v ≤ 8 * q ∧ 8 * q < v + 8) := by
    refine ⟨v.tdiv 8, rfl, fun h => ?_, fun h => ?_⟩
    · rw [Int.tdiv_eq_ediv_of_nonneg h]; omega
    · obtain ⟨u, rfl⟩ : ∃ u : Int, v = -u := ⟨-v, by omega⟩
      rw [Int.neg_tdiv, Int.tdiv_eq_ediv_of_nonneg (by omega)]; omega
  have HS : Hid (slow v = if -8 < v - q ∧ v - q < 8 then 0 else v - q) := by unfold slow; rw [hq]; rfl
  have e1 : wrap32 q = q := by unfold wrap32; omega
  by_cases h0 : d = 0
  · subst h0
    go_enter Tryd.func58, Tryd.ntmps58
    go_wp2
    all_goals go_ret
    all_goals refine ⟨congrArg (fun z => Ending.returned (.int .i32 z)) ?_, rfl⟩
    all_goals rw [HS.out]
    all_goals (repeat' split) <;> omega
  · have hne : (d != 0) = true := by simp [h0]
    go_enter Tryd.func58, Tryd.ntmps58
    go_wp2
    all_goals go_ret
    all_goals exact ⟨rfl, rfl⟩
theorem slow_in {v : Int} (h : -1024 ≤ v ∧ v ≤ 1024) : -1024 ≤ slow v ∧ slow v ≤ 1024 := by
  unfold slow
  obtain ⟨q, hq, hq1, hq2⟩ : ∃ q : Int, v.tdiv 8 = q ∧ (0 ≤ v → 8 * q ≤ v ∧ v < 8 * q + 8) ∧ (v < 0 → v ≤ 8 * q ∧ 8 * q < v + 8) := by
    refine ⟨v.tdiv 8, rfl, fun h => ?_, fun h => ?_⟩
    · rw [Int.tdiv_eq_ediv_of_nonneg h]; omega
    · obtain ⟨u, rfl⟩ : ∃ u : Int, v = -u := ⟨-v, by omega⟩
      rw [Int.neg_tdiv, Int.tdiv_eq_ediv_of_nonneg (by omega)]; omega
  rw [hq]
  split <;> omega
attribute [local go_sem ↓] ld_bool
theorem spd1_c (v d : Int) (dash : Bool) (g : Nat) (w : World) (hv : -1024 ≤ v ∧ v ≤ 1024) (hd : -1 ≤ d ∧ d ≤ 1) (hc : (ldT 4 (.pointer (some ⟨g, 0, none⟩))).run Tryd.prog w = .ok (.bool dash) w) :
    Calls Tryd.prog 57 #[.int .i32 v, .int .i32 d, .pointer (some ⟨g, 0, none⟩)] w fun E w' => E = .returned (.int .i32 (spd v d dash)) ∧ w = w' := by
  have HC := driven_c v d w hv hd
  have HB : Hid (-1088 ≤ (if d = 0 then slow v else v + 64 * d) ∧ (if d = 0 then slow v else v + 64 * d) ≤ 1088) := by
    have := slow_in hv
    show _ ∧ _
    split <;> omega
  have HS : Hid (spd v d dash = clV (if dash then (if d = 0 then slow v else v + 64 * d) * 2 else (if d = 0 then slow v else v + 64 * d))) := rfl
  generalize (if d = 0 then slow v else v + 64 * d) = u at *
  rw [HS.out]
  clear HS
  obtain ⟨u1, u2⟩ := HB.out
  go_enter Tryd.func57, Tryd.ntmps57
  go_wp2_with fail
  refine HC.mono ?_
  rintro E w1 ⟨rfl, rfl⟩
  cases dash
  all_goals go_wp2
  all_goals go_ret
  all_goals refine ⟨congrArg (fun z => Ending.returned (.int .i32 z)) ?_, rfl⟩
  all_goals simp only [clV, if_true, Bool.false_eq_true, if_false]
  all_goals (repeat' split) <;> omega
end Go.Proofs.YtgmbdadkahcpcaaDoor
