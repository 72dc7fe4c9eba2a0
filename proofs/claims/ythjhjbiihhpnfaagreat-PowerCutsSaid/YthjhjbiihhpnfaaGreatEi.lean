/- The document's round. -/
import Derived.Test.YthjhjbiihhpnfaaGreatEh
namespace Go.Proofs.YthjhjbiihhpnfaaGreat
open Go.RowKit Go.Shelf Go.Deep
set_option linter.unusedVariables false
set_option linter.unusedSimpArgs false
set_option maxRecDepth 100000

theorem kept_tmod2 (k : Int) (m : Nat) (hm : 0 < m) : (k.tmod (m : Int) < 0 ∧ k.tmod (m : Int) + (m : Int) = (kept k m : Nat)) ∨ (0 ≤ k.tmod (m : Int) ∧ k.tmod (m : Int) = (kept k m : Nat)) := by
  have h1 : 0 ≤ k % (m : Int) := Int.emod_nonneg _ (by omega)
  have h2 : k % (m : Int) < (m : Int) := Int.emod_lt_of_pos _ (by omega)
  have hk : ((kept k m : Nat) : Int) = k % (m : Int) := by unfold kept; omega
  rw [hk, Int.tmod_eq_emod]
  split
  · right; omega
  · rename_i h
    have h0 : k % (m : Int) ≠ 0 := fun e => h (.inr (Int.dvd_of_emod_eq_zero e))
    left
    simp only [Int.natAbs_natCast]
    omega
theorem kept_lt2 (k : Int) (m : Nat) (hm : 0 < m) : kept k m < m := by
  have h1 : 0 ≤ k % (m : Int) := Int.emod_nonneg _ (by omega)
  have h2 : k % (m : Int) < (m : Int) := Int.emod_lt_of_pos _ (by omega)
  unfold kept; omega
theorem round_c (k : Int) (m : Nat) (w : World) (hm : 0 < m) (hm2 : m ≤ 65537) :
    Calls Tryz.prog 78 #[.int .i64 k, .int .i64 (m : Int)] w fun R w' => R = .returned (.int .i64 (kept k m : Nat)) ∧ w' = w := by
  have hl := kept_lt2 k m hm
  have hi : ¬ (m : Int) = 0 := by omega
  have hi2 : (m : Int) ≠ -1 := by omega
  rcases kept_tmod2 k m hm with ⟨h1, h2⟩ | ⟨h1, h2⟩
  · generalize kept k m = u at *
    obtain ⟨t, ht⟩ : ∃ t, k.tmod (m : Int) = t := ⟨_, rfl⟩
    rw [ht] at h1 h2
    have h3 : IntKind.i64.wrap t = t := IntWalk.i64_in _ ⟨by omega, by omega⟩
    have h4 : IntKind.i64.wrap (t + (m : Int)) = (u : Int) := by rw [h2]; exact IntWalk.i64_in _ ⟨by omega, by omega⟩
    go_enter Tryz.func78, Tryz.ntmps78
    go_wp2
    go_ret
    exact ⟨rfl, rfl⟩
  · generalize kept k m = u at *
    have h3 : IntKind.i64.wrap (u : Int) = (u : Int) := IntWalk.i64_in _ ⟨by omega, by omega⟩
    go_enter Tryz.func78, Tryz.ntmps78
    go_wp2
    go_ret
    exact ⟨rfl, rfl⟩
end Go.Proofs.YthjhjbiihhpnfaaGreat
