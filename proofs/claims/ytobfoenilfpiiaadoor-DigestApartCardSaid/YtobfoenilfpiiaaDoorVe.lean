/- DigestMixes: the walk. Nothing is assumed beyond the bounds of the row's own types. -/
import Derived.Test.YtobfoenilfpiiaaDoorVd
import Derived.Deep.RegionHeld3
namespace Go.Proofs.YtobfoenilfpiiaaDoor
open Go.RowKit
set_option linter.unusedVariables false
set_option linter.unusedSimpArgs false
set_option maxRecDepth 20000
attribute [local go_sem ↓] ld_pair
set_option maxHeartbeats 2000000 in
theorem law_mixes (d a b : Nat) (l : List (Nat × Nat)) (lo : Option Addr) (cap : Nat) (w : World) (hd : d < 18446744073709551616) (ha : a < 256) (hb : b < 256) (hP : Pis w lo l) (hl : l.length ≤ maxLen) (ht : Tab w) :
    Calls Tryd.prog 4 #[.int .u64 (d : Int), .agg #[.int .u8 (a : Int), .int .u8 (b : Int)], .slice lo l.length cap] w fun E w' => E = .returned (.bool true) ∧ Below w.heap.size w w' := by
  have HP := Lib.hid hP
  have HT := Lib.hid ht
  have HLM := Lib.hid hl
  have H0 := Lib.hid (Loc.one w 37 #[.int .u8 (a : Int), .int .u8 (b : Int)])
  have CM := Lib.hid (fun W => mix_c d a b W hd ha hb)
  have RM := Lib.hid (fun W => refMix_c d a b W hd ha hb)
  obtain ⟨e, he⟩ : ∃ e, e = dmx d (a, b) := ⟨_, rfl⟩
  rw [← he] at CM RM
  clear he hP ht hl hd ha hb
  go_enter Tryd.func4, Tryd.ntmps4
  by_cases hc : 1000 < l.length
  · have hci : (1000 : Int) < (l.length : Int) := by omega
    go_upto_region 1 with fail
    generalize w.alloc (.cells #[.int .u8 (a : Int), .int .u8 (b : Int)] 37) = wa at *
    go_wp2_with fail
    refine (works_c _ (tab_lo HT.out H0.out.be)).mono ?_
    rintro E w1 ⟨rfl, hb1⟩
    go_wp2
    go_ret
    exact ⟨rfl, (H0.out.to hb1).be⟩
  · have hci : ¬ (1000 : Int) < (l.length : Int) := by omega
    go_upto_region 3 with fail
    generalize w.alloc (.cells #[.int .u8 (a : Int), .int .u8 (b : Int)] 37) = wa at *
    have la := H0.out.onA ty_pair 0 rfl 0 (vs := #[.int .u8 (a : Int), .int .u8 (b : Int)]) rfl (Nat.le_of_ble_eq_true rfl)
    have CC : Hid (∀ W, G.On wa.heap.size wa W → Calls Tryd.prog 15 #[.slice lo l.length cap] W fun E w' => E = .returned (.int .u64 ((dch bas l : Nat) : Int)) ∧ Below W.heap.size W w') := fun W hW => chain_c l lo cap W (HP.out.to (H0.out.to hW).be) HLM.out
    have RC : Hid (∀ W, G.On wa.heap.size wa W → Calls Tryd.prog 16 #[.slice lo l.length cap] W fun E w' => E = .returned (.int .u64 ((dch bas l : Nat) : Int)) ∧ Below W.heap.size W w') := fun W hW => refChain_c l lo cap W (HP.out.to (H0.out.to hW).be) HLM.out
    have CW : Hid (∀ W, G.On wa.heap.size wa W → Calls Tryd.prog 8 #[] W fun E w' => E = .returned (.bool true) ∧ Below W.heap.size W w') := fun W hW => works_c W (tab_lo HT.out (H0.out.to hW).be)
    obtain ⟨c, hcc⟩ : ∃ c, c = dch bas l := ⟨_, rfl⟩
    rw [← hcc] at CC RC
    clear hcc hc hci
    have o0 := G.On.drew wa.heap.size wa
    go_region_held3 (fun w' => G.On wa.heap.size wa w') (first | with_reducible assumption) (first
      | (go_at_call 13; (with_reducible refine (CM.out _).mono ?_); rintro E w7 ⟨rfl, hb7⟩; have o7 := G.on_step (wd := wa) (by assumption) hb7)
      | (go_at_call 14; (with_reducible refine (RM.out _).mono ?_); rintro E w7 ⟨rfl, hb7⟩; have o7 := G.on_step (wd := wa) (by assumption) hb7)
      | (go_at_call 15; (with_reducible refine (CC.out _ (by assumption)).mono ?_); rintro E w7 ⟨rfl, hb7⟩; have o7 := G.on_step (wd := wa) (by assumption) hb7)
      | (go_at_call 16; (with_reducible refine (RC.out _ (by assumption)).mono ?_); rintro E w7 ⟨rfl, hb7⟩; have o7 := G.on_step (wd := wa) (by assumption) hb7)
      | (go_at_call 8; (with_reducible refine (CW.out _ (by assumption)).mono ?_); rintro E w7 ⟨rfl, hb7⟩; have o7 := G.on_step (wd := wa) (by assumption) hb7))
    go_wp2
    go_ret
    exact ⟨rfl, (H0.out.to (by assumption)).be⟩
end Go.Proofs.YtobfoenilfpiiaaDoor
