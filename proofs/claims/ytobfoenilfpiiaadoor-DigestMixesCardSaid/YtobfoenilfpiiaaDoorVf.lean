/- DigestJoins: the walk. Nothing is assumed beyond the bounds of the row's own types. -/
import Derived.Test.YtobfoenilfpiiaaDoorVd
import Derived.Test.YtobfoenilfpiiaaDoorSi
import Derived.Deep.RegionHeld3
namespace Go.Proofs.YtobfoenilfpiiaaDoor
open Go.RowKit
set_option linter.unusedVariables false
set_option linter.unusedSimpArgs false
set_option maxRecDepth 20000
attribute [local go_sem ↓] ld_state ld_shots
theorem refOf_c (s : St) (ao : Option Addr) (cap : Nat) (w : World) (h : Shs w ao s.ss) (hf : s.fit) :
    Calls Tryd.prog 12 #[sv s ao cap] w fun E w' => E = .returned (.int .u64 ((djn bas (sput s) : Nat) : Int)) ∧ Below w.heap.size w w' := by
  have H0 := Lib.hid (Loc.one w 30 (stc s ao cap))
  have hP := fun W hs => refPut s ao cap W hs hf
  have hg := grown_alloc w (.cells (stc s ao cap) 30)
  have HS := Lib.hid (Shs_grown h hg (by simp))
  have HL := Lib.hid (sput_max s)
  have HP := Lib.hid hP
  clear hP hg h hf
  go_enter Tryd.func12, Tryd.ntmps12
  go_upto_region 1 with fail
  generalize w.alloc (.cells (stc s ao cap) 30) = wa at *
  have la1 := H0.out.ldA ty_state 0 rfl 0 (vs := stc s ao cap) rfl (Nat.le_of_ble_eq_true rfl)
  go_wp2_with fail
  refine (HP.out _ HS.out).mono ?_
  rintro E w1 ⟨rfl, hb1⟩
  have H1 := Lib.hid (H0.out.grown hb1)
  clear hb1 la1
  go_wp2_with fail
  refine (refJoin_c bas (sput s) _ (by decide) HL.out).mono ?_
  rintro E w2 ⟨rfl, rfl⟩
  go_wp2
  go_ret
  exact ⟨rfl, H1.out.be⟩
theorem shs_below {w w' : World} {ao : Option Addr} {l : List Sh} (h : Shs w ao l) (hb : Below w.heap.size w w') : Shs w' ao l := Shs_grown h (grown_of_below (r := none) hb) (by simp)
set_option maxHeartbeats 2000000 in
theorem law_joins (d : Nat) (l : List UInt8) (s : St) (ao : Option Addr) (cap : Nat) (w : World) (hd : d < 18446744073709551616) (hl : l.length ≤ maxLen) (hS : Shs w ao s.ss) (hf : s.fit) (hsl : s.ss.length ≤ maxLen) (ht : Tab w) :
    Calls Tryd.prog 3 #[.int .u64 (d : Int), .string (str l), sv s ao cap] w fun E w' => E = .returned (.bool true) ∧ Below w.heap.size w w' := by
  have HS := Lib.hid hS
  have HT := Lib.hid ht
  have H0 := Lib.hid (Loc.one w 30 (stc s ao cap))
  have CJ : Hid (∀ W, Calls Tryd.prog 9 #[.int .u64 (d : Int), .string (str l)] W fun E w' => E = .returned (.int .u64 ((djn d l : Nat) : Int)) ∧ Below W.heap.size W w') := fun W => (join_c d l W hd hl).mono fun E w' h => ⟨h.1, h.2 ▸ Below.refl _ _⟩
  have RJ : Hid (∀ W, Calls Tryd.prog 10 #[.int .u64 (d : Int), .string (str l)] W fun E w' => E = .returned (.int .u64 ((djn d l : Nat) : Int)) ∧ Below W.heap.size W w') := fun W => (refJoin_c d l W hd hl).mono fun E w' h => ⟨h.1, h.2 ▸ Below.refl _ _⟩
  obtain ⟨e, he⟩ : ∃ e, e = djn d l := ⟨_, rfl⟩
  rw [← he] at CJ RJ
  have HF := Lib.hid hf
  have hsz := str_size l
  clear he hS ht hd hf
  go_enter Tryd.func3, Tryd.ntmps3
  go_upto_region 1 with fail
  generalize w.alloc (.cells (stc s ao cap) 30) = wa at *
  have la1 := H0.out.ldO ty_shots 0 rfl 16 (v := .slice ao s.ss.length cap) rfl
  by_cases hc : 3000 < l.length
  · have hci : (3000 : Int) < (l.length : Int) := by omega
    go_wp2_with fail
    refine (works_c _ (tab_lo HT.out H0.out.be)).mono ?_
    rintro E w1 ⟨rfl, hb1⟩
    go_wp2
    go_ret
    exact ⟨rfl, (H0.out.to hb1).be⟩
  · have hci : ¬ (3000 : Int) < (l.length : Int) := by omega
    by_cases hc2 : 100 < s.ss.length
    · have hci2 : (100 : Int) < (s.ss.length : Int) := by omega
      go_wp2_with fail
      refine (works_c _ (tab_lo HT.out H0.out.be)).mono ?_
      rintro E w1 ⟨rfl, hb1⟩
      go_wp2
      go_ret
      exact ⟨rfl, (H0.out.to hb1).be⟩
    · have hci2 : ¬ (100 : Int) < (s.ss.length : Int) := by omega
      go_upto_region 3 with fail
      have la := H0.out.onA ty_state 0 rfl 0 (vs := stc s ao cap) rfl (Nat.le_of_ble_eq_true rfl)
      have CO : Hid (∀ W, G.On wa.heap.size wa W → Calls Tryd.prog 11 #[.agg (stc s ao cap)] W fun E w' => E = .returned (.int .u64 ((djn bas (sput s) : Nat) : Int)) ∧ Below W.heap.size W w') := fun W hW => of_c s ao cap W (shs_below HS.out (H0.out.to hW).be) HF.out (tab_lo HT.out (H0.out.to hW).be)
      have RO : Hid (∀ W, G.On wa.heap.size wa W → Calls Tryd.prog 12 #[.agg (stc s ao cap)] W fun E w' => E = .returned (.int .u64 ((djn bas (sput s) : Nat) : Int)) ∧ Below W.heap.size W w') := fun W hW => refOf_c s ao cap W (shs_below HS.out (H0.out.to hW).be) HF.out
      have CW : Hid (∀ W, G.On wa.heap.size wa W → Calls Tryd.prog 8 #[] W fun E w' => E = .returned (.bool true) ∧ Below W.heap.size W w') := fun W hW => works_c W (tab_lo HT.out (H0.out.to hW).be)
      obtain ⟨c, hcc⟩ : ∃ c, c = djn bas (sput s) := ⟨_, rfl⟩
      rw [← hcc] at CO RO
      clear hcc hc hci hc2 hci2 la1 hl hsl hsz
      have o0 := G.On.drew wa.heap.size wa
      go_region_held3 (fun w' => G.On wa.heap.size wa w') (first | with_reducible assumption) (first
        | (go_at_call 9; (with_reducible refine (CJ.out _).mono ?_); rintro E w7 ⟨rfl, hb7⟩; have o7 := G.on_step (wd := wa) (by assumption) hb7)
        | (go_at_call 10; (with_reducible refine (RJ.out _).mono ?_); rintro E w7 ⟨rfl, hb7⟩; have o7 := G.on_step (wd := wa) (by assumption) hb7)
        | (go_at_call 11; (with_reducible refine (CO.out _ (by assumption)).mono ?_); rintro E w7 ⟨rfl, hb7⟩; have o7 := G.on_step (wd := wa) (by assumption) hb7)
        | (go_at_call 12; (with_reducible refine (RO.out _ (by assumption)).mono ?_); rintro E w7 ⟨rfl, hb7⟩; have o7 := G.on_step (wd := wa) (by assumption) hb7)
        | (go_at_call 8; (with_reducible refine (CW.out _ (by assumption)).mono ?_); rintro E w7 ⟨rfl, hb7⟩; have o7 := G.on_step (wd := wa) (by assumption) hb7))
      go_wp2
      go_ret
      exact ⟨rfl, (H0.out.to (by assumption)).be⟩
end Go.Proofs.YtobfoenilfpiiaaDoor
