/- The digest of a state: one contract; the statements' own works. Nothing is assumed beyond each contract's own bounds. -/
import Derived.Test.YtobfoenilfpiiaaDoorVc
namespace Go.Proofs.YtobfoenilfpiiaaDoor
open Go.RowKit
set_option linter.unusedVariables false
set_option linter.unusedSimpArgs false
set_option maxRecDepth 20000

theorem sput_len (s : St) : (sput s).length ≤ 500 := by
  unfold sput
  split
  · rename_i hg
    have h1 := pe_len s.p
    have h2 := pe_len s.q
    have h3 := hes_len s.ss
    have h4 := vr_len s.ss.length
    have h5 := good_few hg
    simp only [ste, List.length_append, le_length, h1, h2, h3]
    omega
  · simp
theorem sput_max (s : St) : (sput s).length ≤ maxLen := Nat.le_trans (sput_len s) (by decide)
attribute [local go_sem ↓] ld_state
theorem of_c (s : St) (ao : Option Addr) (cap : Nat) (w : World) (h : Shs w ao s.ss) (hf : s.fit) (ht : Tab w) :
    Calls Tryd.prog 11 #[sv s ao cap] w fun E w' => E = .returned (.int .u64 ((djn bas (sput s) : Nat) : Int)) ∧ Below w.heap.size w w' := by
  have H0 := Lib.hid (Loc.one w 30 (stc s ao cap))
  have hP := fun W hs ht => put_c s ao cap W hs hf ht
  have hg := grown_alloc w (.cells (stc s ao cap) 30)
  have HS := Lib.hid (Shs_grown h hg (by simp))
  have HT := Lib.hid (tab_grown ht hg (by simp))
  have HL := Lib.hid (sput_max s)
  have HP := Lib.hid hP
  clear hP hg h ht hf
  go_enter Tryd.func11, Tryd.ntmps11
  go_upto_region 1 with fail
  generalize w.alloc (.cells (stc s ao cap) 30) = wa at *
  have la1 := H0.out.ldA ty_state 0 rfl 0 (vs := stc s ao cap) rfl (Nat.le_of_ble_eq_true rfl)
  go_wp2_with fail
  refine (HP.out _ HS.out HT.out).mono ?_
  rintro E w1 ⟨rfl, hb1⟩
  have H1 := Lib.hid (H0.out.grown hb1)
  clear hb1 la1
  go_wp2_with fail
  refine (join_c bas (sput s) _ (by decide) HL.out).mono ?_
  rintro E w2 ⟨rfl, rfl⟩
  go_wp2
  go_ret
  exact ⟨rfl, H1.out.be⟩
theorem tab_lo {w w' : World} (h : Tab w) (hb : Below w.heap.size w w') : Tab w' := tab_grown h (grown_of_below (r := none) hb) (by simp)
theorem jn_nil (w : World) : Calls Tryd.prog 9 #[.int .u64 14695981039346656037, .string ⟨#[]⟩] w fun E w' => E = .returned (.int .u64 14695981039346656037) ∧ w = w' := join_c bas [] w (by decide) (by decide)
theorem jn_a (w : World) : Calls Tryd.prog 9 #[.int .u64 14695981039346656037, .string ⟨#[97]⟩] w fun E w' => E = .returned (.int .u64 12638187200555641996) ∧ w = w' := by
  have h := join_c bas [97] w (by decide) (by decide)
  rw [show djn bas [97] = 12638187200555641996 from by decide +kernel] at h
  exact h
theorem mx_01 (w : World) : Calls Tryd.prog 13 #[.int .u64 0, .agg #[.int .u8 0, .int .u8 1]] w fun E w' => E = .returned (.int .u64 1099511628211) ∧ Below w.heap.size w w' := by
  have h := mix_c 0 0 1 w (by decide) (by decide) (by decide)
  rw [show dmx 0 (0, 1) = 1099511628211 from by decide +kernel] at h
  exact h
theorem fit_zero : St.zero.fit := ⟨by decide, by decide, ⟨⟨by decide, by decide⟩, ⟨by decide, by decide⟩, ⟨by decide, by decide⟩, ⟨by decide, by decide⟩, by decide, by decide, by decide⟩, ⟨⟨by decide, by decide⟩, ⟨by decide, by decide⟩, ⟨by decide, by decide⟩, ⟨by decide, by decide⟩, by decide, by decide, by decide⟩, fun x hx => by simp [St.zero] at hx, by decide, by decide⟩
theorem of_zero (w : World) (ht : Tab w) : Calls Tryd.prog 11 #[.agg #[.int .u64 0, .int .u64 0, .int .i32 0, .int .i32 0, .int .i32 0, .int .i32 0, .int .u8 0, .int .u8 0, .int .u8 0, .int .i32 0, .int .i32 0, .int .i32 0, .int .i32 0, .int .u8 0, .int .u8 0, .int .u8 0, .slice none 0 0, .int .u16 0, .int .u16 0]] w fun E w' => E = .returned (.int .u64 14695981039346656037) ∧ Below w.heap.size w w' := by
  have h := of_c .zero none 0 w (shs_nil _ _) fit_zero ht
  rw [sput_no (by decide)] at h
  exact h
set_option maxHeartbeats 1000000 in
theorem works_c (w : World) (ht : Tab w) : Calls Tryd.prog 8 #[] w fun E w' => E = .returned (.bool true) ∧ Below w.heap.size w w' := by
  have HT := Lib.hid ht
  clear ht
  go_enter Tryd.func8, Tryd.ntmps8
  go_wp2_with fail
  refine (jn_nil _).mono ?_
  rintro E w1 ⟨rfl, rfl⟩
  go_wp2_with fail
  refine (jn_a _).mono ?_
  rintro E w1 ⟨rfl, rfl⟩
  go_wp2_with fail
  refine (mx_01 _).mono ?_
  rintro E w1 ⟨rfl, hb1⟩
  have HT1 := Lib.hid (tab_lo HT.out hb1)
  have HB1 := Lib.hid hb1
  clear hb1
  go_wp2_with fail
  refine (of_zero _ HT1.out).mono ?_
  rintro E w2 ⟨rfl, hb2⟩
  go_wp2
  go_ret
  exact ⟨rfl, HB1.out.trans (hb2.mono HB1.out.size)⟩
end Go.Proofs.YtobfoenilfpiiaaDoor
