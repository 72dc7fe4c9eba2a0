/- The functions of package codec that read, at last: a number of each width, a var, a text; the error and the rest. -/
import Derived.Test.YtbmkmmkebophpaaDoorRdB
namespace Go.Proofs.YtbmkmmkebophpaaDoor
open Go.RowKit
set_option linter.unusedVariables false

theorem rdU8 (g : Nat) (l : List UInt8) (e : Int) (w : World) (h : Rd w g l e) :
    Calls Tryd.prog 63 #[.pointer (some ⟨g, 0, none⟩)] w fun E w' => E = .returned (.int .u8 (num 1 l).val) ∧ RdTo w g (num 1 l).rest (fin e (num 1 l).err) w' := by
  go_enter Tryd.func63, Tryd.ntmps63
  go_wp2_with fail
  refine (next8 g l e _ h).mono ?_
  rintro E w1 ⟨rfl, hw1⟩
  go_wp2
  go_ret
  exact ⟨rfl, hw1⟩
theorem rdU16 (g : Nat) (l : List UInt8) (e : Int) (w : World) (h : Rd w g l e) :
    Calls Tryd.prog 47 #[.pointer (some ⟨g, 0, none⟩)] w fun E w' => E = .returned (.int .u16 (num 2 l).val) ∧ RdTo w g (num 2 l).rest (fin e (num 2 l).err) w' := by
  go_enter Tryd.func47, Tryd.ntmps47
  go_wp2_with fail
  refine (next16 g l e _ h).mono ?_
  rintro E w1 ⟨rfl, hw1⟩
  go_wp2
  go_ret
  exact ⟨rfl, hw1⟩
theorem rdU64 (g : Nat) (l : List UInt8) (e : Int) (w : World) (h : Rd w g l e) :
    Calls Tryd.prog 41 #[.pointer (some ⟨g, 0, none⟩)] w fun E w' => E = .returned (.int .u64 (num 8 l).val) ∧ RdTo w g (num 8 l).rest (fin e (num 8 l).err) w' := by
  go_enter Tryd.func41, Tryd.ntmps41
  go_wp2_with fail
  refine (next64 g l e _ h).mono ?_
  rintro E w1 ⟨rfl, hw1⟩
  go_wp2
  go_ret
  exact ⟨rfl, hw1⟩
theorem rdI32 (g : Nat) (l : List UInt8) (e : Int) (w : World) (h : Rd w g l e) :
    Calls Tryd.prog 62 #[.pointer (some ⟨g, 0, none⟩)] w fun E w' => E = .returned (.int .i32 (wrap32 (num 4 l).val)) ∧ RdTo w g (num 4 l).rest (fin e (num 4 l).err) w' := by
  go_enter Tryd.func62, Tryd.ntmps62
  go_wp2_with fail
  refine (next32 g l e _ h).mono ?_
  rintro E w1 ⟨rfl, hw1⟩
  go_wp2
  go_ret
  exact ⟨rfl, hw1⟩

theorem varFault_c (i b : Nat) (w : World) (hi : i ≤ 9) (hb : b < 256) :
    Calls Tryd.prog 64 #[.int .i64 i, .int .u8 b] w fun E w' => E = .returned (.int .i64 (vf i b)) ∧ w = w' := by
  by_cases h1 : i = 9
  · subst h1
    by_cases h2 : 1 < b
    · rw [show vf 9 b = 3 from by simp [vf, h2]]
      go_enter Tryd.func64, Tryd.ntmps64
      go_wp2
      go_ret
      exact ⟨rfl, rfl⟩
    · by_cases h3 : b = 0
      · subst h3
        rw [show vf 9 0 = 4 from by simp [vf]]
        go_enter Tryd.func64, Tryd.ntmps64
        go_wp2
        go_ret
        exact ⟨rfl, rfl⟩
      · rw [show vf 9 b = 0 from by simp [vf, h2, h3]]
        have h4 : ((b : Int) == 0) = false := by simp [h3]
        go_enter Tryd.func64, Tryd.ntmps64
        go_wp2
        go_ret
        exact ⟨rfl, rfl⟩
  · have h5 : ((i : Int) == 9) = false := by simp; omega
    by_cases h3 : b = 0
    · subst h3
      by_cases h0 : i = 0
      · subst h0
        rw [show vf 0 0 = 0 from by simp [vf]]
        go_enter Tryd.func64, Tryd.ntmps64
        go_wp2
        go_ret
        exact ⟨rfl, rfl⟩
      · rw [show vf i 0 = 4 from by simp [vf]; omega]
        have h6 : 0 < i := by omega
        go_enter Tryd.func64, Tryd.ntmps64
        go_wp2
        go_ret
        exact ⟨rfl, rfl⟩
    · rw [show vf i b = 0 from by simp [vf, h3, h1]]
      have h4 : ((b : Int) == 0) = false := by simp [h3]
      by_cases h0 : i = 0
      · subst h0
        go_enter Tryd.func64, Tryd.ntmps64
        go_wp2
        go_ret
        exact ⟨rfl, rfl⟩
      · have h6 : 0 < i := by omega
        go_enter Tryd.func64, Tryd.ntmps64
        go_wp2
        go_ret
        exact ⟨rfl, rfl⟩

theorem rdU8_nil (g : Nat) (e : Int) (w : World) (h : Rd w g [] e) :
    Calls Tryd.prog 63 #[.pointer (some ⟨g, 0, none⟩)] w fun E w' => E = .returned (.int .u8 0) ∧ RdTo w g [] (fin e 10) w' := rdU8 g [] e w h
theorem rdU8_cons (g : Nat) (b : UInt8) (r : List UInt8) (e : Int) (w : World) (h : Rd w g (b :: r) e) :
    Calls Tryd.prog 63 #[.pointer (some ⟨g, 0, none⟩)] w fun E w' => E = .returned (.int .u8 b.toNat) ∧ RdTo w g r e w' := by
  have hn : num 1 (b :: r) = ⟨0, b.toNat, r⟩ := by simp [num, un]
  have := rdU8 g (b :: r) e w h
  rw [hn] at this
  simpa only [fin_zero] using this
/-- A round of Var, at its head. -/
def VarRel (w : World) (g : Nat) (l : List UInt8) (e : Int) (n j : Value) (wr : World) : Prop :=
  ∃ (i m : Nat) (li : List UInt8), j = .int .i64 i ∧ n = .int .u64 m ∧ VdAt l i m li ∧ RdTo w g li e wr
theorem bits_00 : bits .or .u64 0 (IntKind.u64.wrap (IntKind.u64.wrap (bits .andNot .u8 0 128) * 2 ^ 0)) = 0 := by decide +kernel
theorem fin_ten (e : Int) : fin (fin e 10) 4 = fin e 10 := by rw [fin_fin]; simp [show fin 10 4 = 10 from rfl]
theorem vf_00 : vf 0 0 = 0 := by simp [vf]
set_option maxHeartbeats 1000000 in
set_option maxRecDepth 20000 in
theorem rdVar (g : Nat) (l : List UInt8) (e : Int) (w : World) (h : Rd w g l e) :
    Calls Tryd.prog 44 #[.pointer (some ⟨g, 0, none⟩)] w fun E w' => E = .returned (.int .u64 (vd 0 l).val) ∧ RdTo w g (vd 0 l).rest (fin e (vd 0 l).err) w' := by
  go_enter Tryd.func44, Tryd.ntmps44
  go_wp2
  go_loopw [3, 4, 5, 6, 7] (fun n _ _ _ j wr => VarRel w g l e n j wr) (fun _ _ _ _ j _ => 10 - (intOf j).toNat)
  case atStart => exact ⟨0, 0, l, rfl, rfl, vdAt_start l, rd_to h⟩
  case round =>
    obtain ⟨i, m, li, rfl, rfl, hat, hto⟩ := hrel
    have hi9 := hat.1
    cases li with
    | nil =>
      have HV := Lib.hid (vdAt_nil hat)
      have HF := Lib.hid (fin_fin e 10 4)
      by_cases h0 : i = 0
      · have hm : m = 0 := by have := hat.2.1; rw [h0] at this; simp at this; exact this
        subst h0 hm
        clear hat
        have hb := bits_00
        have hv := vf_00
        go_wp2_with fail
        refine (rdU8_nil g e _ hto.1).mono ?_
        rintro E w1 ⟨rfl, hw1⟩
        have HW := Lib.hid (rdTo_trans hto hw1)
        clear hw1
        go_wp2_with fail
        refine (varFault_c 0 0 _ (by omega) (by omega)).mono ?_
        rintro E w' ⟨rfl, rfl⟩
        go_wp2
        go_ret
        exact ⟨by rw [HV.out]; rfl, by rw [HV.out]; exact HW.out⟩
      · have h6 : 0 < i := by omega
        have hv : vf i 0 = 4 := by simp [vf]; omega
        have HVF := Lib.hid hv
        clear hv
        go_wp2_with fail
        refine (rdU8_nil g e _ hto.1).mono ?_
        rintro E w1 ⟨rfl, hw1⟩
        have HW := Lib.hid (rdTo_trans hto hw1)
        have hr1 := hw1.1
        clear hw1
        go_wp2_with fail
        refine (varFault_c i 0 _ (by omega) (by omega)).mono ?_
        rintro E w' ⟨rfl, rfl⟩
        rw [HVF.out]
        go_wp2_with fail
        refine (fail_c g [] _ 4 _ hr1).mono ?_
        rintro E w2 ⟨rfl, hw2⟩
        rw [fin_ten] at hw2
        have HW2 := Lib.hid (rdTo_trans HW.out hw2)
        clear hw2
        go_wp2
        go_ret
        exact ⟨by rw [HV.out]; rfl, by rw [HV.out]; exact HW2.out⟩
    | cons b r =>
      have hbb := b.toNat_lt
      by_cases hc : vf i b.toNat = 0
      · have HL := Lib.hid (fun hb : b.toNat < 128 => vdAt_last hat hc hb)
        have HX := Lib.hid (fun hb : 128 ≤ b.toNat => vdAt_next hat hc hb)
        have h9 : i = 9 → b.toNat < 128 := fun h9 => by
          rw [h9] at hc
          unfold vf at hc
          split at hc
          · omega
          · omega

        have hst := var_step i m b.toNat hat.1 hat.2.1 hbb hc h9
        have HC := Lib.hid hc
        clear hc hat
        have H8 := Lib.hid (show 128 ≤ b.toNat → i < 9 from fun hb => by omega)
        clear h9
        generalize hm' : m + 2 ^ (7 * i) * (b.toNat % 128) = m' at *
        have HM := Lib.hid hm'
        clear hm'
        go_wp2_with fail
        refine (rdU8_cons g b r e _ hto.1).mono ?_
        rintro E w1 ⟨rfl, hw1⟩
        have HW := Lib.hid (rdTo_trans hto hw1)
        clear hw1
        go_wp2_with fail
        refine (varFault_c i b.toNat _ (by omega) (by omega)).mono ?_
        rintro E w' ⟨rfl, rfl⟩
        rw [HC.out]
        by_cases hb : b.toNat < 128
        · have HE := Lib.hid (HL.out hb)
          go_wp2
          go_ret
          have he : m' = (vd 0 l).val := by rw [HE.out, ← HM.out, Nat.mod_eq_of_lt hb]
          refine ⟨by rw [← he]; rfl, ?_⟩
          rw [HE.out, fin_zero]
          exact HW.out
        · have HE := Lib.hid (HX.out (by omega))
          have h8 : i < 9 := H8.out (by omega)
          go_wp2
          go_roundw
          case rel => exact ⟨i + 1, m', r, by go_num, rfl, HE.out, HW.out⟩
          case measure => simp [intOf]; omega
      · have HE := Lib.hid (vdAt_fault hat hc)
        have hne : (vf i b.toNat != 0) = true := by simp [hc]
        clear hc hat
        go_wp2_with fail
        refine (rdU8_cons g b r e _ hto.1).mono ?_
        rintro E w1 ⟨rfl, hw1⟩
        have HW := Lib.hid (rdTo_trans hto hw1)
        have hr1 := hw1.1
        clear hw1
        go_wp2_with fail
        refine (varFault_c i b.toNat _ (by omega) (by omega)).mono ?_
        rintro E w' ⟨rfl, rfl⟩
        go_wp2_with fail
        refine (fail_c g r _ (vf i b.toNat) _ hr1).mono ?_
        rintro E w2 ⟨rfl, hw2⟩
        have HW2 := Lib.hid (rdTo_trans HW.out hw2)
        clear hw2
        go_wp2
        go_ret
        exact ⟨by rw [HE.out]; rfl, by rw [HE.out]; exact HW2.out⟩
end Go.Proofs.YtbmkmmkebophpaaDoor
