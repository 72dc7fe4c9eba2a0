/- The document's reader for layer 2: vars, texts, the rest: one contract each. -/
import Derived.Test.YtbmkmmkebophpaaDoorRfB
namespace Go.Proofs.YtbmkmmkebophpaaDoor
open Go.RowKit
set_option linter.unusedVariables false

/-- A round of the document's Var, at its head. -/
def RVarRel (w : World) (g : Nat) (l : List UInt8) (n by_ i : Value) (wr : World) : Prop :=
  ∃ (j m P : Nat) (li : List UInt8), i = .int .i64 ((j : Int) + 1) ∧ n = .int .u64 m ∧ by_ = .int .u64 P ∧ P = 2 ^ (7 * j) ∧ VdAt l j m li ∧ RfTo w g li 0 wr
theorem rf_e {w : World} {g : Nat} {l : List UInt8} {e : Int} (h : Rf w g l e) : w.cell? ⟨g, 2, none⟩ = some (.int .i64 e) := by
  obtain ⟨S, p, hc, _⟩ := h; exact rf_c2 hc
theorem rf_bad {w : World} {g : Nat} {l : List UInt8} {e : Int} (h : Rf w g l e) (he : e ≠ 0) : l = [] := by
  obtain ⟨S, p, hc, _, h1⟩ := h; exact h1 he
theorem refFail0 (g : Nat) (l : List UInt8) (c : Int) (w : World) (h : Rf w g l 0) (hc : c ≠ 0) :
    Calls Tryd.prog 67 #[.pointer (some ⟨g, 0, none⟩), .int .i64 c] w fun E w' => E = .returned (.tuple #[]) ∧ RfTo w g [] c w' := by
  obtain ⟨S, p, hcl, _⟩ := h
  refine (refFail g p S 0 c w hcl).mono ?_
  rintro E w' ⟨rfl, hw, hg⟩
  exact ⟨rfl, ⟨S, p, by rwa [fin_of] at hw, fun h => absurd h hc, fun _ => rfl⟩, hg⟩
theorem refOne_nil (g : Nat) (w : World) (h : Rf w g [] 0) :
    Calls Tryd.prog 50 #[.pointer (some ⟨g, 0, none⟩), .int .i64 1] w fun E w' => E = .returned (.int .u64 0) ∧ RfTo w g [] 10 w' := refNum g 1 [] 0 w h (by omega) (by omega)
theorem refOne_cons (g : Nat) (b : UInt8) (r : List UInt8) (w : World) (h : Rf w g (b :: r) 0) :
    Calls Tryd.prog 50 #[.pointer (some ⟨g, 0, none⟩), .int .i64 1] w fun E w' => E = .returned (.int .u64 b.toNat) ∧ RfTo w g r 0 w' := by
  have hn : num 1 (b :: r) = ⟨0, b.toNat, r⟩ := by simp [num, un]
  have := refNum g 1 (b :: r) 0 w h (by omega) (by omega)
  rw [hn] at this
  exact this

set_option maxHeartbeats 2000000 in
set_option maxRecDepth 20000 in
theorem refRVar_good (g : Nat) (l : List UInt8) (w : World) (h : Rf w g l 0) :
    Calls Tryd.prog 52 #[.pointer (some ⟨g, 0, none⟩)] w fun E w' => E = .returned (.int .u64 (vd 0 l).val) ∧ RfTo w g (vd 0 l).rest (vd 0 l).err w' := by
  go_enter Tryd.func52, Tryd.ntmps52
  go_wp2
  go_loopw [3, 4, 5, 6] (fun n y i _ wr => RVarRel w g l n y i wr) (fun _ _ i _ _ => 11 - (intOf i).toNat)
  case atStart => exact ⟨0, 0, 1, l, rfl, rfl, rfl, rfl, vdAt_start l, rf_to h⟩
  case round =>
    obtain ⟨j, m, P, li, rfl, rfl, rfl, hP, hat, hto⟩ := hrel
    have HP := Lib.hid hP
    clear hP
    have hi9 := hat.1
    have c2 := rf_e hto.1
    cases li with
    | nil =>
      have HV := Lib.hid (vdAt_nil hat)
      go_wp2_with fail
      refine (refOne_nil g _ hto.1).mono ?_
      rintro E w1 ⟨rfl, hw1⟩
      have ce := rf_e hw1.1
      have HW := Lib.hid (rfTo_trans hto hw1)
      clear hw1
      go_wp2
      go_ret
      exact ⟨by rw [HV.out]; rfl, by rw [HV.out]; exact HW.out⟩
    | cons b r =>
      have hbb := b.toNat_lt
      by_cases hc : vf j b.toNat = 0
      · have hfacts : (j = 9 → b.toNat = 1) ∧ (b.toNat = 0 → j = 0) := by
          unfold vf at hc
          split at hc
          · omega
          · split at hc
            · omega
            · omega
        obtain ⟨hf1, hf2⟩ := hfacts
        have HL := Lib.hid (fun hb : b.toNat < 128 => vdAt_last hat hc hb)
        have HX := Lib.hid (fun hb : 128 ≤ b.toNat => vdAt_next hat hc hb)
        have hlt := var_lt hat.1 hat.2.1 hbb hc
        rw [← HP.out] at hlt
        obtain ⟨A, hA⟩ : ∃ A : Nat, A = b.toNat % 128 * P := ⟨_, rfl⟩
        obtain ⟨M, hM⟩ : ∃ M : Nat, M = m + A := ⟨_, rfl⟩
        have hAl : A < 18446744073709551616 := by rw [Nat.mul_comm, ← hA] at hlt; omega
        have hMl : M < 18446744073709551616 := by rw [Nat.mul_comm, ← hA] at hlt; omega
        have e1 : IntKind.u64.wrap ((b.toNat : Int) % 128 * (P : Int)) = (A : Int) := by
          rw [show ((b.toNat : Int) % 128 * (P : Int)) = (A : Int) from by rw [hA]; push_cast; rfl]; exact u64_id _ (by omega) (by omega)
        have e2 : IntKind.u64.wrap ((m : Int) + (A : Int)) = (M : Int) := by
          rw [show ((m : Int) + (A : Int)) = (M : Int) from by rw [hM]; push_cast; rfl]; exact u64_id _ (by omega) (by omega)
        have HC := Lib.hid hc
        have HA := Lib.hid hA
        have HM := Lib.hid hM
        clear hc hat hA hM hAl hMl hlt
        go_wp2_with fail
        refine (refOne_cons g b r _ hto.1).mono ?_
        rintro E w1 ⟨rfl, hw1⟩
        have ce := rf_e hw1.1
        have HW := Lib.hid (rfTo_trans hto hw1)
        clear hw1
        by_cases h9 : j = 9
        · have hb1 := hf1 h9
          have hb : b.toNat < 128 := by omega
          subst h9
          have hb0 : ((b.toNat : Int) == 0) = false := by simp; omega
          have hle : b.toNat ≤ 1 := by omega
          have HB1 := Lib.hid hb1
          clear hb1 hf1 hf2
          have HE := Lib.hid (HL.out hb)
          go_wp2
          go_ret
          refine ⟨by rw [HE.out, HM.out, HA.out, HP.out, Nat.mod_eq_of_lt hb, Nat.mul_comm]; rfl, ?_⟩
          rw [HE.out]
          exact HW.out
        · have h10 : (((j : Int) + 1) == 10) = false := by simp; omega
          by_cases hz : b.toNat = 0
          · have hj0 := hf2 hz
            have hb : b.toNat < 128 := by omega
            have hb0 : ((b.toNat : Int) == 0) = true := by simp; omega
            subst hj0
            clear hf1 hf2
            have HZ := Lib.hid hz
            clear hz
            have HE := Lib.hid (HL.out hb)
            go_wp2
            go_ret
            refine ⟨by rw [HE.out, HM.out, HA.out, HP.out, Nat.mod_eq_of_lt hb, Nat.mul_comm]; rfl, ?_⟩
            rw [HE.out]
            exact HW.out
          · have hb0 : ((b.toNat : Int) == 0) = false := by simp; omega
            clear hf1 hf2
            by_cases hb : b.toNat < 128
            · have HE := Lib.hid (HL.out hb)
              go_wp2
              go_ret
              refine ⟨by rw [HE.out]; show _ = Ending.returned (.int .u64 ((m + 2 ^ (7 * j) * b.toNat : Nat) : Int)); rw [← HP.out, Nat.mul_comm, ← Nat.mod_eq_of_lt hb, ← HA.out, ← HM.out]; rfl, ?_⟩
              rw [HE.out]
              exact HW.out
            · have HE := Lib.hid (HX.out (by omega))
              have hj9 : j < 9 := by omega
              have HPP := Lib.hid (show P * 128 = 2 ^ (7 * (j + 1)) from by rw [HP.out, show 7 * (j + 1) = 7 * j + 7 from by omega, Nat.pow_add])
              have hPl : P * 128 < 18446744073709551616 := by
                rw [HPP.out]
                exact Nat.lt_of_le_of_lt (Nat.pow_le_pow_right (n := 2) (by omega) (show 7 * (j + 1) ≤ 63 from by omega)) (by decide)
              obtain ⟨P2, hP2⟩ : ∃ P2 : Nat, P2 = P * 128 := ⟨_, rfl⟩
              have e3 : IntKind.u64.wrap ((P : Int) * 128) = (P2 : Int) := by
                rw [show ((P : Int) * 128) = (P2 : Int) from by rw [hP2]; push_cast; rfl]; exact u64_id _ (by omega) (by omega)
              have HP2 := Lib.hid hP2
              clear hP2 hPl
              go_wp2
              go_roundw
              case rel => exact ⟨j + 1, M, P2, r, by go_num, rfl, rfl, by rw [HP2.out, HPP.out], by rw [HM.out, HA.out, HP.out, Nat.mul_comm]; exact HE.out, HW.out⟩
              case measure => simp [intOf]; omega
      · have HE := Lib.hid (vdAt_fault hat hc)
        clear hat
        by_cases h9 : j = 9
        · subst h9
          by_cases h1 : 1 < b.toNat
          · have HVF := Lib.hid (show vf 9 b.toNat = 3 from by simp [vf, h1])
            clear hc
            go_wp2_with fail
            refine (refOne_cons g b r _ hto.1).mono ?_
            rintro E w1 ⟨rfl, hw1⟩
            have ce := rf_e hw1.1
            have HW := Lib.hid (rfTo_trans hto hw1)
            have hr1 := hw1.1
            clear hw1
            go_wp2_with fail
            refine (refFail0 g r 3 _ hr1 (by decide)).mono ?_
            rintro E w2 ⟨rfl, hw2⟩
            have HW2 := Lib.hid (rfTo_trans HW.out hw2)
            clear hw2
            go_wp2
            go_ret
            exact ⟨by rw [HE.out, HVF.out]; rfl, by rw [HE.out, HVF.out]; exact HW2.out⟩
          · have hz : b.toNat = 0 := by
              unfold vf at hc
              split at hc
              · omega
              · split at hc
                · omega
                · omega
            have HVF := Lib.hid (show vf 9 b.toNat = 4 from by simp [vf, hz])
            have hb0 : ((b.toNat : Int) == 0) = true := by simp; omega
            have HZ := Lib.hid hz
            clear hc hz
            go_wp2_with fail
            refine (refOne_cons g b r _ hto.1).mono ?_
            rintro E w1 ⟨rfl, hw1⟩
            have ce := rf_e hw1.1
            have HW := Lib.hid (rfTo_trans hto hw1)
            have hr1 := hw1.1
            clear hw1
            go_wp2_with fail
            refine (refFail0 g r 4 _ hr1 (by decide)).mono ?_
            rintro E w2 ⟨rfl, hw2⟩
            have HW2 := Lib.hid (rfTo_trans HW.out hw2)
            clear hw2
            go_wp2
            go_ret
            exact ⟨by rw [HE.out, HVF.out]; rfl, by rw [HE.out, HVF.out]; exact HW2.out⟩
        · have h10 : (((j : Int) + 1) == 10) = false := by simp; omega
          have hz : b.toNat = 0 ∧ 0 < j := by
            unfold vf at hc
            split at hc
            · omega
            · split at hc
              · omega
              · omega
          have HVF := Lib.hid (show vf j b.toNat = 4 from by unfold vf; rw [if_neg (by omega), if_pos (by omega)])
          have hb0 : ((b.toNat : Int) == 0) = true := by simp; omega
          have hj := hz.2
          clear hc hz
          go_wp2_with fail
          refine (refOne_cons g b r _ hto.1).mono ?_
          rintro E w1 ⟨rfl, hw1⟩
          have ce := rf_e hw1.1
          have HW := Lib.hid (rfTo_trans hto hw1)
          have hr1 := hw1.1
          clear hw1
          go_wp2_with fail
          refine (refFail0 g r 4 _ hr1 (by decide)).mono ?_
          rintro E w2 ⟨rfl, hw2⟩
          have HW2 := Lib.hid (rfTo_trans HW.out hw2)
          clear hw2
          go_wp2
          go_ret
          exact ⟨by rw [HE.out, HVF.out]; rfl, by rw [HE.out, HVF.out]; exact HW2.out⟩
theorem refRVar (g : Nat) (l : List UInt8) (e : Int) (w : World) (h : Rf w g l e) :
    Calls Tryd.prog 52 #[.pointer (some ⟨g, 0, none⟩)] w fun E w' => E = .returned (.int .u64 (vd 0 l).val) ∧ RfTo w g (vd 0 l).rest (fin e (vd 0 l).err) w' := by
  by_cases he : e = 0
  · subst he
    rw [fin_of]
    exact refRVar_good g l w h
  · have hl := rf_bad h he
    subst hl
    have hb : (e == 0) = false := beq_eq_false_iff_ne.2 he
    have c2 := rf_e h
    have HE := Lib.hid he
    clear he
    go_enter Tryd.func52, Tryd.ntmps52
    go_wp2
    go_loopw [3, 4, 5, 6] (fun n y i _ wr => wr = w) (fun _ _ _ _ _ => 0)
    case atStart => rfl
    case round =>
      subst hrel
      go_wp2
      go_ret
      refine ⟨rfl, ?_⟩
      rw [fin, if_neg HE.out]
      exact rf_to h
end Go.Proofs.YtbmkmmkebophpaaDoor
