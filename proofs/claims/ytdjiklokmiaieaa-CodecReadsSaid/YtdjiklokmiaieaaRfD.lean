/- The document's reader for layer 2: texts, the rest, the errors: one contract each. -/
import Derived.Test.YtdjiklokmiaieaaRfC
namespace Go.Proofs.Ytdjiklokmiaieaa
open Go.RowKit
set_option linter.unusedVariables false

theorem cells_put {w : World} {g i : Nat} {t : TypeId} {cs cs' : Array Value} {v : Value} (h : Cells w g t cs) (n : Nat) (he : cs.setIfInBounds i v = cs') : Cells ((w.drewN n).setCell ⟨g, i, none⟩ v) g t cs' :=
  he ▸ Cells.set (w := w.drewN n) h i v
theorem refRest (g : Nat) (l : List UInt8) (e : Int) (w : World) (h : Rf w g l e) :
    Calls Try.prog 26 #[.pointer (some ⟨g, 0, none⟩)] w fun E w' => E = .returned (.string (str l)) ∧ w.grownBy w' none := by
  obtain ⟨S, p, hc, h0, h1⟩ := h
  have c0 := rf_c0 hc
  have c1 := rf_c1 hc
  have c2 := rf_c2 hc
  have hs := str_size S
  have hp := hc.2.1
  have hl := hc.2.2
  by_cases he : e = 0
  · have hb : (e != 0) = false := by simp [he]
    have HL := Lib.hid (h0 he)
    have HX := Lib.hid (str_rest S p)
    clear he h0 h1
    go_enter Try.func26, Try.ntmps26
    go_wp2
    go_quiet (fail)
    go_wp2
    go_ret
    exact ⟨by rw [HL.out, ← HX.out]; rfl, grown_drewN w _ _⟩
  · have hb : (e != 0) = true := by simp [he]
    have HL := Lib.hid (h1 he)
    clear he h0 h1
    go_enter Try.func26, Try.ntmps26
    go_wp2
    go_ret
    exact ⟨by rw [HL.out]; rfl, grown_refl w _⟩

theorem refText_err (g : Nat) (l : List UInt8) (e : Int) (w : World) (h : Rf w g l e) (hv : (vd 0 l).err ≠ 0) :
    Calls Try.prog 23 #[.pointer (some ⟨g, 0, none⟩)] w fun E w' => E = .returned (.string (str [])) ∧ RfTo w g [] (fin e (vd 0 l).err) w' := by
  obtain ⟨hr, hval⟩ := vd_err hv
  have hfe : fin e (vd 0 l).err ≠ 0 := by unfold fin; split <;> assumption
  have HR := Lib.hid hr
  have HFE := Lib.hid hfe
  clear hr hfe hv hval
  go_enter Try.func23, Try.ntmps23
  go_wp2_with fail
  refine (refRVar g l e _ h).mono ?_
  rintro E w1 ⟨rfl, hw1⟩
  have c2 := rf_e hw1.1
  have hb : (fin e (vd 0 l).err != 0) = true := by simp [HFE.out]
  rw [HR.out] at hw1
  go_wp2
  go_ret
  exact ⟨rfl, hw1⟩
set_option maxHeartbeats 1000000 in
set_option maxRecDepth 20000 in
theorem refText_short (g : Nat) (l : List UInt8) (w : World) (h : Rf w g l 0) (hv : (vd 0 l).err = 0) (hn : (vd 0 l).rest.length < (vd 0 l).val) :
    Calls Try.prog 23 #[.pointer (some ⟨g, 0, none⟩)] w fun E w' => E = .returned (.string (str [])) ∧ RfTo w g [] 10 w' := by
  have HV := Lib.hid hv
  clear hv
  go_enter Try.func23, Try.ntmps23
  go_wp2_with fail
  refine (refRVar g l 0 _ h).mono ?_
  rintro E w1 ⟨rfl, hw1⟩
  rw [HV.out, fin_of] at hw1
  generalize (vd 0 l).val = n at *
  generalize (vd 0 l).rest = r at *
  obtain ⟨⟨S, p, hc, h0, _⟩, hg1⟩ := hw1
  have hr := h0 rfl
  subst hr
  have hp := hc.2.1
  have hl := hc.2.2
  have c0 := rf_c0 hc
  have c1 := rf_c1 hc
  have c2 := rf_c2 hc
  have hs := str_size S
  have hn2 : S.length - p < n := by simpa using hn
  clear hn h0
  have e1 : IntKind.i64.wrap ((S.length : Int) - (p : Int)) = ((S.length - p : Nat) : Int) := by rw [IntWalk.i64_in _ (by omega)]; omega
  have hkl : S.length - p ≤ 1099511627776 := by omega
  generalize S.length - p = k at *
  have e2 : IntKind.u64.wrap (k : Int) = (k : Int) := u64_id _ (by omega) (by omega)
  have e3 : decide ((k : Int) < (n : Int)) = true := by simp; omega
  go_wp2
  go_quiet (fail)
  go_wp2_with fail
  refine (refFail g p S 0 10 _ (rfc_drewN hc _)).mono ?_
  rintro E w' ⟨rfl, hw, hg⟩
  go_wp2
  go_ret
  exact ⟨rfl, ⟨S, p, hw, fun h => absurd h (by decide), fun _ => rfl⟩, hg1.trans ((grown_drewN _ _ _).trans hg)⟩
set_option maxHeartbeats 1000000 in
set_option maxRecDepth 20000 in
theorem refText_good (g : Nat) (l : List UInt8) (w : World) (h : Rf w g l 0) (hv : (vd 0 l).err = 0) (hn : (vd 0 l).val ≤ (vd 0 l).rest.length) :
    Calls Try.prog 23 #[.pointer (some ⟨g, 0, none⟩)] w fun E w' => E = .returned (.string (str ((vd 0 l).rest.take (vd 0 l).val))) ∧ RfTo w g ((vd 0 l).rest.drop (vd 0 l).val) 0 w' := by
  have HV := Lib.hid hv
  clear hv
  go_enter Try.func23, Try.ntmps23
  go_wp2_with fail
  refine (refRVar g l 0 _ h).mono ?_
  rintro E w1 ⟨rfl, hw1⟩
  rw [HV.out, fin_of] at hw1
  generalize hnn : (vd 0 l).val = n at *
  generalize hrr : (vd 0 l).rest = r at *
  have HNN := Lib.hid hnn
  have HRR := Lib.hid hrr
  clear hnn hrr
  obtain ⟨⟨S, p, hc, h0, _⟩, hg1⟩ := hw1
  have hr := h0 rfl
  subst hr
  have hp := hc.2.1
  have hl := hc.2.2
  have c0 := rf_c0 hc
  have c1 := rf_c1 hc
  have c2 := rf_c2 hc
  have f1 := rf_f hc 1
  have hs := str_size S
  have hn2 : n ≤ S.length - p := by simpa using hn
  clear hn h0
  have e1 : IntKind.i64.wrap ((S.length : Int) - (p : Int)) = ((S.length - p : Nat) : Int) := by rw [IntWalk.i64_in _ (by omega)]; omega
  have hkl : S.length - p ≤ 1099511627776 := by omega
  have hkp : (S.length - p) + p ≤ S.length := by omega
  generalize S.length - p = k at *
  have e2 : IntKind.u64.wrap (k : Int) = (k : Int) := u64_id _ (by omega) (by omega)
  have e3 : decide ((k : Int) < (n : Int)) = false := by simp; omega
  have e4 : IntKind.i64.wrap (n : Int) = (n : Int) := IntWalk.i64_in _ (by omega)
  obtain ⟨q, hq⟩ : ∃ q : Nat, q = p + n := ⟨_, rfl⟩
  have e5 : IntKind.i64.wrap ((p : Int) + (n : Int)) = (q : Int) := by rw [IntWalk.i64_in _ (by omega)]; omega
  have hq1 : q ≤ S.length := by omega
  have hq2 : p ≤ q := by omega
  have HQ := Lib.hid hq
  clear hq
  go_wp2
  go_quiet (fail)
  go_wp2
  go_quiet (fail)
  clear e1 e2 e3
  go_wp2
  go_ret
  refine ⟨?_, ⟨⟨S, q, ⟨?_, hq1, hl⟩, fun _ => ?_, fun h => absurd rfl h⟩, hg1.trans ((grown_drewN w1 _ _).trans (grown_set _ g 1 _))⟩⟩
  · rw [HRR.out, HNN.out]
    have := str_extract S p q
    rw [HQ.out] at this
    rw [show (S.take (p + n)).drop p = (S.drop p).take n from by rw [List.drop_take]; congr 1; omega] at this
    rw [← this, ← HQ.out]
    rfl
  · exact cells_put hc.1 _ (by simp)
  · rw [HRR.out, HNN.out, List.drop_drop, HQ.out]
theorem refText' (g : Nat) (l : List UInt8) (e : Int) (w : World) (h : Rf w g l e) :
    Calls Try.prog 23 #[.pointer (some ⟨g, 0, none⟩)] w fun E w' => E = .returned (.string (str (txd l).val)) ∧ RfTo w g (txd l).rest (fin e (txd l).err) w' := by
  unfold txd
  by_cases hv : (vd 0 l).err = 0
  · rw [if_pos hv]
    have he : e = 0 := by
      by_cases he : e = 0
      · exact he
      · have := rf_bad h he
        rw [this] at hv
        simp [vd] at hv
    subst he
    rw [fin_of]
    unfold tk
    by_cases hn : (vd 0 l).val ≤ (vd 0 l).rest.length
    · rw [if_pos hn]
      exact refText_good g l w h hv hn
    · rw [if_neg hn]
      exact refText_short g l w h hv (by omega)
  · rw [if_neg hv]
    exact refText_err g l e w h hv
end Go.Proofs.Ytdjiklokmiaieaa
