/- The document's Pack: one contract. Condition: lists of at most 2^30 inputs. -/
import Derived.Test.YtkhecaohbmlnlaaIp
import Derived.Deep.RegionLaw
namespace Go.Proofs.Ytkhecaohbmlnlaa
open Go.RowKit
set_option linter.unusedVariables false

/-- Where the document's Pack has come to, at input k. -/
def PackAt (w : World) (l : List UInt8) (k : Nat) (s3 s4 s5 : Value) (wr : World) : Prop :=
  ∃ done : List (Nat × UInt8), k ≤ l.length ∧ s5 = .int .i64 k ∧ s3 = .int .u64 done.length ∧ s4 = .string (str (er done)) ∧ ok64 (l.take k) ∧
    gp none l = done ++ gp (l.take k).getLast? (l.drop k) ∧ w.grownBy wr none
theorem drop_at (l : List UInt8) (k : Nat) (h : k < l.length) : l.drop k = (l[k]'h) :: l.drop (k + 1) := List.drop_eq_getElem_cons h
theorem take_last (l : List UInt8) (k : Nat) (h : k < l.length) : (l.take (k + 1)).getLast? = some (l[k]'h) := by
  rw [last_at (l.take (k + 1)) k (by simp; omega) (by simp; omega)]
  simp
theorem take_ok {l : List UInt8} {k : Nat} (h : k < l.length) (h1 : ok64 (l.take k)) (h2 : (l[k]'h).toNat < 64) : ok64 (l.take (k + 1)) := by
  rw [List.take_succ_eq_append_getElem h]
  exact ok_append.2 ⟨h1, by intro x hx; simp at hx; subst hx; exact h2⟩
theorem cell_on {w w' : World} {p : Addr} {v : Value} (h : w.grownBy w' none) (hc : w.cell? p = some v) : w'.cell? p = some v :=
  ((below_of_grown h).cell (World.block_lt_of_cell? w _ hc)).trans hc
theorem cell_al {w : World} {p : Addr} {v : Value} (o : Obj) (hc : w.cell? p = some v) : (w.alloc o).cell? p = some v :=
  cell_on (World.grownBy_alloc w o none) hc
theorem cell_nw (w : World) (v : Value) (t : TypeId) : (w.alloc (.cells #[v] t)).cell? ⟨w.heap.size, 0, none⟩ = some v := by
  rw [(Cells.made w t #[v]).cell]; rfl
theorem grown_drew' {w w' : World} (h : w.drew.grownBy w' none) : w.grownBy w' none := ⟨h.os, h.tape, h.output, h.size, h.block⟩
/-- One byte as a string. -/
theorem conv_one (a : UInt8) (W : World) (g : Nat) (h : W.cell? ⟨g, 0, none⟩ = some (.int .u8 (a.toNat : Int))) :
    (convert 48 9 (.slice (some ⟨g, 0, none⟩) 1 1)).run Try.prog W = .ok (.string (str [a])) W := by
  refine run_convert_bytes_back W _ _ 5 _ _ [a] Try.underlying48 Try.underlying5 Try.underlying9 (fun j hj => ?_)
  have : j = 0 := by simp at hj; omega
  subst this
  have e : (⟨g, 0, none⟩ : Addr).add 0 = ⟨g, 0, none⟩ := rfl
  rw [e]; exact h
theorem conv_new (a : UInt8) (W : World) : (convert 48 9 (.slice (some ⟨W.heap.size, 0, none⟩) 1 1)).run Try.prog (W.alloc (.cells #[.int .u8 (a.toNat : Int)] 5)) = .ok (.string (str [a])) (W.alloc (.cells #[.int .u8 (a.toNat : Int)] 5)) :=
  conv_one a _ _ (cell_nw _ _ _)
theorem conv_drew (a : UInt8) (W : World) : (convert 48 9 (.slice (some ⟨W.heap.size, 0, none⟩) 1 1)).run Try.prog (W.alloc (.cells #[.int .u8 (a.toNat : Int)] 5)).drew = .ok (.string (str [a])) (W.alloc (.cells #[.int .u8 (a.toNat : Int)] 5)).drew :=
  conv_one a _ _ (cell_nw W _ _)
set_option maxHeartbeats 4000000 in
set_option maxRecDepth 20000 in
theorem refPack (ao : Option Addr) (cap : Nat) (l : List UInt8) (w : World) (h : Ins w ao l) (hl : l.length ≤ 1073741824) :
    Calls Try.prog 20 #[.slice ao l.length cap] w fun E w' => E = .returned (.string (str (pk l))) ∧ w.grownBy w' none := by
  have H := Lib.hid h
  have HLL := Lib.hid (gp_len l none)
  clear h
  go_enter Try.func20, Try.ntmps20
  go_wp2
  go_loopw [3, 4, 5] (fun s3 s4 s5 wr => ∃ k : Nat, PackAt w l k s3 s4 s5 wr) (fun _ _ i _ => l.length - (intOf i).toNat)
  case atStart => exact ⟨0, [], Nat.zero_le _, rfl, rfl, rfl, by simpa using ok_nil, by simp, grown_refl _ _⟩
  case round =>
    obtain ⟨k, done, hk, rfl, rfl, rfl, hok, hgp, hg⟩ := hrel
    have HOK := Lib.hid hok
    have HGP := Lib.hid hgp
    have HG := Lib.hid hg
    have hdl : Hid (done.length ≤ (gp none l).length) := by show _ ≤ _; rw [hgp, List.length_append]; omega
    have hbw := below_of_grown hg
    have HIN := Lib.hid (ins_below H.out hbw (Nat.le_refl _))
    clear hok hgp hg hbw
    by_cases hlt : k < l.length
    · obtain ⟨b, o, rfl, hcell⟩ := HIN.out k hlt
      have HD := Lib.hid (drop_at l k hlt)
      have HTL := Lib.hid (take_last l k hlt)
      by_cases h64 : (l[k]'hlt).toNat < 64
      · have hd : decide ((l[k]'hlt).toNat < 64) = true := by simpa using h64
        have HO2 := Lib.hid (take_ok hlt HOK.out h64)
        have hlc := refLegal (l[k]'hlt).toNat wr
        rw [hd] at hlc
        clear hd h64
        by_cases hsame : (l.take k).getLast? = some (l[k]'hlt)
        · -- the same as the one ahead
          have hk0 : 0 < k := by
            rcases Nat.eq_zero_or_pos k with e | e
            · subst e; simp at hsame
            · exact e
          obtain ⟨b', o', e', hcell'⟩ := HIN.out (k - 1) (by omega)
          injection e' with e'
          injection e' with e1 e2
          subst e1 e2
          have hv : l[k - 1]'(by omega) = l[k]'hlt := by
            have := take_last l (k - 1) (by omega)
            rw [show k - 1 + 1 = k from by omega, hsame] at this
            exact (Option.some.inj this).symm
          rw [hv] at hcell'
          have hidx : ((k : Int) - 1) = ((k - 1 : Nat) : Int) := by omega
          have hi0 : (0 : Int) ≤ (k : Int) - 1 := by omega
          have hi1 : ((k : Int) - 1) < (l.length : Int) := by omega
          have htn : ((k : Int) - 1).toNat = k - 1 := by omega
          have HE : Hid (gp none l = done ++ gp (l.take (k + 1)).getLast? (l.drop (k + 1))) := by
            show _ = _
            rw [HGP.out, HD.out, HTL.out, hsame, gp, if_pos rfl]
          have hgt : (0 : Int) < (k : Int) := by omega
          clear hv hsame hidx
          generalize (l[k]'hlt).toNat = v at *
          go_wp2_with fail
          refine hlc.mono ?_
          rintro E w1 ⟨rfl, rfl⟩
          go_wp2_with fail
          go_quiet (fail)
          go_wp2
          go_roundw
          case rel => exact ⟨k + 1, done, by omega, by go_num, rfl, rfl, HO2.out, HE.out, HG.out.trans (grown_drewN _ _ _)⟩
          case measure => simp [intOf]; omega
        · -- a new run
          obtain ⟨a, ha⟩ : ∃ a, l[k]'hlt = a := ⟨_, rfl⟩
          have HA := Lib.hid ha
          have HE : Hid (gp none l = done ++ ((cnt a (l.drop k), a) :: gp (l.take (k + 1)).getLast? (l.drop (k + 1)))) := by
            show _ = _
            rw [HGP.out, HD.out, HTL.out, ha, gp, if_neg (by rw [← ha]; exact hsame)]
            simp [cnt]
          rw [ha] at hcell hlc
          have hcmp : 0 < k → ∃ v : UInt8, wr.cell? ⟨b, o + (k - 1), none⟩ = some (.int .u8 (v.toNat : Int)) ∧ ((a.toNat : Int) == (v.toNat : Int)) = false := fun hk0 => by
            obtain ⟨b', o', e', hcell'⟩ := HIN.out (k - 1) (by omega)
            injection e' with e'
            injection e' with e1 e2
            subst e1 e2
            refine ⟨_, hcell', ?_⟩
            rw [beq_eq_false_iff_ne]
            intro e
            refine hsame ?_
            have := take_last l (k - 1) (by omega)
            rw [show k - 1 + 1 = k from by omega] at this
            rw [this, ha, show l[k - 1]'(by omega) = a from UInt8.toNat_inj.1 (by omega)]
          have HCMP := Lib.hid hcmp
          clear hsame hcmp ha
          go_wp2_with fail
          refine hlc.mono ?_
          rintro E w1 ⟨rfl, rfl⟩
          by_cases hk0 : 0 < k
          · obtain ⟨v, hcv, hne⟩ := HCMP.out hk0
            have hi0 : (0 : Int) ≤ (k : Int) - 1 := by omega
            have hi1 : ((k : Int) - 1) < (l.length : Int) := by omega
            have htn : ((k : Int) - 1).toNat = k - 1 := by omega
            have hgt : (0 : Int) < (k : Int) := by omega
            go_wp2_with fail
            go_quiet (fail)
            go_wp2
            clear hcv hne hi0 hi1 htn hgt
            have HG2 := Lib.hid (HG.out.trans (grown_drewN wr nq none))
            generalize wr.drewN nq = wx at *
            go_loopw [6] (fun s6 wy => ∃ m : Nat, s6 = .int .i64 (m : Int) ∧ k ≤ m ∧ m ≤ l.length ∧ Hid (∀ i, i < m - k → (l.drop k)[i]? = some a) ∧ w.grownBy wy none) (fun i _ => l.length - (intOf i).toNat)
            case atStart => exact ⟨k, rfl, Nat.le_refl _, by omega, fun i hi => by omega, HG2.out⟩
            case round =>
              obtain ⟨m, rfl, hkm, hml, HJ, hg3⟩ := hrel
              have HG3 := Lib.hid hg3
              have hbw3 := below_of_grown hg3
              have HIZ := Lib.hid (ins_below H.out hbw3 (Nat.le_refl _))
              obtain ⟨b1, o1, e1, hck⟩ := HIZ.out k hlt
              injection e1 with e1
              injection e1 with e2 e3
              subst e2 e3
              rw [HA.out] at hck
              clear hg3 hbw3
              have hxm : (m : Int) - (k : Int) = ((m - k : Nat) : Int) := by omega
              have HXM := Lib.hid hxm
              clear hxm
              by_cases hlm : m < l.length
              · obtain ⟨b1, o1, e1, hcm⟩ := HIZ.out m hlm
                injection e1 with e1
                injection e1 with e2 e3
                subst e2 e3
                have hzm : (m : Int) < (l.length : Int) := by omega
                have hdm : (l.drop k)[m - k]? = some (l[m]'hlm) := by
                  rw [List.getElem?_drop, show k + (m - k) = m from by omega, List.getElem?_eq_getElem hlm]
                by_cases hx : l[m]'hlm = a
                · rw [hx] at hdm hcm
                  have HDM := Lib.hid hdm
                  clear hx hdm
                  go_wp2_with fail
                  go_quiet (fail)
                  go_wp2
                  go_roundw
                  case rel =>
                    refine ⟨m + 1, by go_num, by omega, by omega, fun i hi => ?_, HG3.out.trans (grown_drewN _ _ _)⟩
                    by_cases h : i < m - k
                    · exact HJ.out i h
                    · have : i = m - k := by omega
                      subst this
                      exact HDM.out
                  case measure => simp [intOf]; omega
                · have HK : Hid (cnt a (l.drop k) = m - k) := cnt_unique a _ _ (by simp; omega) HJ.out (by rw [hdm]; simpa using hx)
                  have hne2 : (((l[m]'hlm).toNat : Int) == (a.toNat : Int)) = false := by
                    rw [beq_eq_false_iff_ne]
                    intro e
                    exact hx (UInt8.toNat_inj.1 (by omega))
                  clear hx hdm
                  generalize (l[m]'hlm).toNat = v2 at *
                  go_wp2_with fail
                  go_quiet (fail)
                  go_wp2
                  have HG4 := Lib.hid (HG3.out.trans (grown_drewN wr nq none))
                  have hbw4 := below_of_grown HG4.out
                  obtain ⟨b1, o1, e1, hc4⟩ := ins_below H.out hbw4 (Nat.le_refl _) k hlt
                  injection e1 with e1
                  injection e1 with e2 e3
                  subst e2 e3
                  rw [HA.out] at hc4
                  clear hck hbw4
                  generalize wr.drewN nq = w4 at *
                  obtain ⟨q, hq⟩ : ∃ q, q = m - k := ⟨_, rfl⟩
                  have HQ := Lib.hid hq
                  have hw1 : IntKind.i64.wrap ((m : Int) - (k : Int)) = (q : Int) := by rw [IntWalk.i64_in _ (by omega)]; omega
                  have hw2 : IntKind.u64.wrap (q : Int) = (q : Int) := u64_id _ (by omega) (by omega)
                  have hqb : q < 18446744073709551616 := by omega
                  have HQB := Lib.hid hqb
                  clear hq hqb
                  have HSTR : Hid (str (er done) ++ str (vr q) ++ str [a] = str (er (done ++ [(q, a)]))) := by
                    show _ = _
                    rw [str_append, str_append, er_append]; simp [er]
                  have hno1 : ¬ (9223372036854775807 < (str (er done)).size + (str (vr q)).size) := by
                    have := er_len done; have := (vr_len q).2; have := hdl.out; have := HLL.out
                    rw [str_size, str_size]; omega
                  have hno2 : ¬ (9223372036854775807 < (str (er done)).size + (str (vr q)).size + (str [a]).size) := by
                    have := er_len done; have := (vr_len q).2; have := hdl.out; have := HLL.out
                    rw [str_size, str_size, str_size]; simp; omega
                  have hconv := conv_new a
                  have hconv2 := conv_drew a
                  go_region_law (first | (go_simp; go_at_call 35; refine (refVar q _ HQB.out).mono ?_; rintro E w5 ⟨rfl, hg5⟩; first | (have hc5 := cell_on hg5 hc4) | (have hc5 := cell_on hg5 (cell_al _ hc4); have hc6 := conv_one a _ _ (cell_on hg5 (cell_nw _ _ _)))))
                  all_goals (
                    have hdn : done.length ≤ 1073741824 := by have := hdl.out; have := HLL.out; omega
                    clear hno1 hno2 hw1 hw2 hconv hconv2 hc4
                    go_wp2
                    go_roundw)
                  all_goals first
                    | (case measure => simp [intOf]; omega)
                    | (case rel => exact ⟨k + 1, done ++ [(q, a)], by omega, by go_num, by simp, by rw [HSTR.out], HO2.out, by rw [HE.out, HK.out, ← HQ.out]; simp, HG4.out.trans ((grown_drew' hg5).trans (World.grownBy_alloc _ _ none))⟩)
                    | (case rel => exact ⟨k + 1, done ++ [(q, a)], by omega, by go_num, by simp, by rw [HSTR.out], HO2.out, by rw [HE.out, HK.out, ← HQ.out]; simp, HG4.out.trans ((World.grownBy_alloc _ _ none).trans (grown_drew' hg5))⟩)
              · have hzm : decide ((m : Int) < (l.length : Int)) = false := by simp; omega
                have hmm : m = l.length := by omega
                have HK : Hid (cnt a (l.drop k) = m - k) := cnt_unique a _ _ (by simp; omega) HJ.out (by rw [List.getElem?_eq_none (by simp; omega)]; simp)
                have HMM := Lib.hid hmm
                clear hmm
                go_wp2_with fail
                go_quiet (fail)
                go_wp2
                have HG4 := Lib.hid (HG3.out.trans (grown_drewN wr nq none))
                have hbw4 := below_of_grown HG4.out
                obtain ⟨b1, o1, e1, hc4⟩ := ins_below H.out hbw4 (Nat.le_refl _) k hlt
                injection e1 with e1
                injection e1 with e2 e3
                subst e2 e3
                rw [HA.out] at hc4
                clear hck hbw4
                generalize wr.drewN nq = w4 at *
                obtain ⟨q, hq⟩ : ∃ q, q = m - k := ⟨_, rfl⟩
                have HQ := Lib.hid hq
                have hw1 : IntKind.i64.wrap ((m : Int) - (k : Int)) = (q : Int) := by rw [IntWalk.i64_in _ (by omega)]; omega
                have hw2 : IntKind.u64.wrap (q : Int) = (q : Int) := u64_id _ (by omega) (by omega)
                have hqb : q < 18446744073709551616 := by omega
                have HQB := Lib.hid hqb
                clear hq hqb
                have HSTR : Hid (str (er done) ++ str (vr q) ++ str [a] = str (er (done ++ [(q, a)]))) := by
                  show _ = _
                  rw [str_append, str_append, er_append]; simp [er]
                have hno1 : ¬ (9223372036854775807 < (str (er done)).size + (str (vr q)).size) := by
                  have := er_len done; have := (vr_len q).2; have := hdl.out; have := HLL.out
                  rw [str_size, str_size]; omega
                have hno2 : ¬ (9223372036854775807 < (str (er done)).size + (str (vr q)).size + (str [a]).size) := by
                  have := er_len done; have := (vr_len q).2; have := hdl.out; have := HLL.out
                  rw [str_size, str_size, str_size]; simp; omega
                have hconv := conv_new a
                have hconv2 := conv_drew a
                go_region_law (first | (go_simp; go_at_call 35; refine (refVar q _ HQB.out).mono ?_; rintro E w5 ⟨rfl, hg5⟩; first | (have hc5 := cell_on hg5 hc4) | (have hc5 := cell_on hg5 (cell_al _ hc4); have hc6 := conv_one a _ _ (cell_on hg5 (cell_nw _ _ _)))))
                all_goals (
                  have hdn : done.length ≤ 1073741824 := by have := hdl.out; have := HLL.out; omega
                  clear hno1 hno2 hw1 hw2 hconv hconv2 hc4
                  go_wp2
                  go_roundw)
                all_goals first
                  | (case measure => simp [intOf]; omega)
                  | (case rel => exact ⟨k + 1, done ++ [(q, a)], by omega, by go_num, by simp, by rw [HSTR.out], HO2.out, by rw [HE.out, HK.out, ← HQ.out]; simp, HG4.out.trans ((grown_drew' hg5).trans (World.grownBy_alloc _ _ none))⟩)
                  | (case rel => exact ⟨k + 1, done ++ [(q, a)], by omega, by go_num, by simp, by rw [HSTR.out], HO2.out, by rw [HE.out, HK.out, ← HQ.out]; simp, HG4.out.trans ((World.grownBy_alloc _ _ none).trans (grown_drew' hg5))⟩)
          · have hgt : decide ((0 : Int) < (k : Int)) = false := by simp; omega
            go_wp2_with fail
            go_quiet (fail)
            go_wp2
            clear hgt
            have HG2 := Lib.hid (HG.out.trans (grown_drewN wr nq none))
            generalize wr.drewN nq = wx at *
            go_loopw [6] (fun s6 wy => ∃ m : Nat, s6 = .int .i64 (m : Int) ∧ k ≤ m ∧ m ≤ l.length ∧ Hid (∀ i, i < m - k → (l.drop k)[i]? = some a) ∧ w.grownBy wy none) (fun i _ => l.length - (intOf i).toNat)
            case atStart => exact ⟨k, rfl, Nat.le_refl _, by omega, fun i hi => by omega, HG2.out⟩
            case round =>
              obtain ⟨m, rfl, hkm, hml, HJ, hg3⟩ := hrel
              have HG3 := Lib.hid hg3
              have hbw3 := below_of_grown hg3
              have HIZ := Lib.hid (ins_below H.out hbw3 (Nat.le_refl _))
              obtain ⟨b1, o1, e1, hck⟩ := HIZ.out k hlt
              injection e1 with e1
              injection e1 with e2 e3
              subst e2 e3
              rw [HA.out] at hck
              clear hg3 hbw3
              have hxm : (m : Int) - (k : Int) = ((m - k : Nat) : Int) := by omega
              have HXM := Lib.hid hxm
              clear hxm
              by_cases hlm : m < l.length
              · obtain ⟨b1, o1, e1, hcm⟩ := HIZ.out m hlm
                injection e1 with e1
                injection e1 with e2 e3
                subst e2 e3
                have hzm : (m : Int) < (l.length : Int) := by omega
                have hdm : (l.drop k)[m - k]? = some (l[m]'hlm) := by
                  rw [List.getElem?_drop, show k + (m - k) = m from by omega, List.getElem?_eq_getElem hlm]
                by_cases hx : l[m]'hlm = a
                · rw [hx] at hdm hcm
                  have HDM := Lib.hid hdm
                  clear hx hdm
                  go_wp2_with fail
                  go_quiet (fail)
                  go_wp2
                  go_roundw
                  case rel =>
                    refine ⟨m + 1, by go_num, by omega, by omega, fun i hi => ?_, HG3.out.trans (grown_drewN _ _ _)⟩
                    by_cases h : i < m - k
                    · exact HJ.out i h
                    · have : i = m - k := by omega
                      subst this
                      exact HDM.out
                  case measure => simp [intOf]; omega
                · have HK : Hid (cnt a (l.drop k) = m - k) := cnt_unique a _ _ (by simp; omega) HJ.out (by rw [hdm]; simpa using hx)
                  have hne2 : (((l[m]'hlm).toNat : Int) == (a.toNat : Int)) = false := by
                    rw [beq_eq_false_iff_ne]
                    intro e
                    exact hx (UInt8.toNat_inj.1 (by omega))
                  clear hx hdm
                  generalize (l[m]'hlm).toNat = v2 at *
                  go_wp2_with fail
                  go_quiet (fail)
                  go_wp2
                  have HG4 := Lib.hid (HG3.out.trans (grown_drewN wr nq none))
                  have hbw4 := below_of_grown HG4.out
                  obtain ⟨b1, o1, e1, hc4⟩ := ins_below H.out hbw4 (Nat.le_refl _) k hlt
                  injection e1 with e1
                  injection e1 with e2 e3
                  subst e2 e3
                  rw [HA.out] at hc4
                  clear hck hbw4
                  generalize wr.drewN nq = w4 at *
                  obtain ⟨q, hq⟩ : ∃ q, q = m - k := ⟨_, rfl⟩
                  have HQ := Lib.hid hq
                  have hw1 : IntKind.i64.wrap ((m : Int) - (k : Int)) = (q : Int) := by rw [IntWalk.i64_in _ (by omega)]; omega
                  have hw2 : IntKind.u64.wrap (q : Int) = (q : Int) := u64_id _ (by omega) (by omega)
                  have hqb : q < 18446744073709551616 := by omega
                  have HQB := Lib.hid hqb
                  clear hq hqb
                  have HSTR : Hid (str (er done) ++ str (vr q) ++ str [a] = str (er (done ++ [(q, a)]))) := by
                    show _ = _
                    rw [str_append, str_append, er_append]; simp [er]
                  have hno1 : ¬ (9223372036854775807 < (str (er done)).size + (str (vr q)).size) := by
                    have := er_len done; have := (vr_len q).2; have := hdl.out; have := HLL.out
                    rw [str_size, str_size]; omega
                  have hno2 : ¬ (9223372036854775807 < (str (er done)).size + (str (vr q)).size + (str [a]).size) := by
                    have := er_len done; have := (vr_len q).2; have := hdl.out; have := HLL.out
                    rw [str_size, str_size, str_size]; simp; omega
                  have hconv := conv_new a
                  have hconv2 := conv_drew a
                  go_region_law (first | (go_simp; go_at_call 35; refine (refVar q _ HQB.out).mono ?_; rintro E w5 ⟨rfl, hg5⟩; first | (have hc5 := cell_on hg5 hc4) | (have hc5 := cell_on hg5 (cell_al _ hc4); have hc6 := conv_one a _ _ (cell_on hg5 (cell_nw _ _ _)))))
                  all_goals (
                    have hdn : done.length ≤ 1073741824 := by have := hdl.out; have := HLL.out; omega
                    clear hno1 hno2 hw1 hw2 hconv hconv2 hc4
                    go_wp2
                    go_roundw)
                  all_goals first
                    | (case measure => simp [intOf]; omega)
                    | (case rel => exact ⟨k + 1, done ++ [(q, a)], by omega, by go_num, by simp, by rw [HSTR.out], HO2.out, by rw [HE.out, HK.out, ← HQ.out]; simp, HG4.out.trans ((grown_drew' hg5).trans (World.grownBy_alloc _ _ none))⟩)
                    | (case rel => exact ⟨k + 1, done ++ [(q, a)], by omega, by go_num, by simp, by rw [HSTR.out], HO2.out, by rw [HE.out, HK.out, ← HQ.out]; simp, HG4.out.trans ((World.grownBy_alloc _ _ none).trans (grown_drew' hg5))⟩)
              · have hzm : decide ((m : Int) < (l.length : Int)) = false := by simp; omega
                have hmm : m = l.length := by omega
                have HK : Hid (cnt a (l.drop k) = m - k) := cnt_unique a _ _ (by simp; omega) HJ.out (by rw [List.getElem?_eq_none (by simp; omega)]; simp)
                have HMM := Lib.hid hmm
                clear hmm
                go_wp2_with fail
                go_quiet (fail)
                go_wp2
                have HG4 := Lib.hid (HG3.out.trans (grown_drewN wr nq none))
                have hbw4 := below_of_grown HG4.out
                obtain ⟨b1, o1, e1, hc4⟩ := ins_below H.out hbw4 (Nat.le_refl _) k hlt
                injection e1 with e1
                injection e1 with e2 e3
                subst e2 e3
                rw [HA.out] at hc4
                clear hck hbw4
                generalize wr.drewN nq = w4 at *
                obtain ⟨q, hq⟩ : ∃ q, q = m - k := ⟨_, rfl⟩
                have HQ := Lib.hid hq
                have hw1 : IntKind.i64.wrap ((m : Int) - (k : Int)) = (q : Int) := by rw [IntWalk.i64_in _ (by omega)]; omega
                have hw2 : IntKind.u64.wrap (q : Int) = (q : Int) := u64_id _ (by omega) (by omega)
                have hqb : q < 18446744073709551616 := by omega
                have HQB := Lib.hid hqb
                clear hq hqb
                have HSTR : Hid (str (er done) ++ str (vr q) ++ str [a] = str (er (done ++ [(q, a)]))) := by
                  show _ = _
                  rw [str_append, str_append, er_append]; simp [er]
                have hno1 : ¬ (9223372036854775807 < (str (er done)).size + (str (vr q)).size) := by
                  have := er_len done; have := (vr_len q).2; have := hdl.out; have := HLL.out
                  rw [str_size, str_size]; omega
                have hno2 : ¬ (9223372036854775807 < (str (er done)).size + (str (vr q)).size + (str [a]).size) := by
                  have := er_len done; have := (vr_len q).2; have := hdl.out; have := HLL.out
                  rw [str_size, str_size, str_size]; simp; omega
                have hconv := conv_new a
                have hconv2 := conv_drew a
                go_region_law (first | (go_simp; go_at_call 35; refine (refVar q _ HQB.out).mono ?_; rintro E w5 ⟨rfl, hg5⟩; first | (have hc5 := cell_on hg5 hc4) | (have hc5 := cell_on hg5 (cell_al _ hc4); have hc6 := conv_one a _ _ (cell_on hg5 (cell_nw _ _ _)))))
                all_goals (
                  have hdn : done.length ≤ 1073741824 := by have := hdl.out; have := HLL.out; omega
                  clear hno1 hno2 hw1 hw2 hconv hconv2 hc4
                  go_wp2
                  go_roundw)
                all_goals first
                  | (case measure => simp [intOf]; omega)
                  | (case rel => exact ⟨k + 1, done ++ [(q, a)], by omega, by go_num, by simp, by rw [HSTR.out], HO2.out, by rw [HE.out, HK.out, ← HQ.out]; simp, HG4.out.trans ((grown_drew' hg5).trans (World.grownBy_alloc _ _ none))⟩)
                  | (case rel => exact ⟨k + 1, done ++ [(q, a)], by omega, by go_num, by simp, by rw [HSTR.out], HO2.out, by rw [HE.out, HK.out, ← HQ.out]; simp, HG4.out.trans ((World.grownBy_alloc _ _ none).trans (grown_drew' hg5))⟩)
      · have hd : decide ((l[k]'hlt).toNat < 64) = false := by simpa using h64
        have HP : Hid (pk l = []) := by
          show _ = _
          unfold pk
          rw [if_neg (fun h => h64 (h _ (List.getElem_mem hlt)))]
        have hlc := refLegal (l[k]'hlt).toNat wr
        rw [hd] at hlc
        clear hd h64
        generalize (l[k]'hlt).toNat = v at *
        go_wp2_with fail
        refine hlc.mono ?_
        rintro E w1 ⟨rfl, rfl⟩
        go_wp2
        go_ret
        exact ⟨by rw [HP.out]; rfl, HG.out⟩
    · have hx : k = l.length := by omega
      subst hx
      rw [List.take_length] at HOK HGP
      rw [List.drop_length] at HGP
      have hgn : gp none l = done := by rw [HGP.out]; simp [gp]
      have HP : Hid (str (vr done.length) ++ str (er done) = str (pk l)) := by
        show _ = _
        unfold pk
        rw [if_pos HOK.out, str_append]
        unfold enc
        rw [hgn]
      have hs1 := str_size (er done)
      have hs2 := er_len done
      have hs3 := str_size (vr done.length)
      have hs4 := (vr_len done.length).2
      have hdn : done.length ≤ 1073741824 := by have := hdl.out; have := HLL.out; omega
      clear hgn
      go_wp2_with fail
      refine (refVar done.length _ (by omega)).mono ?_
      rintro E w1 ⟨rfl, hg1⟩
      go_wp2
      go_ret
      exact ⟨by rw [← HP.out]; rfl, HG.out.trans hg1⟩
end Go.Proofs.Ytkhecaohbmlnlaa
