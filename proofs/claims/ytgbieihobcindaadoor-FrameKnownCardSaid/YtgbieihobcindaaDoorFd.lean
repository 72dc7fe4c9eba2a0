/- The document's functions that make and take ONE frame: one contract each. -/
import Derived.Test.YtgbieihobcindaaDoorFs
import Derived.BigQuiet
namespace Go.Proofs.YtgbieihobcindaaDoor
open Go.RowKit
set_option linter.unusedVariables false

theorem refPut (s : List UInt8) (w : World) (hs : s.length ≤ maxLen) :
    Calls Tryd.prog 11 #[.string (str s)] w fun E w' => E = .returned (.tuple #[.string (str (putS s)), .int .i64 (putE s)]) ∧ w.grownBy w' none := by
  have hsz := str_size s
  unfold maxLen at hs
  by_cases h : s.length ≤ 4096
  · rw [show putS s = frm s from by rw [putS, if_pos h], show putE s = 0 from by rw [putE, if_pos h]]
    clear hs
    have h0 := le_length 2 s.length
    have hap := str_append (le 2 s.length) s
    have hap2 := str_append (le 2 s.length) (le 4 (upd 0 (le 2 s.length ++ s)))
    have hap3 := str_append (head s) s
    have hs1 := str_size (head s)
    have hs2 := str_size (le 2 s.length)
    have hs3 := str_size (le 4 (upd 0 (le 2 s.length ++ s)))
    rw [le_length] at hs2 hs3
    rw [head_len] at hs1
    have hu := upd_lt' 0 (le 2 s.length ++ s) (by omega)
    have HU := Lib.hid hu
    have HF : Hid (head s ++ s = frm s) := rfl
    have HH : Hid (le 2 s.length ++ le 4 (upd 0 (le 2 s.length ++ s)) = head s) := rfl
    rw [HH.out] at hap2
    have HL := Lib.hid (show (le 2 s.length ++ s).length ≤ maxLen from by rw [List.length_append, h0]; unfold maxLen; omega)
    rw [HF.out] at hap3
    go_enter Tryd.func11, Tryd.ntmps11
    go_wp2_with fail
    refine (refNumber s.length 2 _ (by omega) (by omega)).mono ?_
    rintro E w1 ⟨rfl, hg1⟩
    have HG1 := Lib.hid hg1
    clear hg1
    go_wp2_with fail
    refine (refSum _ _ HL.out).mono ?_
    rintro E w2 ⟨rfl, rfl⟩
    go_wp2_with fail
    refine (refNumber (upd 0 (le 2 s.length ++ s)) 4 _ (by omega) (by omega)).mono ?_
    rintro E w2 ⟨rfl, hg2⟩
    have HG2 := Lib.hid (HG1.out.trans hg2)
    clear hg2
    go_wp2
    go_ret2
    exact ⟨rfl, HG2.out⟩
  · rw [show putS s = [] from by rw [putS, if_neg h], show putE s = 3 from by rw [putE, if_neg h]]
    go_enter Tryd.func11, Tryd.ntmps11
    go_wp2
    go_ret2
    exact ⟨rfl, grown_refl _ _⟩
/-- How many bytes the first frame takes. -/
def fu (s : List UInt8) : Nat := if fe s = 0 then 6 + (fp s).length else 0
theorem three_next {s p : List UInt8} {n : Nat} {e : Int} (h : fe s = e ∧ fp s = p ∧ fu s = n) :
    Ending.returned (.tuple #[.string (str p), .int .i64 n, .int .i64 e]) = Ending.returned (.tuple #[.string (str (fp s)), .int .i64 (fu s), .int .i64 (fe s)]) := by rw [h.1, h.2.1, h.2.2]
theorem three_next' {s p : List UInt8} {n : Nat} {e : Int} (h : fe s = e ∧ fp s = p ∧ fu s = 6 + n) :
    Ending.returned (.tuple #[.string (str p), .int .i64 (6 + (n : Int)), .int .i64 e]) = Ending.returned (.tuple #[.string (str (fp s)), .int .i64 (fu s), .int .i64 (fe s)]) := by
  rw [h.1, h.2.1, h.2.2]; rfl
theorem fu_bad {s : List UInt8} {e : Int} (h : fe s = e) (he : e ≠ 0) : fe s = e ∧ fp s = [] ∧ fu s = 0 := by
  subst h; exact ⟨rfl, fp_bad he, by rw [fu, if_neg he]⟩
theorem fu_ok {s : List UInt8} (h : fe s = 0) : fe s = 0 ∧ fp s = fpay s ∧ fu s = 6 + (fpay s).length :=
  ⟨h, fp_ok h, by rw [fu, if_pos h, fp_ok h]⟩
theorem fn_two {s : List UInt8} (h : 2 ≤ s.length) : fn s = (s[0]'(by omega)).toNat + 256 * (s[1]'(by omega)).toNat := by
  match s, h with
  | a :: b :: r, _ => simp [fn, un]
theorem str_yes {a b : List UInt8} (h : a = b) : ((str a).toList == (str b).toList) = true := by subst h; simp
theorem str_toList (a : List UInt8) : (str a).toList = a := by rw [ByteArray.toList_eq]; simp [str]
theorem str_no {a b : List UInt8} (h : a ≠ b) : ((str a).toList == (str b).toList) = false := by rw [str_toList, str_toList]; simpa using h
theorem grown_drewN (w : World) (n : Nat) : w.grownBy (w.drewN n) none := ⟨rfl, rfl, rfl, Nat.le_refl _, fun _ _ _ => rfl⟩
/-- The head that a payload asks for is the head that stands there, just if the sums are the same. -/
theorem head_eq {s : List UInt8} (h6 : 6 ≤ s.length) (h3 : fn s ≤ s.length - 6) : head (fpay s) = s.take 6 ↔ fck s = fsum s := by
  have e2 : le 2 (fpay s).length = s.take 2 := by
    rw [fpay_len h3, fn]
    have := le_un (s.take 2)
    rwa [show (s.take 2).length = 2 from by rw [List.length_take]; omega] at this
  have e4 : (s.drop 2).take 4 = le 4 (fsum s) := by
    rw [fsum]
    have := le_un ((s.drop 2).take 4)
    rw [show ((s.drop 2).take 4).length = 4 from by rw [List.length_take, List.length_drop]; omega] at this
    exact this.symm
  have e6 : s.take 6 = s.take 2 ++ le 4 (fsum s) := by
    rw [← e4, show (6 : Nat) = 2 + 4 from rfl, List.take_add]
  rw [head, e2, e6]
  constructor
  · intro h
    have h1 := List.append_cancel_left h
    have h2 := congrArg un h1
    rw [un_le, un_le] at h2
    have l1 := upd_lt' 0 (s.take 2 ++ fpay s) (by omega)
    have l2 : fsum s < 256 ^ 4 := by
      have := un_lt ((s.drop 2).take 4)
      rw [show ((s.drop 2).take 4).length = 4 from by rw [List.length_take, List.length_drop]; omega] at this
      exact this
    rw [Nat.mod_eq_of_lt (by simpa using l1), Nat.mod_eq_of_lt l2] at h2
    exact h2
  · intro h
    rw [show upd 0 (s.take 2 ++ fpay s) = fsum s from h]
theorem byte_int (b : UInt8) : 0 ≤ (b.toNat : Int) ∧ (b.toNat : Int) < 256 := by have := b.toNat_lt; omega
set_option maxHeartbeats 1000000 in
theorem refNext (s : List UInt8) (w : World) (hs : s.length ≤ 1099511627776) :
    Calls Tryd.prog 13 #[.string (str s)] w fun E w' => E = .returned (.tuple #[.string (str (fp s)), .int .i64 (fu s), .int .i64 (fe s)]) ∧ w.grownBy w' none := by
  have hsz := str_size s
  by_cases h6 : s.length < 6
  · have HE := Lib.hid (fu_bad (fe_short h6) (by decide))
    go_enter Tryd.func13, Tryd.ntmps13
    go_wp2
    go_ret3
    exact ⟨three_next HE.out, grown_refl _ _⟩
  · have HFN := Lib.hid (fn_two (s := s) (by omega))
    have hg0 : (str s)[0]'(by rw [hsz]; omega) = s[0]'(by omega) := by simp [str]; rfl
    have hg1 : (str s)[1]'(by rw [hsz]; omega) = s[1]'(by omega) := by simp [str]; rfl
    have ha := (s[0]'(by omega)).toNat_lt
    have hb := (s[1]'(by omega)).toNat_lt
    generalize s[0]'(by omega) = a at *
    generalize s[1]'(by omega) = b at *
    have hfn : (a.toNat : Int) + 256 * (b.toNat : Int) = ((fn s : Nat) : Int) := by rw [HFN.out]; omega
    have hn2 : fn s < 65536 := un2_lt s
    have H6 := Lib.hid (Nat.le_of_not_lt h6)
    by_cases hbig : 4096 < fn s
    · have HE := Lib.hid (fu_bad (fe_long H6.out hbig) (by decide))
      go_enter Tryd.func13, Tryd.ntmps13
      go_wp2
      go_quiet (fail)
      go_wp2
      go_ret3
      exact ⟨three_next HE.out, grown_drewN _ _⟩
    · by_cases htorn : s.length - 6 < fn s
      · have HE := Lib.hid (fu_bad (fe_torn H6.out (by omega) htorn) (by decide))
        go_enter Tryd.func13, Tryd.ntmps13
        go_wp2
        go_quiet (fail)
        go_wp2
        go_ret3
        exact ⟨three_next HE.out, grown_drewN _ _⟩
      · have hroom : fn s ≤ s.length - 6 := by omega
        have hpl := fpay_len hroom
        have hx : (str s).extract 6 (6 + fn s) = str (fpay s) := by
          rw [str_extract, fpay]; congr 1; rw [List.drop_take]; congr 1; omega
        have hx6 := str_cut s 6
        have i1 : (6 : Int) + (fn s : Int) ≤ (s.length : Int) := by omega
        have i2 : (6 : Int) ≤ 6 + (fn s : Int) := by omega
        have i3 : (0 : Int) ≤ 6 + (fn s : Int) := by omega
        have i4 : ¬ (6 : Int) + (fn s : Int) < 6 := by omega
        have hto : ((6 : Int) + (fn s : Int)).toNat = 6 + fn s := by omega
        have hpe : putS (fpay s) = frm (fpay s) := by rw [putS, if_pos (by omega)]
        have hcf : (str (frm (fpay s))).extract 0 6 = str (head (fpay s)) := by
          rw [str_cut, frm, List.take_append_of_le_length (by rw [head_len]; omega), List.take_of_length_le (by rw [head_len]; omega)]
        have hsf := str_size (frm (fpay s))
        rw [frm_len, hpl] at hsf
        have HHE := Lib.hid (head_eq H6.out hroom)
        have HPL := Lib.hid (show (fpay s).length ≤ maxLen from by rw [hpl]; unfold maxLen; omega)
        have HPE := Lib.hid hpe
        clear hpe
        go_enter Tryd.func13, Tryd.ntmps13
        go_wp2
        go_quiet (fail)
        go_wp2_with fail
        refine (refPut (fpay s) _ HPL.out).mono ?_
        rintro E w1 ⟨rfl, hg1⟩
        rw [HPE.out]
        have i6 : (6 : Int) ≤ 6 + ((fn s : Nat) : Int) := by omega
        have i7 : (6 : Int) ≤ (s.length : Int) := by omega
        have HG1 := Lib.hid ((grown_drewN w nq).trans hg1)
        clear hg1
        by_cases hsum : fck s = fsum s
        · have HE := Lib.hid (fu_ok (fe_ok H6.out (by omega) hroom hsum))
          have hq := str_yes (HHE.out.2 hsum)
          rw [hpl] at HE
          clear hsum
          go_wp2
          go_quiet (fail)
          go_wp2
          go_ret3
          exact ⟨three_next' HE.out, HG1.out.trans (grown_drewN _ _)⟩
        · have HE := Lib.hid (fu_bad (fe_sum H6.out (by omega) hroom hsum) (by decide))
          have hq := str_no (fun h => hsum (HHE.out.1 h))
          go_wp2
          go_quiet (fail)
          go_wp2
          go_ret3
          exact ⟨three_next HE.out, HG1.out.trans (grown_drewN _ _)⟩
end Go.Proofs.YtgbieihobcindaaDoor
