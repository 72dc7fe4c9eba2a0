/- The statements' own small functions of layer 4 (put, fails, works), and the statements FramePuts and FrameReads: the Go functions return true. Conditions: the table of four steps lies in its variable. -/
import Derived.Test.YtgbieihobcindaaDoorFb
namespace Go.Proofs.YtgbieihobcindaaDoor
open Go.RowKit
set_option linter.unusedVariables false

theorem putL (s : List UInt8) (w : World) (hs : s.length ≤ maxLen) (ht : Tab w) :
    Calls Tryd.prog 18 #[.string (str s)] w fun E w' => E = .returned (.string (str (putS s))) ∧ w.grownBy w' none := by
  go_enter Tryd.func18, Tryd.ntmps18
  go_wp2_with fail
  refine (put_c s _ hs ht).mono ?_
  rintro E w1 ⟨rfl, hg1⟩
  go_wp2
  go_ret
  exact ⟨rfl, hg1⟩
theorem failsL (s : List UInt8) (e : Int) (w : World) (hs : s.length ≤ 1099511627776) (ht : Tab w) (he : fe s = e) (h0 : e ≠ 0) :
    Calls Tryd.prog 19 #[.string (str s), .int .i64 e] w fun E w' => E = .returned (.bool true) ∧ w.grownBy w' none := by
  have HE := Lib.hid (fu_bad he h0)
  have hq := str_empty0
  clear he
  go_enter Tryd.func19, Tryd.ntmps19
  go_wp2_with fail
  refine (next_c s _ hs ht).mono ?_
  rintro E w1 ⟨rfl, hg1⟩
  rw [HE.out.1, HE.out.2.1, HE.out.2.2]
  have HG1 := Lib.hid (grown_of_below (r := none) hg1)
  clear hg1
  go_wp2
  go_ret
  exact ⟨rfl, HG1.out⟩
theorem puts_a : putS [97] = frm [97] := by rw [putS, if_pos (by decide)]
theorem puts_0 : putS [] = [0, 0, 255, 18, 217, 65] := by decide +kernel
theorem next_a : fe (frm [97] ++ [109, 111, 114, 101]) = 0 ∧ fp (frm [97] ++ [109, 111, 114, 101]) = [97] ∧ fu (frm [97] ++ [109, 111, 114, 101]) = 7 := by
  obtain ⟨h1, h2⟩ := frm_ok [97] [109, 111, 114, 101] (by decide)
  exact ⟨h1, h2, by rw [fu, if_pos h1, h2]; rfl⟩
theorem worksL (w : World) (ht : Tab w) :
    Calls Tryd.prog 9 #[] w fun E w' => E = .returned (.bool true) ∧ w.grownBy w' none := by
  have HT := Lib.hid ht
  clear ht
  have hap : str (frm [97]) ++ str [109, 111, 114, 101] = str (frm [97] ++ [109, 111, 114, 101]) := str_append _ _
  have hs1 : (str (frm [97])).size = 7 := by rw [str_size, frm_len]; rfl
  have hs2 : (str [109, 111, 114, 101]).size = 4 := rfl
  have HN := Lib.hid next_a
  have HL := Lib.hid (show (frm [97] ++ [109, 111, 114, 101]).length ≤ 1099511627776 from by rw [List.length_append, frm_len]; decide)
  go_enter Tryd.func9, Tryd.ntmps9
  go_wp2_with fail
  refine (putL [97] _ (by decide) HT.out).mono ?_
  rintro E w1 ⟨rfl, hg1⟩
  have HG1 := Lib.hid hg1
  have HT1 := Lib.hid (tab_grown HT.out hg1)
  clear hg1
  rw [puts_a]
  go_wp2_with fail
  refine (next_c _ _ HL.out HT1.out).mono ?_
  rintro E w2 ⟨rfl, hg2⟩
  rw [HN.out.1, HN.out.2.1, HN.out.2.2]
  have HG2 := Lib.hid (HG1.out.trans (grown_of_below (r := none) hg2))
  have HT2 := Lib.hid (tab_grown HT1.out (grown_of_below (r := none) hg2))
  clear hg2
  go_wp2_with fail
  refine (putL [] _ (by decide) HT2.out).mono ?_
  rintro E w3 ⟨rfl, hg3⟩
  have HG3 := Lib.hid (HG2.out.trans hg3)
  have HT3 := Lib.hid (tab_grown HT2.out hg3)
  clear hg3
  rw [puts_0]
  have hq1 : (str [0, 0, 255, 18, 217, 65]).toList = [0, 0, 255, 18, 217, 65] := str_toList _
  have hq2 : (str [97]).toList = [97] := str_toList _
  go_wp2_with fail
  refine (failsL [] 10 _ (by decide) HT3.out (fe_short (by decide)) (by decide)).mono ?_
  rintro E w4 ⟨rfl, hg4⟩
  have HG4 := Lib.hid (HG3.out.trans hg4)
  clear hg4
  go_wp2
  go_ret
  exact ⟨rfl, HG4.out⟩
/-- What a walk of a statement shows. -/
def Yes (w : World) (E : Ending) (w' : World) : Prop := E = .returned (.bool true) ∧ Below w.heap.size w w'
theorem yes_of {w w' : World} (h : w.grownBy w' none) : Yes w (.returned (.bool true)) w' := ⟨rfl, ⟨h.os, h.tape, h.output, h.size, fun k hk => h.block k hk (by simp)⟩⟩
theorem lawPuts (s : List UInt8) (w : World) (hs : s.length ≤ maxLen) (ht : Tab w) :
    Calls Tryd.prog 3 #[.string (str s)] w (Yes w) := by
  have HT := Lib.hid ht
  have hsz := str_size s
  have HS := Lib.hid hs
  have hq := str_eqv (putS s)
  unfold maxLen at hs
  clear ht
  by_cases hbig : 9000 < s.length
  · go_enter Tryd.func3, Tryd.ntmps3
    go_wp2_with fail
    refine (worksL _ HT.out).mono ?_
    rintro E w1 ⟨rfl, hg1⟩
    go_wp2
    go_ret
    exact yes_of hg1
  · go_enter Tryd.func3, Tryd.ntmps3
    go_wp2_with fail
    refine (put_c s _ HS.out HT.out).mono ?_
    rintro E w1 ⟨rfl, hg1⟩
    have HG1 := Lib.hid hg1
    have HT1 := Lib.hid (tab_grown HT.out hg1)
    clear hg1
    go_wp2_with fail
    refine (refPut s _ HS.out).mono ?_
    rintro E w2 ⟨rfl, hg2⟩
    have HG2 := Lib.hid (HG1.out.trans hg2)
    have HT2 := Lib.hid (tab_grown HT1.out hg2)
    clear hg2
    go_wp2_with fail
    refine (worksL _ HT2.out).mono ?_
    rintro E w3 ⟨rfl, hg3⟩
    have HG3 := Lib.hid (HG2.out.trans hg3)
    clear hg3
    go_wp2
    go_ret
    exact yes_of HG3.out
theorem lawReads (s : List UInt8) (w : World) (hs : s.length ≤ maxLen) (ht : Tab w) :
    Calls Tryd.prog 4 #[.string (str s)] w (Yes w) := by
  have HT := Lib.hid ht
  have hsz := str_size s
  have hq := str_eqv (fp s)
  unfold maxLen at hs
  clear ht
  by_cases hbig : 9000 < s.length
  · go_enter Tryd.func4, Tryd.ntmps4
    go_wp2_with fail
    refine (worksL _ HT.out).mono ?_
    rintro E w1 ⟨rfl, hg1⟩
    go_wp2
    go_ret
    exact yes_of hg1
  · have hal := all_used s.length s (Nat.le_refl _)
    have HAL := Lib.hid hal
    clear hal
    go_enter Tryd.func4, Tryd.ntmps4
    go_wp2_with fail
    refine (next_c s _ (by omega) HT.out).mono ?_
    rintro E w1 ⟨rfl, hg1⟩
    have HG1 := Lib.hid (grown_of_below (r := none) hg1)
    have HT1 := Lib.hid (tab_grown HT.out HG1.out)
    clear hg1
    go_wp2_with fail
    refine (refNext s _ (by omega)).mono ?_
    rintro E w2 ⟨rfl, hg2⟩
    have HG2 := Lib.hid (HG1.out.trans hg2)
    have HT2 := Lib.hid (tab_grown HT1.out hg2)
    clear hg2
    go_wp2_with fail
    refine (all_c s _ (by omega) HT2.out).mono ?_
    rintro E w3 ⟨u, rfl, hu, hg3⟩
    have HG3 := Lib.hid (HG2.out.trans (grown_of_below (r := none) hg3))
    have HT3 := Lib.hid (tab_grown HT2.out (grown_of_below (r := none) hg3))
    have HU := Lib.hid (strAt_of hu)
    clear hg3 hu
    go_wp2_with fail
    refine (refAll s _ (by omega)).mono ?_
    rintro E w4 ⟨v, rfl, hv, hg4⟩
    have HG4 := Lib.hid (HG3.out.trans (grown_of_below (r := none) hg4))
    have HT4 := Lib.hid (tab_grown HT3.out (grown_of_below (r := none) hg4))
    have HV := Lib.hid (strAt_of hv)
    have HU4 := Lib.hid (strAt_below HU.out hg4 (Nat.le_refl _))
    clear hg4 hv
    go_wp2_with fail
    refine (refSame u v (all s).l _ (by have := HAL.out.2.1; omega) HU4.out HV.out).mono ?_
    rintro E w5 ⟨rfl, hg5⟩
    have HG5 := Lib.hid (HG4.out.trans hg5)
    have HT5 := Lib.hid (tab_grown HT4.out hg5)
    clear hg5
    go_wp2_with fail
    refine (worksL _ HT5.out).mono ?_
    rintro E w6 ⟨rfl, hg6⟩
    have HG6 := Lib.hid (HG5.out.trans hg6)
    clear hg6
    go_wp2
    go_ret
    exact yes_of HG6.out
end Go.Proofs.YtgbieihobcindaaDoor
