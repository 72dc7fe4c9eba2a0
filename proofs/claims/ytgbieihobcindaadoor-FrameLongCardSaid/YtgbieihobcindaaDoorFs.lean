/- Package frame's functions that make and take ONE frame, and the document's: one contract each. Conditions: the table of four steps lies in its variable; texts of 2^40 bytes at most. -/
import Derived.Test.YtgbieihobcindaaDoorFr
import Derived.Test.YtgbieihobcindaaDoorRdD
import Derived.Test.YtgbieihobcindaaDoorWrB
import Derived.Test.YtgbieihobcindaaDoorRf
import Derived.Test.YtgbieihobcindaaDoorStep
import Derived.Test.YtgbieihobcindaaDoorRef
import Derived.Deep.RegionHeld3
namespace Go.Proofs.YtgbieihobcindaaDoor
open Go.RowKit
set_option linter.unusedVariables false

theorem tab_b {w w' : World} {B : Nat} (h : Tab w) (hB : 0 < B) (hb : Below B w w') : Tab w' :=
  ⟨Nat.lt_of_lt_of_le h.1 hb.size, fun i hi => (hb.cell (p := ⟨0, i, none⟩) hB).trans (h.2 i hi)⟩
theorem below_on {w w1 w2 : World} {B : Nat} (h : Below B w w1) (k : w1.grownBy w2 none) (hB : B ≤ w1.heap.size) : Below B w w2 :=
  h.trans (grown_nb k (by simp) hB)
theorem ret_u32n {a b : Nat} (h : a = b) : Ending.returned (.int .u32 (a : Int)) = .returned (.int .u32 (b : Int)) := by rw [h]
theorem checksum (a b : List UInt8) (w : World) (ha : a.length ≤ maxLen) (hb : b.length ≤ maxLen) (ht : Tab w) :
    Calls Tryd.prog 22 #[.string (str a), .string (str b)] w fun E w' => E = .returned (.int .u32 ((upd 0 (a ++ b) : Nat) : Int)) ∧ w.grownBy w' none := by
  have HA := Lib.hid (upd_append 0 a b)
  have HU := Lib.hid (upd_lt' 0 a (by omega))
  have HT := Lib.hid ht
  clear ht
  go_enter Tryd.func22, Tryd.ntmps22
  go_wp2_with fail
  refine (sum a _ ha HT.out).mono ?_
  rintro E w1 ⟨rfl, hg1⟩
  have HT1 := Lib.hid (tab_grown HT.out hg1)
  have HG1 := Lib.hid hg1
  clear hg1
  go_wp2_with fail
  refine (update _ b _ HU.out hb HT1.out).mono ?_
  rintro E w2 ⟨rfl, hg2⟩
  go_wp2
  go_ret
  exact ⟨ret_u32n HA.out.symm, HG1.out.trans hg2⟩
theorem size_c (p : List UInt8) (w : World) (hp : p.length ≤ 1099511627776) :
    Calls Tryd.prog 27 #[.string (str p)] w fun E w' => E = .returned (.int .i64 ((6 + p.length : Nat) : Int)) ∧ w = w' := by
  have hs := str_size p
  have hc : ((6 + p.length : Nat) : Int) = 6 + (p.length : Int) := by omega
  rw [hc]
  go_enter Tryd.func27, Tryd.ntmps27
  go_wp2
  go_ret
  exact ⟨rfl, rfl⟩
/-- What Put gives: the frame, or nothing; the error. -/
def putS (s : List UInt8) : List UInt8 := if s.length ≤ 4096 then frm s else []
def putE (s : List UInt8) : Int := if s.length ≤ 4096 then 0 else 3
theorem put_c (s : List UInt8) (w : World) (hs : s.length ≤ maxLen) (ht : Tab w) :
    Calls Tryd.prog 10 #[.string (str s)] w fun E w' => E = .returned (.tuple #[.string (str (putS s)), .int .i64 (putE s)]) ∧ w.grownBy w' none := by
  have hsz := str_size s
  have HS := Lib.hid hs
  unfold maxLen at hs
  by_cases h : s.length ≤ 4096
  · rw [show putS s = frm s from by rw [putS, if_pos h], show putE s = 0 from by rw [putE, if_pos h]]
    have HT := Lib.hid (tab_grown ht (World.grownBy_alloc w (.cells #[.slice none 0 0] 52) none))
    have HP := Lib.hid ht.1
    clear ht hs
    have hhl := head_len s
    have hap := str_append (head s) s
    have hs1 := str_size (head s)
    have HN := Lib.hid (wr_new w)
    have H0 := Lib.hid (show ([] : List UInt8) ++ le 2 s.length = le 2 s.length from rfl)
    have HU := Lib.hid (upd_lt' 0 (le 2 s.length ++ s) (by omega))
    have HH : Hid (le 2 s.length ++ le 4 (upd 0 (le 2 s.length ++ s)) = head s) := rfl
    have HF : Hid (head s ++ s = frm s) := rfl
    have HL := Lib.hid (le_length 2 s.length)
    go_enter Tryd.func10, Tryd.ntmps10
    go_wp2_with fail
    refine (wrU16 w.heap.size s.length [] _ HN.out (by simp) (by omega)).mono ?_
    rintro E w1 ⟨rfl, hw1, hb1⟩
    rw [H0.out] at hw1
    have HB1 := Lib.hid (((Below.refl w.heap.size w).alloc (Nat.le_refl _) _).trans hb1)
    have HT1 := Lib.hid (tab_b HT.out HP.out hb1)
    have hgl1 := Lib.hid (wr_lt hw1)
    clear hb1
    go_wp2_with fail
    refine (wrBytes _ _ _ hw1).mono ?_
    rintro E w2 ⟨rfl, rfl⟩
    go_wp2_with fail
    refine (checksum _ s _ (by rw [HL.out]; decide) HS.out HT1.out).mono ?_
    rintro E w2 ⟨rfl, hg2⟩
    have hw2 := wr_on0 hw1 hg2
    have HB2 := Lib.hid (below_on HB1.out hg2 (Nat.le_of_lt hgl1.out))
    clear hg2 hw1
    go_wp2_with fail
    refine (wrU32 w.heap.size _ _ _ hw2 (by rw [HL.out]; omega) HU.out).mono ?_
    rintro E w3 ⟨rfl, hw3, hb3⟩
    rw [HH.out] at hw3
    have HB3 := Lib.hid (HB2.out.trans hb3)
    clear hb3 hw2
    go_wp2_with fail
    refine (wrBytes _ _ _ hw3).mono ?_
    rintro E w4 ⟨rfl, rfl⟩
    rw [HF.out] at hap
    go_wp2
    go_ret2
    exact ⟨rfl, grown_of_below HB3.out⟩
  · rw [show putS s = [] from by rw [putS, if_neg h], show putE s = 3 from by rw [putE, if_neg h]]
    go_enter Tryd.func10, Tryd.ntmps10
    go_wp2
    go_ret2
    exact ⟨rfl, grown_refl _ _⟩
/-- What the reader tells of a frame's head. -/
theorem rd_short {s : List UInt8} (h : s.length < 6) : fin (fin 0 (num 2 s).err) (num 4 (num 2 s).rest).err = 10 := by
  by_cases h2 : 2 ≤ s.length
  · have e : num 2 s = ⟨0, un (s.take 2), s.drop 2⟩ := by unfold num; rw [if_pos h2]
    rw [e]
    have e4 : num 4 (s.drop 2) = ⟨10, 0, []⟩ := by unfold num; rw [if_neg (by rw [List.length_drop]; omega)]
    simp [e4, fin]
  · have e : num 2 s = ⟨10, 0, []⟩ := by unfold num; rw [if_neg h2]
    rw [e]
    simp [fin]
theorem rd_long {s : List UInt8} (h : 6 ≤ s.length) : num 2 s = ⟨0, fn s, s.drop 2⟩ ∧ num 4 (s.drop 2) = ⟨0, fsum s, s.drop 6⟩ := by
  refine ⟨by unfold num; rw [if_pos (by omega)]; rfl, ?_⟩
  unfold num
  rw [if_pos (by rw [List.length_drop]; omega), List.drop_drop]; rfl
theorem un2_lt (s : List UInt8) : un (s.take 2) < 65536 := by
  have h1 := un_lt (s.take 2)
  have h2 : 256 ^ (s.take 2).length ≤ 256 ^ 2 := Nat.pow_le_pow_right (by omega) (by rw [List.length_take]; omega)
  omega
theorem two_first {s p : List UInt8} {e : Int} (h : fe s = e ∧ fp s = p) : Ending.returned (.tuple #[.string (str p), .int .i64 e]) = Ending.returned (.tuple #[.string (str (fp s)), .int .i64 (fe s)]) := by rw [h.1, h.2]
theorem num2_lt (s : List UInt8) : (num 2 s).val < 65536 := by
  unfold num
  split
  · exact un2_lt s
  · show 0 < 65536; omega
theorem drew_grown {w w' : World} {r : Option Nat} (h : w.drew.grownBy w' r) : w.grownBy w' r := ⟨h.os, h.tape, h.output, h.size, h.block⟩
theorem grown_new {w w1 w2 : World} {g : Nat} (h : w.grownBy w1 none) (k : w1.grownBy w2 (some g)) (hg : w.heap.size ≤ g) : w.grownBy w2 none :=
  grown_of_below ((below_of_grown h).grown k h.size (fun k e => by cases e; exact hg))
set_option maxHeartbeats 1000000 in
theorem first_c (s : List UInt8) (w : World) (hs : s.length ≤ 1099511627776) (ht : Tab w) :
    Calls Tryd.prog 34 #[.string (str s)] w fun E w' => E = .returned (.tuple #[.string (str (fp s)), .int .i64 (fe s)]) ∧ w.grownBy w' none := by
  have HT := Lib.hid ht
  clear ht
  by_cases h6 : s.length < 6
  · have he := fe_short h6
    have hp : fp s = [] := fp_bad (by rw [he]; decide)
    rw [he, hp]
    have HE := Lib.hid (rd_short h6)
    have hv := num2_lt s
    clear he hp
    go_enter Tryd.func34, Tryd.ntmps34
    go_wp2_with fail
    refine (rdNew s _ hs).mono ?_
    rintro E w1 ⟨rfl, hr1, hg1, hz1⟩
    have HG1 := Lib.hid hg1
    clear hg1
    go_wp2_with fail
    refine (rdU16 _ _ _ _ hr1).mono ?_
    rintro E w2 ⟨rfl, hr2, hg2⟩
    have HG2 := Lib.hid hg2
    clear hg2 hr1
    go_wp2_with fail
    refine (rdU32 _ _ _ _ hr2).mono ?_
    rintro E w3 ⟨rfl, hr3, hg3⟩
    have HG3 := Lib.hid hg3
    rw [HE.out] at hr3
    clear hg3 hr2
    go_wp2_with fail
    refine (rdRest _ _ _ _ hr3).mono ?_
    rintro E w4 ⟨rfl, rfl⟩
    go_wp2_with fail
    refine (rdErr _ _ _ _ hr3).mono ?_
    rintro E w4 ⟨rfl, rfl⟩
    go_wp2_with fail
    refine (rdErr _ _ _ _ hr3).mono ?_
    rintro E w4 ⟨rfl, rfl⟩
    go_wp2
    go_ret2
    exact ⟨rfl, grown_new (grown_new HG1.out HG2.out (Nat.le_refl _)) HG3.out (Nat.le_refl _)⟩
  · obtain ⟨e2, e4⟩ := rd_long (s := s) (by omega)
    have hn2 : fn s < 65536 := un2_lt s
    have hd := List.length_drop (i := 6) (l := s)
    have hsz := str_size (s.drop 6)
    have hss := str_size s
    have hst := str_cut s 2
    have hpt : (str (s.drop 6)).extract 0 (fn s) = str (fpay s) := str_cut _ _
    have H6 := Lib.hid (Nat.le_of_not_lt h6)
    have E2 := Lib.hid e2
    have E4 := Lib.hid e4
    clear e2 e4
    go_enter Tryd.func34, Tryd.ntmps34
    go_wp2_with fail
    refine (rdNew s _ hs).mono ?_
    rintro E w1 ⟨rfl, hr1, hg1, hz1⟩
    have HG1 := Lib.hid hg1
    clear hg1
    go_wp2_with fail
    refine (rdU16 _ _ _ _ hr1).mono ?_
    rintro E w2 ⟨rfl, hr2, hg2⟩
    rw [E2.out] at hr2
    rw [E2.out]
    have HG2 := Lib.hid hg2
    clear hg2 hr1
    go_wp2_with fail
    refine (rdU32 _ _ _ _ hr2).mono ?_
    rintro E w3 ⟨rfl, hr3, hg3⟩
    rw [E4.out] at hr3
    rw [E4.out]
    have HG3 := Lib.hid hg3
    clear hg3 hr2
    have hr4 : Rd w3 w.heap.size (s.drop 6) 0 := hr3
    clear hr3
    go_wp2_with fail
    refine (rdRest _ _ _ _ hr4).mono ?_
    rintro E w4 ⟨rfl, rfl⟩
    go_wp2_with fail
    refine (rdErr _ _ _ _ hr4).mono ?_
    rintro E w4 ⟨rfl, rfl⟩
    have HG : Hid (w.grownBy w3 none) := Lib.hid (grown_new (grown_new HG1.out HG2.out (Nat.le_refl _)) HG3.out (Nat.le_refl _))
    have HT3 := Lib.hid (tab_grown HT.out HG.out)
    rw [hd] at hsz
    clear hd
    have h6 := H6.out
    by_cases hbig : 4096 < fn s
    · have he := fe_long H6.out hbig
      have HE : Hid (fe s = 3 ∧ fp s = []) := ⟨he, fp_bad (by rw [he]; decide)⟩
      clear he
      go_wp2
      go_ret2
      exact ⟨two_first HE.out, HG.out⟩
    · have hle : fn s ≤ 4096 := by omega
      by_cases htorn : s.length - 6 < fn s
      · have he := fe_torn H6.out hle htorn
        have HE : Hid (fe s = 10 ∧ fp s = []) := ⟨he, fp_bad (by rw [he]; decide)⟩
        clear he
        go_wp2
        go_ret2
        exact ⟨two_first HE.out, HG.out⟩
      · have hroom : fn s ≤ s.length - 6 := by omega
        have hpl := fpay_len hroom
        have hck : fck s = upd 0 (s.take 2 ++ fpay s) := rfl
        have HCK := Lib.hid hck
        clear hck
        have h2l : (s.take 2).length ≤ 2 := by rw [List.length_take]; omega
        have H2L := Lib.hid h2l
        clear h2l
        have HC := Lib.hid (checksum (s.take 2) (fpay s) w3.drew (by have := H2L.out; unfold maxLen; omega) (by unfold maxLen; omega) HT3.out)
        have i2 : (2 : Int) ≤ (s.length : Int) := by omega
        have i3 : (fn s : Int) ≤ ((s.length - 6 : Nat) : Int) := by omega
        rw [← HCK.out] at HC
        by_cases hsum : fck s = fsum s
        · have he := fe_ok H6.out hle hroom hsum
          have HE : Hid (fe s = 0 ∧ fp s = fpay s) := ⟨he, fp_ok he⟩
          clear he
          rw [hsum] at HC
          clear hsum
          go_wp2
          go_region_held3 (fun w' => Tab w') (first | assumption | exact HT3.out) (first | (go_at_call 22; refine HC.out.mono ?_; rintro E w4 ⟨rfl, hg4⟩; have hg5 := drew_grown hg4; have hT4 := tab_grown HT3.out hg5))
          go_wp2
          go_ret2
          exact ⟨two_first HE.out, HG.out.trans hg5⟩
        · have he := fe_sum H6.out hle hroom hsum
          have HE : Hid (fe s = 9 ∧ fp s = []) := ⟨he, fp_bad (by rw [he]; decide)⟩
          have hb : (((fck s : Nat) : Int) == ((fsum s : Nat) : Int)) = false := beq_eq_false_iff_ne.2 (by omega)
          clear he
          go_wp2
          go_region_held3 (fun w' => Tab w') (first | assumption | exact HT3.out) (first | (go_at_call 22; refine HC.out.mono ?_; rintro E w4 ⟨rfl, hg4⟩; have hg5 := drew_grown hg4; have hT4 := tab_grown HT3.out hg5))
          go_wp2
          go_ret2
          exact ⟨two_first HE.out, HG.out.trans hg5⟩
end Go.Proofs.YtgbieihobcindaaDoor
