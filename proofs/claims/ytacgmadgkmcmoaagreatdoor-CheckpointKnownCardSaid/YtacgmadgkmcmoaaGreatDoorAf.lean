/- Texts of elder layers, one behind the other. -/
import Derived.Test.YtacgmadgkmcmoaaGreatDoorAa
import Derived.Test.YtacgmadgkmcmoaaGreatDoorAb
import Derived.Deep.RegionHeld3
import Derived.BigQuiet
/- Frames of texts: the plain mathematics of layer 4. Nothing of the program. -/
namespace Go.Proofs.YtacgmadgkmcmoaaGreatDoor
open Go.RowKit
set_option linter.unusedVariables false

theorem upd_lt' (c : Nat) (s : List UInt8) (hc : c < 4294967296) : upd c s < 4294967296 :=
  Nat.xor_lt_two_pow (n := 32) (runs_lt _ (Nat.xor_lt_two_pow (n := 32) (by omega) (by decide))) (by decide)
/-- The length that stands at the fhead; the sum behind it; the payload behind both. -/
def fn (l : List UInt8) : Nat := un (l.take 2)
def fsum (l : List UInt8) : Nat := un ((l.drop 2).take 4)
def fpay (l : List UInt8) : List UInt8 := (l.drop 6).take (fn l)
def fck (l : List UInt8) : Nat := upd 0 (l.take 2 ++ fpay l)
/-- What is wrong with the first frame of l: 0 if nothing is. -/
def fe (l : List UInt8) : Int :=
  if l.length < 6 then 10 else if 4096 < fn l then 3 else if l.length - 6 < fn l then 10 else if fck l ≠ fsum l then 9 else 0
/-- Its payload; nothing, if something is wrong. -/
def fp (l : List UInt8) : List UInt8 := if fe l = 0 then fpay l else []
theorem fe_short {l : List UInt8} (h : l.length < 6) : fe l = 10 := by unfold fe; rw [if_pos h]
theorem fe_long {l : List UInt8} (h : 6 ≤ l.length) (h2 : 4096 < fn l) : fe l = 3 := by unfold fe; rw [if_neg (by omega), if_pos h2]
theorem fe_torn {l : List UInt8} (h : 6 ≤ l.length) (h2 : fn l ≤ 4096) (h3 : l.length - 6 < fn l) : fe l = 10 := by unfold fe; rw [if_neg (by omega), if_neg (by omega), if_pos h3]
theorem fe_sum {l : List UInt8} (h : 6 ≤ l.length) (h2 : fn l ≤ 4096) (h3 : fn l ≤ l.length - 6) (h4 : fck l ≠ fsum l) : fe l = 9 := by unfold fe; rw [if_neg (by omega), if_neg (by omega), if_neg (by omega), if_pos h4]
theorem fe_ok {l : List UInt8} (h : 6 ≤ l.length) (h2 : fn l ≤ 4096) (h3 : fn l ≤ l.length - 6) (h4 : fck l = fsum l) : fe l = 0 := by unfold fe; rw [if_neg (by omega), if_neg (by omega), if_neg (by omega), if_neg (by omega)]
theorem fp_bad {l : List UInt8} (h : fe l ≠ 0) : fp l = [] := by unfold fp; rw [if_neg h]
theorem fp_ok {l : List UInt8} (h : fe l = 0) : fp l = fpay l := by unfold fp; rw [if_pos h]
theorem fe_zero {l : List UInt8} (h : fe l = 0) : 6 ≤ l.length ∧ fn l ≤ 4096 ∧ fn l ≤ l.length - 6 ∧ fck l = fsum l := by
  unfold fe at h
  (repeat' split at h) <;> first | omega | (refine ⟨?_, ?_, ?_, ?_⟩ <;> first | omega | skip)
theorem fpay_len {l : List UInt8} (h3 : fn l ≤ l.length - 6) : (fpay l).length = fn l := by
  unfold fpay; rw [List.length_take, List.length_drop]; omega
theorem fp_len (l : List UInt8) : (fp l).length ≤ 4096 := by
  by_cases h : fe l = 0
  · obtain ⟨h1, h2, h3, _⟩ := fe_zero h
    rw [fp_ok h, fpay_len h3]; exact h2
  · rw [fp_bad h]; simp
theorem fp_room {l : List UInt8} (h : fe l = 0) : 6 + (fp l).length ≤ l.length := by
  obtain ⟨h1, h2, h3, _⟩ := fe_zero h
  rw [fp_ok h, fpay_len h3]; omega
/-- The frame of a text. -/
def fhead (s : List UInt8) : List UInt8 := le 2 s.length ++ le 4 (upd 0 (le 2 s.length ++ s))
def frm (s : List UInt8) : List UInt8 := fhead s ++ s
theorem head_len (s : List UInt8) : (fhead s).length = 6 := by simp [fhead, le_length]
theorem frm_len (s : List UInt8) : (frm s).length = 6 + s.length := by simp [frm, head_len]
theorem take2 (s m : List UInt8) : (fhead s ++ m).take 2 = le 2 s.length := by
  rw [fhead, List.append_assoc, List.take_append_of_le_length (by rw [le_length]; omega), List.take_of_length_le (by rw [le_length]; omega)]
theorem drop2 (s m : List UInt8) : ((fhead s ++ m).drop 2).take 4 = le 4 (upd 0 (le 2 s.length ++ s)) := by
  rw [fhead, List.append_assoc, List.drop_append_of_le_length (by rw [le_length]; omega), List.drop_of_length_le (by rw [le_length]; omega), List.nil_append, List.take_append_of_le_length (by rw [le_length]; omega), List.take_of_length_le (by rw [le_length]; omega)]
theorem drop6 (s m : List UInt8) : (fhead s ++ m).drop 6 = m := by
  rw [List.drop_append_of_le_length (by rw [head_len]; omega), List.drop_of_length_le (by rw [head_len]; omega), List.nil_append]
theorem fn_head (s m : List UInt8) (h : s.length < 65536) : fn (fhead s ++ m) = s.length := by
  rw [fn, take2, un_le]; exact Nat.mod_eq_of_lt (by simpa using h)
theorem fsum_head (s m : List UInt8) : fsum (fhead s ++ m) = upd 0 (le 2 s.length ++ s) := by
  rw [fsum, drop2, un_le]; exact Nat.mod_eq_of_lt (by have := upd_lt' 0 (le 2 s.length ++ s) (by omega); simpa using this)
/-- A frame is read, whatever stands behind it. -/
theorem frm_ok (s m : List UInt8) (h : s.length ≤ 4096) : fe (frm s ++ m) = 0 ∧ fp (frm s ++ m) = s := by
  have e : frm s ++ m = fhead s ++ (s ++ m) := by rw [frm, List.append_assoc]
  have hn : fn (frm s ++ m) = s.length := by rw [e]; exact fn_head _ _ (by omega)
  have hl : (frm s ++ m).length = 6 + s.length + m.length := by rw [List.length_append, frm_len]
  have hp : fpay (frm s ++ m) = s := by rw [fpay, hn, e, drop6]; simp
  have h0 : fe (frm s ++ m) = 0 := fe_ok (by omega) (by omega) (by omega) (by rw [fck, hp, e, take2, fsum_head])
  exact ⟨h0, by rw [fp_ok h0, hp]⟩
/-- A beginning of a frame is torn. -/
theorem frm_cut (s m : List UInt8) (k : Nat) (h : s.length ≤ 4096) (hk : k < 6 + s.length) : fe ((frm s ++ m).take k) = 10 := by
  have hl : ((frm s ++ m).take k).length = k := by rw [List.length_take, List.length_append, frm_len]; omega
  by_cases h6 : k < 6
  · exact fe_short (by omega)
  · have e : (frm s ++ m).take k = fhead s ++ (s ++ m).take (k - 6) := by
      rw [frm, List.append_assoc, List.take_append, head_len, List.take_of_length_le (by rw [head_len]; omega)]
    have hn : fn ((frm s ++ m).take k) = s.length := by rw [e]; exact fn_head _ _ (by omega)
    exact fe_torn (by omega) (by omega) (by omega)
/-- What All tells of bytes. -/
structure Res where
  l : List (List UInt8)
  used : Nat
  err : Int
def all (s : List UInt8) : Res :=
  if h : s = [] then ⟨[], 0, 0⟩
  else if fe s = 0 then ⟨fp s :: (all (s.drop (6 + (fp s).length))).l, 6 + (fp s).length + (all (s.drop (6 + (fp s).length))).used, (all (s.drop (6 + (fp s).length))).err⟩
  else ⟨[], 0, fe s⟩
termination_by s.length
decreasing_by
  all_goals
    have : 0 < s.length := List.length_pos_iff.2 h
    rw [List.length_drop]; omega
theorem all_nil : all [] = ⟨[], 0, 0⟩ := by rw [all]; simp
/-- What the range function goes through: payloads, and at last an error, if there is one. -/
structure Item where
  p : List UInt8
  e : Int
  hp : p.length ≤ 4096
def items (s : List UInt8) : List Item :=
  if h : s = [] then []
  else if fe s = 0 then ⟨fp s, 0, fp_len s⟩ :: items (s.drop (6 + (fp s).length))
  else [⟨[], fe s, by simp⟩]
termination_by s.length
decreasing_by
  have : 0 < s.length := List.length_pos_iff.2 h
  rw [List.length_drop]; omega
theorem items_nil : items [] = [] := by rw [items]; simp
theorem items_bad {s : List UInt8} (h : s ≠ []) (he : fe s ≠ 0) : items s = [⟨fp s, fe s, fp_len s⟩] := by
  rw [items, dif_neg h, if_neg he]; congr; exact (fp_bad he).symm
theorem items_ok {s : List UInt8} (he : fe s = 0) : items s = ⟨fp s, 0, fp_len s⟩ :: items (s.drop (6 + (fp s).length)) := by
  have h : s ≠ [] := by rintro rfl; have := fp_room he; simp at this
  rw [items, dif_neg h, if_pos he]
theorem items_first {s : List UInt8} (h : s ≠ []) : ∃ r, items s = ⟨fp s, fe s, fp_len s⟩ :: r := by
  by_cases he : fe s = 0
  · refine ⟨items (s.drop (6 + (fp s).length)), ?_⟩
    rw [items_ok he]
    congr 2
    exact he.symm
  · exact ⟨[], items_bad h he⟩
end Go.Proofs.YtacgmadgkmcmoaaGreatDoor
/- Package frame's functions that make and take ONE frame, and the document's: one contract each. Conditions: the table of four steps lies in its variable; texts of 2^40 bytes at most. -/
namespace Go.Proofs.YtacgmadgkmcmoaaGreatDoor
open Go.RowKit
set_option linter.unusedVariables false

theorem tab_b {w w' : World} {B : Nat} (h : Tab w) (hB : 1 < B) (hb : Below B w w') : Tab w' :=
  ⟨Nat.lt_of_lt_of_le h.1 hb.size, fun i hi => (hb.cell (p := ⟨1, i, none⟩) hB).trans (h.2 i hi)⟩
theorem below_on {w w1 w2 : World} {B : Nat} (h : Below B w w1) (k : w1.grownBy w2 none) (hB : B ≤ w1.heap.size) : Below B w w2 :=
  h.trans (grown_nb k (by simp) hB)
theorem ret_u32n {a b : Nat} (h : a = b) : Ending.returned (.int .u32 (a : Int)) = .returned (.int .u32 (b : Int)) := by rw [h]
theorem checksum (a b : List UInt8) (w : World) (ha : a.length ≤ maxLen) (hb : b.length ≤ maxLen) (ht : Tab w) :
    Calls Tryz.prog 143 #[.string (str a), .string (str b)] w fun E w' => E = .returned (.int .u32 ((upd 0 (a ++ b) : Nat) : Int)) ∧ w.grownBy w' none := by
  have HA := Lib.hid (upd_append 0 a b)
  have HU := Lib.hid (upd_lt' 0 a (by omega))
  have HT := Lib.hid ht
  clear ht
  go_enter Tryz.func143, Tryz.ntmps143
  go_wp2_with fail
  refine (sum a _ ha HT.out).mono ?_
  rintro E w1 ⟨rfl, hg1⟩
  have HT1 := Lib.hid (tab_grown HT.out hg1)
  have HG1 := Lib.hid hg1
  clear hg1
  go_wp2_with fail
  refine (update _ b _ HU.out hb HT1.out).mono ?_
  rintro E w2 ⟨rfl, hg2⟩
  go_wp2
  go_ret
  exact ⟨ret_u32n HA.out.symm, HG1.out.trans hg2⟩
theorem size_c (p : List UInt8) (w : World) (hp : p.length ≤ 1099511627776) :
    Calls Tryz.prog 122 #[.string (str p)] w fun E w' => E = .returned (.int .i64 ((6 + p.length : Nat) : Int)) ∧ w = w' := by
  have hs := str_size p
  have hc : ((6 + p.length : Nat) : Int) = 6 + (p.length : Int) := by omega
  rw [hc]
  go_enter Tryz.func122, Tryz.ntmps122
  go_wp2
  go_ret
  exact ⟨rfl, rfl⟩
/-- What Put gives: the frame, or nothing; the error. -/
def putS (s : List UInt8) : List UInt8 := if s.length ≤ 4096 then frm s else []
def putE (s : List UInt8) : Int := if s.length ≤ 4096 then 0 else 3
theorem fput_c (s : List UInt8) (w : World) (hs : s.length ≤ maxLen) (ht : Tab w) :
    Calls Tryz.prog 93 #[.string (str s)] w fun E w' => E = .returned (.tuple #[.string (str (putS s)), .int .i64 (putE s)]) ∧ w.grownBy w' none := by
  have hsz := str_size s
  have HS := Lib.hid hs
  unfold maxLen at hs
  by_cases h : s.length ≤ 4096
  · rw [show putS s = frm s from by rw [putS, if_pos h], show putE s = 0 from by rw [putE, if_pos h]]
    have HT := Lib.hid (tab_grown ht (World.grownBy_alloc w (.cells #[.slice none 0 0] 153) none))
    have HP := Lib.hid ht.1
    clear ht hs
    have hhl := head_len s
    have hap := str_append (fhead s) s
    have hs1 := str_size (fhead s)
    have HN := Lib.hid (wr_new w)
    have H0 := Lib.hid (show ([] : List UInt8) ++ le 2 s.length = le 2 s.length from rfl)
    have HU := Lib.hid (upd_lt' 0 (le 2 s.length ++ s) (by omega))
    have HH : Hid (le 2 s.length ++ le 4 (upd 0 (le 2 s.length ++ s)) = fhead s) := rfl
    have HF : Hid (fhead s ++ s = frm s) := rfl
    have HL := Lib.hid (le_length 2 s.length)
    go_enter Tryz.func93, Tryz.ntmps93
    go_wp2_with fail
    refine (wrU16 w.heap.size s.length [] _ HN.out (by simp) (by omega)).mono ?_
    rintro E w1 ⟨rfl, hw1, hb1⟩
    rw [H0.out] at hw1
    have HB1 := Lib.hid (((Below.refl w.heap.size w).alloc (Nat.le_refl _) _).trans hb1)
    have HT1 := Lib.hid (tab_b HT.out HP.out hb1)
    have hgl1 := Lib.hid (wr_lt hw1)
    clear hb1
    go_wp2_with fail
    refine (wrBytes _ _ _ hw1).mono ?_
    rintro E w2 ⟨rfl, rfl⟩
    go_wp2_with fail
    refine (checksum _ s _ (by rw [HL.out]; decide) HS.out HT1.out).mono ?_
    rintro E w2 ⟨rfl, hg2⟩
    have hw2 := wr_on0 hw1 hg2
    have HB2 := Lib.hid (below_on HB1.out hg2 (Nat.le_of_lt hgl1.out))
    clear hg2 hw1
    go_wp2_with fail
    refine (wrU32 w.heap.size _ _ _ hw2 (by rw [HL.out]; omega) HU.out).mono ?_
    rintro E w3 ⟨rfl, hw3, hb3⟩
    rw [HH.out] at hw3
    have HB3 := Lib.hid (HB2.out.trans hb3)
    clear hb3 hw2
    go_wp2_with fail
    refine (wrBytes _ _ _ hw3).mono ?_
    rintro E w4 ⟨rfl, rfl⟩
    rw [HF.out] at hap
    go_wp2
    go_ret2
    exact ⟨rfl, grown_of_below HB3.out⟩
  · rw [show putS s = [] from by rw [putS, if_neg h], show putE s = 3 from by rw [putE, if_neg h]]
    go_enter Tryz.func93, Tryz.ntmps93
    go_wp2
    go_ret2
    exact ⟨rfl, grown_refl _ _⟩
/-- What the reader tells of a frame's fhead. -/
theorem rd_short {s : List UInt8} (h : s.length < 6) : fin (fin 0 (num 2 s).err) (num 4 (num 2 s).rest).err = 10 := by
  by_cases h2 : 2 ≤ s.length
  · have e : num 2 s = ⟨0, un (s.take 2), s.drop 2⟩ := by unfold num; rw [if_pos h2]
    rw [e]
    have e4 : num 4 (s.drop 2) = ⟨10, 0, []⟩ := by unfold num; rw [if_neg (by rw [List.length_drop]; omega)]
    simp [e4, fin]
  · have e : num 2 s = ⟨10, 0, []⟩ := by unfold num; rw [if_neg h2]
    rw [e]
    simp [fin]
theorem rd_long {s : List UInt8} (h : 6 ≤ s.length) : num 2 s = ⟨0, fn s, s.drop 2⟩ ∧ num 4 (s.drop 2) = ⟨0, fsum s, s.drop 6⟩ := by
  refine ⟨by unfold num; rw [if_pos (by omega)]; rfl, ?_⟩
  unfold num
  rw [if_pos (by rw [List.length_drop]; omega), List.drop_drop]; rfl
theorem un2_lt (s : List UInt8) : un (s.take 2) < 65536 := by
  have h1 := un_lt (s.take 2)
  have h2 : 256 ^ (s.take 2).length ≤ 256 ^ 2 := Nat.pow_le_pow_right (by omega) (by rw [List.length_take]; omega)
  omega
theorem two_first {s p : List UInt8} {e : Int} (h : fe s = e ∧ fp s = p) : Ending.returned (.tuple #[.string (str p), .int .i64 e]) = Ending.returned (.tuple #[.string (str (fp s)), .int .i64 (fe s)]) := by rw [h.1, h.2]
theorem num2_lt (s : List UInt8) : (num 2 s).val < 65536 := by
  unfold num
  split
  · exact un2_lt s
  · show 0 < 65536; omega
theorem drew_grown {w w' : World} {r : Option Nat} (h : w.drew.grownBy w' r) : w.grownBy w' r := ⟨h.os, h.tape, h.output, h.size, h.block⟩
theorem grown_new {w w1 w2 : World} {g : Nat} (h : w.grownBy w1 none) (k : w1.grownBy w2 (some g)) (hg : w.heap.size ≤ g) : w.grownBy w2 none :=
  grown_of_below ((below_of_grown h).grown k h.size (fun k e => by cases e; exact hg))
set_option maxHeartbeats 1000000 in
theorem ffirst_c (s : List UInt8) (w : World) (hs : s.length ≤ 1099511627776) (ht : Tab w) :
    Calls Tryz.prog 164 #[.string (str s)] w fun E w' => E = .returned (.tuple #[.string (str (fp s)), .int .i64 (fe s)]) ∧ w.grownBy w' none := by
  have HT := Lib.hid ht
  clear ht
  by_cases h6 : s.length < 6
  · have he := fe_short h6
    have hp : fp s = [] := fp_bad (by rw [he]; decide)
    rw [he, hp]
    have HE := Lib.hid (rd_short h6)
    have hv := num2_lt s
    clear he hp
    go_enter Tryz.func164, Tryz.ntmps164
    go_wp2_with fail
    refine (rdNew s _ hs).mono ?_
    rintro E w1 ⟨rfl, hr1, hg1, hz1⟩
    have HG1 := Lib.hid hg1
    clear hg1
    go_wp2_with fail
    refine (rdU16 _ _ _ _ hr1).mono ?_
    rintro E w2 ⟨rfl, hr2, hg2⟩
    have HG2 := Lib.hid hg2
    clear hg2 hr1
    go_wp2_with fail
    refine (rdU32 _ _ _ _ hr2).mono ?_
    rintro E w3 ⟨rfl, hr3, hg3⟩
    have HG3 := Lib.hid hg3
    rw [HE.out] at hr3
    clear hg3 hr2
    go_wp2_with fail
    refine (rdRest _ _ _ _ hr3).mono ?_
    rintro E w4 ⟨rfl, rfl⟩
    go_wp2_with fail
    refine (rdErr _ _ _ _ hr3).mono ?_
    rintro E w4 ⟨rfl, rfl⟩
    go_wp2_with fail
    refine (rdErr _ _ _ _ hr3).mono ?_
    rintro E w4 ⟨rfl, rfl⟩
    go_wp2
    go_ret2
    exact ⟨rfl, grown_new (grown_new HG1.out HG2.out (Nat.le_refl _)) HG3.out (Nat.le_refl _)⟩
  · obtain ⟨e2, e4⟩ := rd_long (s := s) (by omega)
    have hn2 : fn s < 65536 := un2_lt s
    have hd := List.length_drop (i := 6) (l := s)
    have hsz := str_size (s.drop 6)
    have hss := str_size s
    have hst := str_cut s 2
    have hpt : (str (s.drop 6)).extract 0 (fn s) = str (fpay s) := str_cut _ _
    have H6 := Lib.hid (Nat.le_of_not_lt h6)
    have E2 := Lib.hid e2
    have E4 := Lib.hid e4
    clear e2 e4
    go_enter Tryz.func164, Tryz.ntmps164
    go_wp2_with fail
    refine (rdNew s _ hs).mono ?_
    rintro E w1 ⟨rfl, hr1, hg1, hz1⟩
    have HG1 := Lib.hid hg1
    clear hg1
    go_wp2_with fail
    refine (rdU16 _ _ _ _ hr1).mono ?_
    rintro E w2 ⟨rfl, hr2, hg2⟩
    rw [E2.out] at hr2
    rw [E2.out]
    have HG2 := Lib.hid hg2
    clear hg2 hr1
    go_wp2_with fail
    refine (rdU32 _ _ _ _ hr2).mono ?_
    rintro E w3 ⟨rfl, hr3, hg3⟩
    rw [E4.out] at hr3
    rw [E4.out]
    have HG3 := Lib.hid hg3
    clear hg3 hr2
    have hr4 : Rd w3 w.heap.size (s.drop 6) 0 := hr3
    clear hr3
    go_wp2_with fail
    refine (rdRest _ _ _ _ hr4).mono ?_
    rintro E w4 ⟨rfl, rfl⟩
    go_wp2_with fail
    refine (rdErr _ _ _ _ hr4).mono ?_
    rintro E w4 ⟨rfl, rfl⟩
    have HG : Hid (w.grownBy w3 none) := Lib.hid (grown_new (grown_new HG1.out HG2.out (Nat.le_refl _)) HG3.out (Nat.le_refl _))
    have HT3 := Lib.hid (tab_grown HT.out HG.out)
    rw [hd] at hsz
    clear hd
    have h6 := H6.out
    by_cases hbig : 4096 < fn s
    · have he := fe_long H6.out hbig
      have HE : Hid (fe s = 3 ∧ fp s = []) := ⟨he, fp_bad (by rw [he]; decide)⟩
      clear he
      go_wp2
      go_ret2
      exact ⟨two_first HE.out, HG.out⟩
    · have hle : fn s ≤ 4096 := by omega
      by_cases htorn : s.length - 6 < fn s
      · have he := fe_torn H6.out hle htorn
        have HE : Hid (fe s = 10 ∧ fp s = []) := ⟨he, fp_bad (by rw [he]; decide)⟩
        clear he
        go_wp2
        go_ret2
        exact ⟨two_first HE.out, HG.out⟩
      · have hroom : fn s ≤ s.length - 6 := by omega
        have hpl := fpay_len hroom
        have hck : fck s = upd 0 (s.take 2 ++ fpay s) := rfl
        have HCK := Lib.hid hck
        clear hck
        have h2l : (s.take 2).length ≤ 2 := by rw [List.length_take]; omega
        have H2L := Lib.hid h2l
        clear h2l
        have HC := Lib.hid (checksum (s.take 2) (fpay s) w3.drew (by have := H2L.out; unfold maxLen; omega) (by unfold maxLen; omega) HT3.out)
        have i2 : (2 : Int) ≤ (s.length : Int) := by omega
        have i3 : (fn s : Int) ≤ ((s.length - 6 : Nat) : Int) := by omega
        rw [← HCK.out] at HC
        by_cases hsum : fck s = fsum s
        · have he := fe_ok H6.out hle hroom hsum
          have HE : Hid (fe s = 0 ∧ fp s = fpay s) := ⟨he, fp_ok he⟩
          clear he
          rw [hsum] at HC
          clear hsum
          go_wp2
          go_region_held3 (fun w' => Tab w') (first | assumption | exact HT3.out) (first | (go_at_call 143; refine HC.out.mono ?_; rintro E w4 ⟨rfl, hg4⟩; have hg5 := drew_grown hg4; have hT4 := tab_grown HT3.out hg5))
          go_wp2
          go_ret2
          exact ⟨two_first HE.out, HG.out.trans hg5⟩
        · have he := fe_sum H6.out hle hroom hsum
          have HE : Hid (fe s = 9 ∧ fp s = []) := ⟨he, fp_bad (by rw [he]; decide)⟩
          have hb : (((fck s : Nat) : Int) == ((fsum s : Nat) : Int)) = false := beq_eq_false_iff_ne.2 (by omega)
          clear he
          go_wp2
          go_region_held3 (fun w' => Tab w') (first | assumption | exact HT3.out) (first | (go_at_call 143; refine HC.out.mono ?_; rintro E w4 ⟨rfl, hg4⟩; have hg5 := drew_grown hg4; have hT4 := tab_grown HT3.out hg5))
          go_wp2
          go_ret2
          exact ⟨two_first HE.out, HG.out.trans hg5⟩
end Go.Proofs.YtacgmadgkmcmoaaGreatDoor
/- The document's functions that make and take ONE frame: one contract each. -/
namespace Go.Proofs.YtacgmadgkmcmoaaGreatDoor
open Go.RowKit
set_option linter.unusedVariables false

theorem frefPut (s : List UInt8) (w : World) (hs : s.length ≤ maxLen) :
    Calls Tryz.prog 106 #[.string (str s)] w fun E w' => E = .returned (.tuple #[.string (str (putS s)), .int .i64 (putE s)]) ∧ w.grownBy w' none := by
  have hsz := str_size s
  unfold maxLen at hs
  by_cases h : s.length ≤ 4096
  · rw [show putS s = frm s from by rw [putS, if_pos h], show putE s = 0 from by rw [putE, if_pos h]]
    clear hs
    have h0 := le_length 2 s.length
    have hap := str_append (le 2 s.length) s
    have hap2 := str_append (le 2 s.length) (le 4 (upd 0 (le 2 s.length ++ s)))
    have hap3 := str_append (fhead s) s
    have hs1 := str_size (fhead s)
    have hs2 := str_size (le 2 s.length)
    have hs3 := str_size (le 4 (upd 0 (le 2 s.length ++ s)))
    rw [le_length] at hs2 hs3
    rw [head_len] at hs1
    have hu := upd_lt' 0 (le 2 s.length ++ s) (by omega)
    have HU := Lib.hid hu
    have HF : Hid (fhead s ++ s = frm s) := rfl
    have HH : Hid (le 2 s.length ++ le 4 (upd 0 (le 2 s.length ++ s)) = fhead s) := rfl
    rw [HH.out] at hap2
    have HL := Lib.hid (show (le 2 s.length ++ s).length ≤ maxLen from by rw [List.length_append, h0]; unfold maxLen; omega)
    rw [HF.out] at hap3
    go_enter Tryz.func106, Tryz.ntmps106
    go_wp2_with fail
    refine (refNumber s.length 2 _ (by omega) (by omega)).mono ?_
    rintro E w1 ⟨rfl, hg1⟩
    have HG1 := Lib.hid hg1
    clear hg1
    go_wp2_with fail
    refine (refSum _ _ HL.out).mono ?_
    rintro E w2 ⟨rfl, rfl⟩
    go_wp2_with fail
    refine (refNumber (upd 0 (le 2 s.length ++ s)) 4 _ (by omega) (by omega)).mono ?_
    rintro E w2 ⟨rfl, hg2⟩
    have HG2 := Lib.hid (HG1.out.trans hg2)
    clear hg2
    go_wp2
    go_ret2
    exact ⟨rfl, HG2.out⟩
  · rw [show putS s = [] from by rw [putS, if_neg h], show putE s = 3 from by rw [putE, if_neg h]]
    go_enter Tryz.func106, Tryz.ntmps106
    go_wp2
    go_ret2
    exact ⟨rfl, grown_refl _ _⟩
/-- How many bytes the first frame takes. -/
def fu (s : List UInt8) : Nat := if fe s = 0 then 6 + (fp s).length else 0
theorem three_next {s p : List UInt8} {n : Nat} {e : Int} (h : fe s = e ∧ fp s = p ∧ fu s = n) :
    Ending.returned (.tuple #[.string (str p), .int .i64 n, .int .i64 e]) = Ending.returned (.tuple #[.string (str (fp s)), .int .i64 (fu s), .int .i64 (fe s)]) := by rw [h.1, h.2.1, h.2.2]
theorem three_next' {s p : List UInt8} {n : Nat} {e : Int} (h : fe s = e ∧ fp s = p ∧ fu s = 6 + n) :
    Ending.returned (.tuple #[.string (str p), .int .i64 (6 + (n : Int)), .int .i64 e]) = Ending.returned (.tuple #[.string (str (fp s)), .int .i64 (fu s), .int .i64 (fe s)]) := by
  rw [h.1, h.2.1, h.2.2]; rfl
theorem fu_bad {s : List UInt8} {e : Int} (h : fe s = e) (he : e ≠ 0) : fe s = e ∧ fp s = [] ∧ fu s = 0 := by
  subst h; exact ⟨rfl, fp_bad he, by rw [fu, if_neg he]⟩
theorem fu_ok {s : List UInt8} (h : fe s = 0) : fe s = 0 ∧ fp s = fpay s ∧ fu s = 6 + (fpay s).length :=
  ⟨h, fp_ok h, by rw [fu, if_pos h, fp_ok h]⟩
theorem fn_two {s : List UInt8} (h : 2 ≤ s.length) : fn s = (s[0]'(by omega)).toNat + 256 * (s[1]'(by omega)).toNat := by
  match s, h with
  | a :: b :: r, _ => simp [fn, un]
theorem str_yes {a b : List UInt8} (h : a = b) : ((str a).toList == (str b).toList) = true := by subst h; simp
theorem str_toList (a : List UInt8) : (str a).toList = a := by rw [ByteArray.toList_eq]; simp [str]
theorem str_no {a b : List UInt8} (h : a ≠ b) : ((str a).toList == (str b).toList) = false := by rw [str_toList, str_toList]; simpa using h
theorem fgrown_drewN (w : World) (n : Nat) : w.grownBy (w.drewN n) none := ⟨rfl, rfl, rfl, Nat.le_refl _, fun _ _ _ => rfl⟩
/-- The fhead that a payload asks for is the fhead that stands there, just if the sums are the same. -/
theorem head_eq {s : List UInt8} (h6 : 6 ≤ s.length) (h3 : fn s ≤ s.length - 6) : fhead (fpay s) = s.take 6 ↔ fck s = fsum s := by
  have e2 : le 2 (fpay s).length = s.take 2 := by
    rw [fpay_len h3, fn]
    have := le_un (s.take 2)
    rwa [show (s.take 2).length = 2 from by rw [List.length_take]; omega] at this
  have e4 : (s.drop 2).take 4 = le 4 (fsum s) := by
    rw [fsum]
    have := le_un ((s.drop 2).take 4)
    rw [show ((s.drop 2).take 4).length = 4 from by rw [List.length_take, List.length_drop]; omega] at this
    exact this.symm
  have e6 : s.take 6 = s.take 2 ++ le 4 (fsum s) := by
    rw [← e4, show (6 : Nat) = 2 + 4 from rfl, List.take_add]
  rw [fhead, e2, e6]
  constructor
  · intro h
    have h1 := List.append_cancel_left h
    have h2 := congrArg un h1
    rw [un_le, un_le] at h2
    have l1 := upd_lt' 0 (s.take 2 ++ fpay s) (by omega)
    have l2 : fsum s < 256 ^ 4 := by
      have := un_lt ((s.drop 2).take 4)
      rw [show ((s.drop 2).take 4).length = 4 from by rw [List.length_take, List.length_drop]; omega] at this
      exact this
    rw [Nat.mod_eq_of_lt (by simpa using l1), Nat.mod_eq_of_lt l2] at h2
    exact h2
  · intro h
    rw [show upd 0 (s.take 2 ++ fpay s) = fsum s from h]
set_option maxHeartbeats 1000000 in
theorem refNext (s : List UInt8) (w : World) (hs : s.length ≤ 1099511627776) :
    Calls Tryz.prog 74 #[.string (str s)] w fun E w' => E = .returned (.tuple #[.string (str (fp s)), .int .i64 (fu s), .int .i64 (fe s)]) ∧ w.grownBy w' none := by
  have hsz := str_size s
  by_cases h6 : s.length < 6
  · have HE := Lib.hid (fu_bad (fe_short h6) (by decide))
    go_enter Tryz.func74, Tryz.ntmps74
    go_wp2
    go_ret3
    exact ⟨three_next HE.out, grown_refl _ _⟩
  · have HFN := Lib.hid (fn_two (s := s) (by omega))
    have hg0 : (str s)[0]'(by rw [hsz]; omega) = s[0]'(by omega) := by simp [str]; rfl
    have hg1 : (str s)[1]'(by rw [hsz]; omega) = s[1]'(by omega) := by simp [str]; rfl
    have ha := (s[0]'(by omega)).toNat_lt
    have hb := (s[1]'(by omega)).toNat_lt
    generalize s[0]'(by omega) = a at *
    generalize s[1]'(by omega) = b at *
    have hfn : (a.toNat : Int) + 256 * (b.toNat : Int) = ((fn s : Nat) : Int) := by rw [HFN.out]; omega
    have hn2 : fn s < 65536 := un2_lt s
    have H6 := Lib.hid (Nat.le_of_not_lt h6)
    by_cases hbig : 4096 < fn s
    · have HE := Lib.hid (fu_bad (fe_long H6.out hbig) (by decide))
      go_enter Tryz.func74, Tryz.ntmps74
      go_wp2
      go_quiet (fail)
      go_wp2
      go_ret3
      exact ⟨three_next HE.out, fgrown_drewN _ _⟩
    · by_cases htorn : s.length - 6 < fn s
      · have HE := Lib.hid (fu_bad (fe_torn H6.out (by omega) htorn) (by decide))
        go_enter Tryz.func74, Tryz.ntmps74
        go_wp2
        go_quiet (fail)
        go_wp2
        go_ret3
        exact ⟨three_next HE.out, fgrown_drewN _ _⟩
      · have hroom : fn s ≤ s.length - 6 := by omega
        have hpl := fpay_len hroom
        have hx : (str s).extract 6 (6 + fn s) = str (fpay s) := by
          rw [str_extract, fpay]; congr 1; rw [List.drop_take]; congr 1; omega
        have hx6 := str_cut s 6
        have i1 : (6 : Int) + (fn s : Int) ≤ (s.length : Int) := by omega
        have i2 : (6 : Int) ≤ 6 + (fn s : Int) := by omega
        have i3 : (0 : Int) ≤ 6 + (fn s : Int) := by omega
        have i4 : ¬ (6 : Int) + (fn s : Int) < 6 := by omega
        have hto : ((6 : Int) + (fn s : Int)).toNat = 6 + fn s := by omega
        have hpe : putS (fpay s) = frm (fpay s) := by rw [putS, if_pos (by omega)]
        have hcf : (str (frm (fpay s))).extract 0 6 = str (fhead (fpay s)) := by
          rw [str_cut, frm, List.take_append_of_le_length (by rw [head_len]; omega), List.take_of_length_le (by rw [head_len]; omega)]
        have hsf := str_size (frm (fpay s))
        rw [frm_len, hpl] at hsf
        have HHE := Lib.hid (head_eq H6.out hroom)
        have HPL := Lib.hid (show (fpay s).length ≤ maxLen from by rw [hpl]; unfold maxLen; omega)
        have HPE := Lib.hid hpe
        clear hpe
        go_enter Tryz.func74, Tryz.ntmps74
        go_wp2
        go_quiet (fail)
        go_wp2_with fail
        refine (frefPut (fpay s) _ HPL.out).mono ?_
        rintro E w1 ⟨rfl, hg1⟩
        rw [HPE.out]
        have i6 : (6 : Int) ≤ 6 + ((fn s : Nat) : Int) := by omega
        have i7 : (6 : Int) ≤ (s.length : Int) := by omega
        have HG1 := Lib.hid ((fgrown_drewN w nq).trans hg1)
        clear hg1
        by_cases hsum : fck s = fsum s
        · have HE := Lib.hid (fu_ok (fe_ok H6.out (by omega) hroom hsum))
          have hq := str_yes (HHE.out.2 hsum)
          rw [hpl] at HE
          clear hsum
          go_wp2
          go_quiet (fail)
          go_wp2
          go_ret3
          exact ⟨three_next' HE.out, HG1.out.trans (fgrown_drewN _ _)⟩
        · have HE := Lib.hid (fu_bad (fe_sum H6.out (by omega) hroom hsum) (by decide))
          have hq := str_no (fun h => hsum (HHE.out.1 h))
          go_wp2
          go_quiet (fail)
          go_wp2
          go_ret3
          exact ⟨three_next HE.out, HG1.out.trans (fgrown_drewN _ _)⟩
end Go.Proofs.YtacgmadgkmcmoaaGreatDoor
