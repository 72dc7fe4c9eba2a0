/- The chapter's examples, walked. -/
import Derived.Test.YtjifpojhbpjffaaQn
namespace Go.Proofs.Ytjifpojhbpjffaa
open Go.RowKit
set_option linter.unusedVariables false
set_option linter.unusedSimpArgs false
set_option maxRecDepth 20000

def hdT : List UInt8 := [3, 1, 0, 0, 0, 0, 0, 0, 0, 2, 0, 0, 0, 0, 0, 0, 0, 3, 0, 0, 0, 0, 0, 0, 0, 1]
theorem kn_put (w : World) : Calls Try.prog 7 #[.agg (rcs ⟨3, 0, 0, 0, 0, 1, 2, 3, 1⟩)] w fun E w' => E = .returned (.tuple #[.string (str hdT), .int .i64 0]) ∧ Below w.heap.size w w' := by
  have h := put_c ⟨3, 0, 0, 0, 0, 1, 2, 3, 1⟩ w ⟨by decide, by decide, by decide, by decide, by decide, by decide, by decide, by decide, by decide, by decide⟩
  have hm : mayB ⟨3, 0, 0, 0, 0, 1, 2, 3, 1⟩ = true := by decide +kernel
  rw [show pA ⟨3, 0, 0, 0, 0, 1, 2, 3, 1⟩ = hdT from (if_pos hm).trans (by decide +kernel), show pE ⟨3, 0, 0, 0, 0, 1, 2, 3, 1⟩ = 0 from if_pos hm] at h
  exact h
theorem kn_take (w : World) : Calls Try.prog 10 #[.string (str hdT)] w fun E w' => E = .returned (.tuple #[.agg (rcs ⟨3, 0, 0, 0, 0, 1, 2, 3, 1⟩), .int .i64 0]) ∧ Below w.heap.size w w' := by
  have h := take_c' hdT w (by decide)
  rw [tkR_dT, show dT hdT = (0, ⟨3, 0, 0, 0, 0, 1, 2, 3, 1⟩) from rfl] at h
  exact h
theorem kn_short (w : World) : Calls Try.prog 12 #[.string (str (hdT.take 25)), .int .i64 10] w fun E w' => E = .returned (.bool true) ∧ Below w.heap.size w w' :=
  fails_yes _ 10 w (by decide) (by rw [tkR_dT]; rfl)
theorem kn_long (w : World) : Calls Try.prog 12 #[.string (str (hdT ++ [0])), .int .i64 4] w fun E w' => E = .returned (.bool true) ∧ Below w.heap.size w w' :=
  fails_yes _ 4 w (by decide) (by rw [tkR_dT]; rfl)
theorem kn_puts (w : World) : Calls Try.prog 13 #[.agg #[.int .i64 2, .int .u64 1, .int .u8 0, .int .u8 2, .int .u8 3, .int .u64 0, .int .u64 0, .int .u64 0, .int .u8 0], .string ⟨#[2, 1, 0, 0, 0, 0, 0, 0, 0, 2, 3]⟩] w fun E w' => E = .returned (.bool true) ∧ Below w.heap.size w w' :=
  puts_yes ⟨2, 1, 0, 2, 3, 0, 0, 0, 0⟩ [2, 1, 0, 0, 0, 0, 0, 0, 0, 2, 3] w ⟨by decide, by decide, by decide, by decide, by decide, by decide, by decide, by decide, by decide, by decide⟩ (by decide +kernel) (by decide +kernel)
theorem kn_none0 (w : World) : Calls Try.prog 14 #[.agg #[.int .i64 1, .int .u64 0, .int .u8 64, .int .u8 0, .int .u8 0, .int .u64 0, .int .u64 0, .int .u64 0, .int .u8 0]] w fun E w' => E = .returned (.bool true) ∧ Below w.heap.size w w' :=
  none_yes ⟨1, 0, 64, 0, 0, 0, 0, 0, 0⟩ w ⟨by decide, by decide, by decide, by decide, by decide, by decide, by decide, by decide, by decide, by decide⟩ (by decide +kernel)
theorem kn_none1 (w : World) : Calls Try.prog 14 #[.agg #[.int .i64 1, .int .u64 0, .int .u8 0, .int .u8 0, .int .u8 0, .int .u64 0, .int .u64 0, .int .u64 0, .int .u8 1]] w fun E w' => E = .returned (.bool true) ∧ Below w.heap.size w w' :=
  none_yes ⟨1, 0, 0, 0, 0, 0, 0, 0, 1⟩ w ⟨by decide, by decide, by decide, by decide, by decide, by decide, by decide, by decide, by decide, by decide⟩ (by decide +kernel)
theorem kn_none2 (w : World) : Calls Try.prog 14 #[.agg #[.int .i64 257, .int .u64 0, .int .u8 0, .int .u8 0, .int .u8 0, .int .u64 0, .int .u64 0, .int .u64 0, .int .u8 0]] w fun E w' => E = .returned (.bool true) ∧ Below w.heap.size w w' :=
  none_yes ⟨257, 0, 0, 0, 0, 0, 0, 0, 0⟩ w ⟨by decide, by decide, by decide, by decide, by decide, by decide, by decide, by decide, by decide, by decide⟩ (by decide +kernel)
theorem kn_none3 (w : World) : Calls Try.prog 14 #[.agg #[.int .i64 (-255), .int .u64 0, .int .u8 0, .int .u8 0, .int .u8 0, .int .u64 0, .int .u64 0, .int .u64 0, .int .u8 0]] w fun E w' => E = .returned (.bool true) ∧ Below w.heap.size w w' :=
  none_yes ⟨-255, 0, 0, 0, 0, 0, 0, 0, 0⟩ w ⟨by decide, by decide, by decide, by decide, by decide, by decide, by decide, by decide, by decide, by decide⟩ (by decide +kernel)
theorem kn_none4 (w : World) : Calls Try.prog 14 #[.agg #[.int .i64 3, .int .u64 0, .int .u8 0, .int .u8 0, .int .u8 0, .int .u64 0, .int .u64 0, .int .u64 0, .int .u8 2]] w fun E w' => E = .returned (.bool true) ∧ Below w.heap.size w w' :=
  none_yes ⟨3, 0, 0, 0, 0, 0, 0, 0, 2⟩ w ⟨by decide, by decide, by decide, by decide, by decide, by decide, by decide, by decide, by decide, by decide⟩ (by decide +kernel)
theorem kn_none5 (w : World) : Calls Try.prog 14 #[.agg #[.int .i64 2, .int .u64 0, .int .u8 0, .int .u8 0, .int .u8 200, .int .u64 0, .int .u64 0, .int .u64 0, .int .u8 0]] w fun E w' => E = .returned (.bool true) ∧ Below w.heap.size w w' :=
  none_yes ⟨2, 0, 0, 0, 200, 0, 0, 0, 0⟩ w ⟨by decide, by decide, by decide, by decide, by decide, by decide, by decide, by decide, by decide, by decide⟩ (by decide +kernel)
theorem kn_none6 (w : World) : Calls Try.prog 14 #[.agg #[.int .i64 0, .int .u64 0, .int .u8 0, .int .u8 0, .int .u8 0, .int .u64 0, .int .u64 0, .int .u64 0, .int .u8 0]] w fun E w' => E = .returned (.bool true) ∧ Below w.heap.size w w' :=
  none_yes ⟨0, 0, 0, 0, 0, 0, 0, 0, 0⟩ w ⟨by decide, by decide, by decide, by decide, by decide, by decide, by decide, by decide, by decide, by decide⟩ (by decide +kernel)
theorem kn_fails0 (w : World) : Calls Try.prog 12 #[.string ⟨#[4]⟩, .int .i64 4] w fun E w' => E = .returned (.bool true) ∧ Below w.heap.size w w' :=
  fails_yes [4] 4 w (by decide) (by rw [tkR_dT]; rfl)
theorem kn_fails1 (w : World) : Calls Try.prog 12 #[.string ⟨#[1]⟩, .int .i64 10] w fun E w' => E = .returned (.bool true) ∧ Below w.heap.size w w' :=
  fails_yes [1] 10 w (by decide) (by rw [tkR_dT]; rfl)
theorem kn_fails2 (w : World) : Calls Try.prog 12 #[.string ⟨#[1, 0, 0, 0, 0, 0, 0, 0, 0, 64]⟩, .int .i64 4] w fun E w' => E = .returned (.bool true) ∧ Below w.heap.size w w' :=
  fails_yes [1, 0, 0, 0, 0, 0, 0, 0, 0, 64] 4 w (by decide) (by rw [tkR_dT]; rfl)
theorem kn_fails3 (w : World) : Calls Try.prog 12 #[.string ⟨#[0]⟩, .int .i64 4] w fun E w' => E = .returned (.bool true) ∧ Below w.heap.size w w' :=
  fails_yes [0] 4 w (by decide) (by rw [tkR_dT]; rfl)
attribute [local go_sem ↓] ld_rec st_rec
set_option maxHeartbeats 2000000 in
theorem law_known (w : World) :
    Calls Try.prog 5 #[] w fun E w' => E = .returned (.bool true) ∧ Below w.heap.size w w' := by
  have hs : (str hdT).size = 26 := str_size hdT
  have hcut : (str hdT).extract 0 25 = str (hdT.take 25) := str_cut hdT 25
  have hadd : str hdT ++ ⟨#[0]⟩ = str (hdT ++ [0]) := str_append hdT [0]
  have H0 : Loc w.heap.size w w [] := Loc.nil (Nat.le_refl _)
  obtain ⟨g1, w1, z1, s1, H1, q1⟩ := H0.newA ty_rec #[.int .i64 0, .int .u64 0, .int .u8 0, .int .u8 0, .int .u8 0, .int .u64 0, .int .u64 0, .int .u64 0, .int .u8 0] #[.int .i64 3, .int .u64 0, .int .u8 0, .int .u8 0, .int .u8 0, .int .u64 1, .int .u64 2, .int .u64 3, .int .u8 1] rfl rfl rfl
  replace H1 : Loc w.heap.size w w1 [(g1, 27, rcs ⟨3, 0, 0, 0, 0, 1, 2, 3, 1⟩)] := H1
  have l1 := H1.ldA ty_rec 0 rfl 0 (vs := rcs ⟨3, 0, 0, 0, 0, 1, 2, 3, 1⟩) rfl (Nat.le_of_ble_eq_true rfl)
  have H1 := Lib.hid H1
  clear H0 q1
  go_enter Try.func5, Try.ntmps5
  go_wp2_with fail
  clear s1 z1 l1
  refine (kn_put w1).mono ?_
  rintro E w2 ⟨rfl, hb⟩
  have H2 := Lib.hid (H1.out.to hb)
  clear hb
  go_wp2_with fail
  refine (kn_short w2).mono ?_
  rintro E w3 ⟨rfl, hb⟩
  have H3 := Lib.hid (H2.out.to hb)
  clear hb
  go_wp2_with fail
  refine (kn_long w3).mono ?_
  rintro E w4 ⟨rfl, hb⟩
  have H4 := Lib.hid (H3.out.to hb)
  clear hb
  go_wp2_with fail
  refine (kn_puts w4).mono ?_
  rintro E w5 ⟨rfl, hb⟩
  have H5 := Lib.hid (H4.out.to hb)
  clear hb
  go_wp2_with fail
  refine (kn_take w5).mono ?_
  rintro E w6 ⟨rfl, hb⟩
  have H6 := H5.out.to hb
  obtain ⟨g7, w7, z7, s7, H7, q7⟩ := H6.newA ty_rec #[.int .i64 0, .int .u64 0, .int .u8 0, .int .u8 0, .int .u8 0, .int .u64 0, .int .u64 0, .int .u64 0, .int .u8 0] (rcs ⟨3, 0, 0, 0, 0, 1, 2, 3, 1⟩) rfl rfl rfl
  replace H7 : Loc w.heap.size w w7 [(g1, 27, rcs ⟨3, 0, 0, 0, 0, 1, 2, 3, 1⟩), (g7, 27, rcs ⟨3, 0, 0, 0, 0, 1, 2, 3, 1⟩)] := H7
  have la := H7.ldA ty_rec 0 rfl 0 (vs := rcs ⟨3, 0, 0, 0, 0, 1, 2, 3, 1⟩) rfl (Nat.le_of_ble_eq_true rfl)
  have lb := H7.ldA ty_rec 1 rfl 0 (vs := rcs ⟨3, 0, 0, 0, 0, 1, 2, 3, 1⟩) rfl (Nat.le_of_ble_eq_true rfl)
  have hne := re_neq ⟨3, 0, 0, 0, 0, 1, 2, 3, 1⟩ ⟨3, 0, 0, 0, 0, 1, 2, 3, 1⟩
  rw [reB_self] at hne
  have H7 := Lib.hid H7
  clear hb H6 q7
  go_wp2_with fail
  clear s7 z7 la lb hne
  refine (kn_none0 w7).mono ?_
  rintro E w8 ⟨rfl, hb⟩
  have H8 := Lib.hid (H7.out.to hb)
  clear hb
  go_wp2_with fail
  refine (kn_none1 w8).mono ?_
  rintro E w9 ⟨rfl, hb⟩
  have H9 := Lib.hid (H8.out.to hb)
  clear hb
  go_wp2_with fail
  refine (kn_none2 w9).mono ?_
  rintro E w10 ⟨rfl, hb⟩
  have H10 := Lib.hid (H9.out.to hb)
  clear hb
  go_wp2_with fail
  refine (kn_none3 w10).mono ?_
  rintro E w11 ⟨rfl, hb⟩
  have H11 := Lib.hid (H10.out.to hb)
  clear hb
  go_wp2_with fail
  refine (kn_none4 w11).mono ?_
  rintro E w12 ⟨rfl, hb⟩
  have H12 := Lib.hid (H11.out.to hb)
  clear hb
  go_wp2_with fail
  refine (kn_none5 w12).mono ?_
  rintro E w13 ⟨rfl, hb⟩
  have H13 := Lib.hid (H12.out.to hb)
  clear hb
  go_wp2_with fail
  refine (kn_none6 w13).mono ?_
  rintro E w14 ⟨rfl, hb⟩
  have H14 := Lib.hid (H13.out.to hb)
  clear hb
  go_wp2_with fail
  refine (kn_fails0 w14).mono ?_
  rintro E w15 ⟨rfl, hb⟩
  have H15 := Lib.hid (H14.out.to hb)
  clear hb
  go_wp2_with fail
  refine (kn_fails1 w15).mono ?_
  rintro E w16 ⟨rfl, hb⟩
  have H16 := Lib.hid (H15.out.to hb)
  clear hb
  go_wp2_with fail
  refine (kn_fails2 w16).mono ?_
  rintro E w17 ⟨rfl, hb⟩
  have H17 := Lib.hid (H16.out.to hb)
  clear hb
  go_wp2_with fail
  refine (kn_fails3 w17).mono ?_
  rintro E w18 ⟨rfl, hb⟩
  have H18 := Lib.hid (H17.out.to hb)
  clear hb
  go_wp2_with fail
  refine (awake_c w18).mono ?_
  rintro E w19 ⟨rfl, hb⟩
  have H19 := Lib.hid (H18.out.to hb)
  clear hb
  go_wp2
  go_ret
  exact ⟨rfl, H19.out.be⟩
end Go.Proofs.Ytjifpojhbpjffaa
