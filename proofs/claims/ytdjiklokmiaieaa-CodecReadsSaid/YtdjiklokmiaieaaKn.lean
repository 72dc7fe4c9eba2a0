/- The Go function CodecKnown returns true. Conditions: none. -/
import Derived.Test.YtdjiklokmiaieaaSm
namespace Go.Proofs.Ytdjiklokmiaieaa
open Go.RowKit
set_option linter.unusedVariables false

theorem vr_0 : (str (vr 0)).toList = [0] := by rw [str_toList]; decide +kernel
theorem vr_127 : (str (vr 127)).toList = [127] := by rw [str_toList]; decide +kernel
theorem vr_128 : (str (vr 128)).toList = [128, 1] := by rw [str_toList]; decide +kernel
theorem vr_max : (str (vr 18446744073709551615)).toList = [255, 255, 255, 255, 255, 255, 255, 255, 255, 1] := by rw [str_toList]; decide +kernel
theorem nines_1 : (str [255, 255, 255, 255, 255, 255, 255, 255, 255, 1]).toList = [255, 255, 255, 255, 255, 255, 255, 255, 255, 1] := by rw [str_toList]
theorem nil_toList : (str []).toList = [] := str_toList []
theorem texts : (str (([] ++ tx [97, 98]) ++ tx [])).toList = [2, 97, 98, 0] := by rw [str_toList]; decide +kernel
theorem k_one : num 2 [1] = ⟨10, 0, []⟩ := by simp [num]
theorem k_two : txd [2, 97] = ⟨10, [], []⟩ := by simp [txd, vd, tk]
theorem k_three : num 1 [1, 2] = ⟨0, 1, [2]⟩ := by simp [num, un]
theorem k_four : num 2 [2] = ⟨10, 0, []⟩ := by simp [num]
theorem k_five : num 1 [] = ⟨10, 0, []⟩ := by simp [num]
/-- A reader of its own, as it is now, in a world where nothing that was there ahead has turned. -/
structure RdAt (w : World) (g : Nat) (l : List UInt8) (e : Int) (B : Nat) : Prop where
  rd : Rd w g l e
  ge : B ≤ g
theorem rd_far {w w' : World} {g g' : Nat} {l : List UInt8} {e : Int} (h : Rd w g l e) (k : w.grownBy w' (some g')) (hne : g ≠ g') : Rd w' g l e := ⟨h.1.grown k (by simpa using hne), h.2⟩
theorem below_at {w w1 w2 : World} {B g : Nat} (h : Below B w w1) (k : w1.grownBy w2 (some g)) (hg : B ≤ g) (hB : B ≤ w1.heap.size) : Below B w w2 := h.grown k hB (fun _ e => by cases e; exact hg)
theorem below_none {w w1 w2 : World} {B : Nat} (h : Below B w w1) (k : w1.grownBy w2 none) (hB : B ≤ w1.heap.size) : Below B w w2 := h.grown k hB (fun _ e => by cases e)

set_option maxHeartbeats 4000000 in
set_option maxRecDepth 200000 in
theorem lawKnown (w : World) :
    Calls Try.prog 7 #[] w fun E w' => E = .returned (.bool true) ∧ w.grownBy w' none := by
  have h0 := vr_0
  have h127 := vr_127
  have h128 := vr_128
  have hmax := vr_max
  have hn1 := nines_1
  have hnil := nil_toList
  have htx := texts
  go_enter Try.func7, Try.ntmps7
  go_wp2_with fail
  refine (works_c _).mono ?_
  rintro E w1 ⟨rfl, hg⟩
  have HG1 := Lib.hid (((grown_refl w none)).trans hg)
  clear hg
  go_wp2_with fail
  refine (vars_c 0 _ (by decide)).mono ?_
  rintro E w2 ⟨rfl, hg⟩
  have HG2 := Lib.hid ((HG1.out).trans hg)
  clear hg
  go_wp2_with fail
  refine (vars_c 127 _ (by decide)).mono ?_
  rintro E w3 ⟨rfl, hg⟩
  have HG3 := Lib.hid ((HG2.out).trans hg)
  clear hg
  go_wp2_with fail
  refine (vars_c 128 _ (by decide)).mono ?_
  rintro E w4 ⟨rfl, hg⟩
  have HG4 := Lib.hid ((HG3.out).trans hg)
  clear hg
  go_wp2_with fail
  refine (vars_c 18446744073709551615 _ (by decide)).mono ?_
  rintro E w5 ⟨rfl, hg⟩
  have HG5 := Lib.hid ((HG4.out).trans hg)
  clear hg
  go_wp2_with fail
  refine (nines_c 1 _).mono ?_
  rintro E w6 ⟨rfl, hg⟩
  have HG6 := Lib.hid ((HG5.out).trans hg)
  clear hg
  go_wp2_with fail
  refine (reads_c [] 0 10 _ (by simp) (by simp [vd])).mono ?_
  rintro E w7 ⟨rfl, hg⟩
  have HG7 := Lib.hid ((HG6.out).trans hg)
  clear hg
  go_wp2_with fail
  refine (reads_c [128] 0 10 _ (by simp) (by simp [vd])).mono ?_
  rintro E w8 ⟨rfl, hg⟩
  have HG8 := Lib.hid ((HG7.out).trans hg)
  clear hg
  go_wp2_with fail
  refine (reads_c [129, 0] 0 4 _ (by simp) (by simp [vd])).mono ?_
  rintro E w9 ⟨rfl, hg⟩
  have HG9 := Lib.hid ((HG8.out).trans hg)
  clear hg
  go_wp2_with fail
  refine (nines_c 2 _).mono ?_
  rintro E w10 ⟨rfl, hg⟩
  have HG10 := Lib.hid ((HG9.out).trans hg)
  clear hg
  go_wp2_with fail
  refine (reads_c [255, 255, 255, 255, 255, 255, 255, 255, 255, 2] 0 3 _ (by simp) (by simp [vd])).mono ?_
  rintro E w11 ⟨rfl, hg⟩
  have HG11 := Lib.hid ((HG10.out).trans hg)
  clear hg
  go_wp2_with fail
  refine (reads_c [128, 128, 128, 128, 128, 128, 128, 128, 128, 128] 0 3 _ (by simp) (by simp [vd])).mono ?_
  rintro E w12 ⟨rfl, hg⟩
  have HG12 := Lib.hid ((HG11.out).trans hg)
  clear hg
  go_wp2_with fail
  refine (nines_c 1 _).mono ?_
  rintro E w13 ⟨rfl, hg⟩
  have HG13 := Lib.hid ((HG12.out).trans hg)
  clear hg
  go_wp2_with fail
  refine (reads_c [255, 255, 255, 255, 255, 255, 255, 255, 255, 1] 18446744073709551615 0 _ (by simp) (by simp [vd])).mono ?_
  rintro E w14 ⟨rfl, hg⟩
  have HG14 := Lib.hid ((HG13.out).trans hg)
  clear hg
  go_wp2_with fail
  refine (nines_c 0 _).mono ?_
  rintro E w15 ⟨rfl, hg⟩
  have HG15 := Lib.hid ((HG14.out).trans hg)
  clear hg
  go_wp2_with fail
  refine (reads_c [255, 255, 255, 255, 255, 255, 255, 255, 255, 0] 0 4 _ (by simp) (by simp [vd])).mono ?_
  rintro E w16 ⟨rfl, hg⟩
  have HG16 := Lib.hid ((HG15.out).trans hg)
  clear hg
  clear h0 h127 h128 hmax hn1
  generalize w16 = W at *
  have HGW := HG16
  clear HG1 HG2 HG3 HG4 HG5 HG6 HG7 HG8 HG9 HG10 HG11 HG12 HG13 HG14 HG15 HG16
  go_wp2_with fail
  refine (wrText W.heap.size [97, 98] [] _ (wr_new W) (by simp)).mono ?_
  rintro E v1 ⟨rfl, hv1⟩
  go_wp2_with fail
  refine (wrText W.heap.size [] _ _ hv1.1 (by simp [tx, vr, vrF])).mono ?_
  rintro E v2 ⟨rfl, hv2⟩
  have HW2 := Lib.hid (wrTo_trans hv1 hv2)
  clear hv1 hv2
  have hgW := wr_lt HW2.out.1
  have HB2 := Lib.hid (((Below.refl W.heap.size W).alloc (Nat.le_refl _) _).trans HW2.out.2)
  go_wp2_with fail
  refine (rdNew [1] _ (by simp)).mono ?_
  rintro E v3 ⟨rfl, hr1, hg, hz⟩
  have HW3 := Lib.hid (wr_on0 HW2.out.1 hg)
  have HB3 := Lib.hid (below_none HB2.out hg (by omega))
  clear hz hg
  have h1lt := hr1.1.lt
  go_wp2_with fail
  refine (rdNew [2, 97] _ (by simp)).mono ?_
  rintro E v4 ⟨rfl, hr2, hg, hz⟩
  have HW4 := Lib.hid (wr_on0 HW3.out hg)
  have HB4 := Lib.hid (below_none HB3.out hg (by omega))
  have hr1 := rd_on hr1 hg
  clear hz hg
  have h2lt := hr2.1.lt
  go_wp2_with fail
  refine (rdNew [1, 2] _ (by simp)).mono ?_
  rintro E v5 ⟨rfl, hr3, hg, hz⟩
  have HW5 := Lib.hid (wr_on0 HW4.out hg)
  have HB5 := Lib.hid (below_none HB4.out hg (by omega))
  have hr1 := rd_on hr1 hg
  have hr2 := rd_on hr2 hg
  clear hz hg
  have h3lt := hr3.1.lt
  generalize v4.heap.size = g3 at *
  generalize v3.heap.size = g2 at *
  generalize v2.heap.size = g1 at *
  go_wp2_with fail
  refine (wrBytes _ _ _ HW5.out).mono ?_
  rintro E v6 ⟨rfl, rfl⟩
  clear HW2 HW3 HW4
  go_wp2_with fail
  refine (rdU16 g1 [1] 0 _ hr1).mono ?_
  rintro E v6 ⟨rfl, hq1, hg⟩
  rw [k_one, fin_of] at hq1
  rw [k_one]
  have HB6 := Lib.hid (below_at HB5.out hg (by omega) (by omega))
  have hr2 := rd_far hr2 hg (by omega)
  have hr3 := rd_far hr3 hg (by omega)
  have hs6 := hg.size
  clear hg
  go_wp2_with fail
  refine (rdText g2 [2, 97] 0 _ hr2).mono ?_
  rintro E v7 ⟨rfl, hq2, hg⟩
  rw [k_two, fin_of] at hq2
  rw [k_two]
  have HB7 := Lib.hid (below_at HB6.out hg (by omega) (by omega))
  have hq1 := rd_far hq1 hg (by omega)
  have hr3 := rd_far hr3 hg (by omega)
  have hs7 := hg.size
  clear hg
  go_wp2_with fail
  refine (rdU8 g3 [1, 2] 0 _ hr3).mono ?_
  rintro E v8 ⟨rfl, hq3, hg⟩
  rw [k_three, fin_of] at hq3
  rw [k_three]
  have HB8 := Lib.hid (below_at HB7.out hg (by omega) (by omega))
  have hq1 := rd_far hq1 hg (by omega)
  have hq2 := rd_far hq2 hg (by omega)
  have hs8 := hg.size
  clear hg
  go_wp2_with fail
  refine (rdU16 g3 [2] 0 _ hq3).mono ?_
  rintro E v9 ⟨rfl, hq3, hg⟩
  rw [k_four, fin_of] at hq3
  rw [k_four]
  have HB9 := Lib.hid (below_at HB8.out hg (by omega) (by omega))
  have hq1 := rd_far hq1 hg (by omega)
  have hq2 := rd_far hq2 hg (by omega)
  have hs9 := hg.size
  clear hg
  go_wp2_with fail
  refine (rdU8 g3 [] 10 _ hq3).mono ?_
  rintro E v10 ⟨rfl, hq3, hg⟩
  rw [k_five] at hq3
  rw [k_five]
  have HB10 := Lib.hid (below_at HB9.out hg (by omega) (by omega))
  have hq1 := rd_far hq1 hg (by omega)
  have hq2 := rd_far hq2 hg (by omega)
  have hs10 := hg.size
  clear hg
  have hq3 : Rd v10 g3 [] 10 := hq3
  go_wp2_with fail
  refine (rdErr g1 [] 10 _ hq1).mono ?_
  rintro E v11 ⟨rfl, rfl⟩
  go_wp2_with fail
  refine (rdErr g2 [] 10 _ hq2).mono ?_
  rintro E v11 ⟨rfl, rfl⟩
  go_wp2_with fail
  refine (rdErr g3 [] 10 _ hq3).mono ?_
  rintro E v11 ⟨rfl, rfl⟩
  go_wp2_with fail
  refine (rdRest g3 [] 10 _ hq3).mono ?_
  rintro E v11 ⟨rfl, rfl⟩
  go_wp2_with fail
  refine (wrU8_nil 1 _).mono ?_
  rintro E v11 ⟨rfl, rfl⟩
  go_wp2_with fail
  refine (wrText_nil _ _).mono ?_
  rintro E v11 ⟨rfl, rfl⟩
  go_wp2_with fail
  refine (wrBytes_nil _).mono ?_
  rintro E v11 ⟨rfl, rfl⟩
  have HK0 := Lib.hid (show v10.grownBy v10 none from grown_refl _ _)
  go_wp2_with fail
  refine (rdU64_nil' _).mono ?_
  rintro E x1 ⟨rfl, hg⟩
  have HK1 := Lib.hid (HK0.out.trans hg)
  clear hg
  go_wp2_with fail
  refine (rdVar_nil _).mono ?_
  rintro E x2 ⟨rfl, hg⟩
  have HK2 := Lib.hid (HK1.out.trans hg)
  clear hg
  go_wp2_with fail
  refine (rdText_nil _).mono ?_
  rintro E x3 ⟨rfl, hg⟩
  have HK3 := Lib.hid (HK2.out.trans hg)
  clear hg
  go_wp2_with fail
  refine (rdI32_nil' _).mono ?_
  rintro E x4 ⟨rfl, hg⟩
  have HK4 := Lib.hid (HK3.out.trans hg)
  clear hg
  go_wp2_with fail
  refine (rdErr_nil _).mono ?_
  rintro E x4 ⟨rfl, rfl⟩
  go_wp2_with fail
  refine (rdRest_nil _).mono ?_
  rintro E x4 ⟨rfl, rfl⟩
  go_wp2_with fail
  refine (works_c _).mono ?_
  rintro E x5 ⟨rfl, hg⟩
  have HK5 := Lib.hid (HK4.out.trans hg)
  clear hg
  go_wp2
  go_ret
  exact ⟨rfl, HGW.out.trans (grown_of_below (below_none HB10.out HK5.out (by omega)))⟩
theorem law_known (w : World) : Calls Try.prog 7 #[] w fun E w' => E = .returned (.bool true) ∧ Below w.heap.size w w' :=
  (lawKnown w).mono fun _ _ h => ⟨h.1, below_of_grown h.2⟩
end Go.Proofs.Ytdjiklokmiaieaa
