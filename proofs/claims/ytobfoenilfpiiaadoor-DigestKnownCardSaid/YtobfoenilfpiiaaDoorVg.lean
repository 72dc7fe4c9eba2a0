/- DigestKnown: the walk. -/
import Derived.Test.YtobfoenilfpiiaaDoorVd
import Derived.Deep.RegionHeld3
namespace Go.Proofs.YtobfoenilfpiiaaDoor
open Go.RowKit
set_option linter.unusedVariables false
set_option linter.unusedSimpArgs false
set_option maxRecDepth 20000
theorem mx_00 (w : World) : Calls Tryd.prog 13 #[.int .u64 0, .agg #[.int .u8 0, .int .u8 0]] w fun E w' => E = .returned (.int .u64 0) ∧ Below w.heap.size w w' := by
  have h := mix_c 0 0 0 w (by decide) (by decide) (by decide)
  rw [show dmx 0 (0, 0) = 0 from by decide +kernel] at h
  exact h
theorem ch_nil (w : World) : Calls Tryd.prog 15 #[.slice none 0 0] w fun E w' => E = .returned (.int .u64 14695981039346656037) ∧ Below w.heap.size w w' := chain_c [] none 0 w (Pis.nil _ _) (by decide)
def abn : Nat := djn bas [97, 98]
theorem jn_ab (w : World) : Calls Tryd.prog 9 #[.int .u64 14695981039346656037, .string ⟨#[97, 98]⟩] w fun E w' => E = .returned (.int .u64 (abn : Int)) ∧ w = w' := join_c bas [97, 98] w (by decide) (by decide)
theorem pis_one {w : World} {g : Nat} {a b : Nat} (ha : a < 256) (hb : b < 256) (h : Cells w g 37 #[.int .u8 (a : Int), .int .u8 (b : Int)]) : Pis w (some ⟨g, 0, none⟩) [(a, b)] := fun k hk => by
  obtain rfl : k = 0 := by simp at hk; omega
  exact ⟨ha, hb, g, 0, rfl, h.cell 0, h.cell 1⟩
theorem ch_ab (w : World) (g : Nat) (h : Cells w g 37 #[.int .u8 97, .int .u8 98]) : Calls Tryd.prog 15 #[.slice (some ⟨g, 0, none⟩) 1 1] w fun E w' => E = .returned (.int .u64 (abn : Int)) ∧ Below w.heap.size w w' :=
  chain_c [(97, 98)] (some ⟨g, 0, none⟩) 1 w (pis_one (by decide) (by decide) h) (by decide)
def ofn (n : Nat) : Nat := djn bas (sput (start n))
theorem of_start (n : Nat) (w : World) (hn : n < 18446744073709551616) (ht : Tab w) : Calls Tryd.prog 11 #[sv (start n) none 0] w fun E w' => E = .returned (.int .u64 (ofn n : Int)) ∧ Below w.heap.size w w' :=
  of_c (start n) none 0 w (shs_nil _ _) (fit_start hn) ht
theorem put_start (n : Nat) (w : World) (hn : n < 18446744073709551616) (ht : Tab w) : Calls Tryd.prog 18 #[sv (start n) none 0] w fun E w' => E = .returned (.string (str (sput (start n)))) ∧ Below w.heap.size w w' :=
  (put_c (start n) none 0 w (shs_nil _ _) (fit_start hn) ht).mono fun E w' h => ⟨h.1, below_of_grown h.2⟩
theorem start_b (n : Nat) (w : World) : Calls Tryd.prog 17 #[.int .u64 (n : Int)] w fun E w' => E = .returned (sv (start n) none 0) ∧ Below w.heap.size w w' :=
  (start_c n w).mono fun E w' h => ⟨h.1, below_of_grown h.2⟩
theorem ofn_ne : ofn 1 ≠ ofn 2 := by decide +kernel
set_option maxHeartbeats 4000000 in
theorem law_known (w : World) (ht : Tab w) : Calls Tryd.prog 7 #[] w fun E w' => E = .returned (.bool true) ∧ Below w.heap.size w w' := by
  have HT := Lib.hid ht
  have hne : ((ofn 1 : Nat) : Int) ≠ ((ofn 2 : Nat) : Int) := by have := ofn_ne; omega
  have HJ := Lib.hid (fun W => join_c bas (sput (start 1)) W (by decide) (sput_max _))
  have HO1 := Lib.hid (fun W => of_start 1 W (by decide))
  have HO2 := Lib.hid (fun W => of_start 2 W (by decide))
  have HS1 := Lib.hid (fun W => start_b 1 W)
  have HS2 := Lib.hid (fun W => start_b 2 W)
  have HP1 := Lib.hid (fun W => put_start 1 W (by decide))
  have HN := Lib.hid hne
  have HAB := Lib.hid ch_ab
  have HJAB := Lib.hid jn_ab
  obtain ⟨xa, hxa⟩ : ∃ x, x = abn := ⟨_, rfl⟩
  rw [← hxa] at HAB HJAB
  clear hne ht hxa
  obtain ⟨x1, hx1⟩ : ∃ x, x = ofn 1 := ⟨_, rfl⟩
  obtain ⟨x2, hx2⟩ : ∃ x, x = ofn 2 := ⟨_, rfl⟩
  obtain ⟨v1, hv1⟩ : ∃ x, x = sv (start 1) none 0 := ⟨_, rfl⟩
  obtain ⟨v2, hv2⟩ : ∃ x, x = sv (start 2) none 0 := ⟨_, rfl⟩
  have he : djn bas (sput (start 1)) = ofn 1 := rfl
  rw [he] at HJ
  rw [← hx1] at HJ HO1 HN
  rw [← hx2] at HO2 HN
  rw [← hv1] at HO1 HS1 HP1
  rw [← hv2] at HO2 HS2
  clear he hx1 hx2 hv1 hv2
  generalize str (sput (start 1)) = ps at *
  have hne : ((x1 : Int) != (x2 : Int)) = true := bne_iff_ne.2 HN.out
  go_enter Tryd.func7, Tryd.ntmps7
  go_wp2_with fail
  refine (works_c _ HT.out).mono ?_
  rintro E w1 ⟨rfl, hb1⟩
  have HB1 := Lib.hid hb1
  clear hb1
  go_wp2_with fail
  refine (ch_nil _).mono ?_
  rintro E w2 ⟨rfl, hb2⟩
  have HB2 := Lib.hid (HB1.out.trans (hb2.mono HB1.out.size))
  clear hb2 HB1
  go_wp2_with fail
  refine (mx_00 _).mono ?_
  rintro E w3 ⟨rfl, hb3⟩
  have HB3 := Lib.hid (HB2.out.trans (hb3.mono HB2.out.size))
  clear hb3 HB2
  go_wp2_with fail
  refine (HAB.out _ _ (Cells.made w3 _ _)).mono ?_
  rintro E w4 ⟨rfl, hb4⟩
  have HB4 := Lib.hid ((HB3.out.alloc HB3.out.size (.cells #[.int .u8 97, .int .u8 98] 37)).trans (hb4.mono (by have := HB3.out.size; simp; omega)))
  clear hb4 HB3
  go_wp2_with fail
  refine (HJAB.out _).mono ?_
  rintro E w5 ⟨rfl, rfl⟩
  go_wp2_with fail
  refine (HS1.out _).mono ?_
  rintro E w5 ⟨rfl, hb5⟩
  have HB5 := Lib.hid (HB4.out.trans (hb5.mono HB4.out.size))
  clear hb5 HB4
  go_wp2_with fail
  refine (HO1.out _ (tab_lo HT.out HB5.out)).mono ?_
  rintro E w6 ⟨rfl, hb6⟩
  have HB6 := Lib.hid (HB5.out.trans (hb6.mono HB5.out.size))
  clear hb6 HB5
  go_wp2_with fail
  refine (HS2.out _).mono ?_
  rintro E w7 ⟨rfl, hb7⟩
  have HB7 := Lib.hid (HB6.out.trans (hb7.mono HB6.out.size))
  clear hb7 HB6
  go_wp2_with fail
  refine (HO2.out _ (tab_lo HT.out HB7.out)).mono ?_
  rintro E w8 ⟨rfl, hb8⟩
  have HB8 := Lib.hid (HB7.out.trans (hb8.mono HB7.out.size))
  clear hb8 HB7
  go_wp2_with fail
  refine (HS1.out _).mono ?_
  rintro E w9 ⟨rfl, hb9⟩
  have HB9 := Lib.hid (HB8.out.trans (hb9.mono HB8.out.size))
  clear hb9 HB8
  go_wp2_with fail
  refine (HO1.out _ (tab_lo HT.out HB9.out)).mono ?_
  rintro E w10 ⟨rfl, hb10⟩
  have HB10 := Lib.hid (HB9.out.trans (hb10.mono HB9.out.size))
  clear hb10 HB9
  go_wp2_with fail
  refine (HS1.out _).mono ?_
  rintro E w11 ⟨rfl, hb11⟩
  have HB11 := Lib.hid (HB10.out.trans (hb11.mono HB10.out.size))
  clear hb11 HB10
  go_wp2_with fail
  refine (HP1.out _ (tab_lo HT.out HB11.out)).mono ?_
  rintro E w12 ⟨rfl, hb12⟩
  have HB12 := Lib.hid (HB11.out.trans (hb12.mono HB11.out.size))
  clear hb12 HB11
  go_wp2_with fail
  refine (HJ.out _).mono ?_
  rintro E w13 ⟨rfl, rfl⟩
  go_wp2_with fail
  refine (works_c _ (tab_lo HT.out HB12.out)).mono ?_
  rintro E w14 ⟨rfl, hb14⟩
  have HB14 := Lib.hid (HB12.out.trans (hb14.mono HB12.out.size))
  clear hb14 HB12
  go_wp2
  go_ret
  exact ⟨rfl, HB14.out⟩
end Go.Proofs.YtobfoenilfpiiaaDoor
