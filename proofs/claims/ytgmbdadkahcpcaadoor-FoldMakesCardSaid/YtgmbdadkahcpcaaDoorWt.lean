/- FoldKnown: the walk. -/
import Derived.Test.YtgmbdadkahcpcaaDoorWp
namespace Go.Proofs.YtgmbdadkahcpcaaDoor
open Go.RowKit
set_option linter.unusedVariables false
set_option linter.unusedSimpArgs false
set_option maxRecDepth 20000
theorem pslice_at {w : World} {g : Nat} {h : Hm} (hP : PH w g h) (k : h.ok) (x : Nat) (n : Int) (hn1 : -9223372036854775808 ≤ n) (hn2 : n < 9223372036854775808) {C : List (Nat × Nat)} (hc : h.cut x n = C) : Calls Tryd.prog 21 #[.pointer (some ⟨g, 0, none⟩), .int .u64 (x : Int), .int .i64 n] w fun E w' => ∃ ao cap, E = .returned (.slice ao C.length cap) ∧ Prr w.heap.size w' [] ao C.length cap C ∧ Below w.heap.size w w' := by
  rw [← hc]; exact pslice_c hP k x n hn1 hn2
theorem pdrop_at {w : World} {g : Nat} {h h' : Hm} (hP : PH w g h) (k : h.ok) (x : Nat) (hx : x < 18446744073709551616) (hh : (h.drop x).f = h'.f ∧ (h.drop x).m = h'.m ∧ (h.drop x).l = h'.l) : Calls Tryd.prog 22 #[.pointer (some ⟨g, 0, none⟩), .int .u64 (x : Int)] w fun E w' => E = .returned (.tuple #[]) ∧ PH w' g h' ∧ w.grownBy w' (some g) := by
  have e : h.drop x = h' := by
    obtain ⟨a, b, c⟩ := hh
    generalize h.drop x = y at *
    cases y; cases h'; simp_all
  rw [← e]; exact pdrop_c hP k x hx
abbrev hA3 : Hm := ⟨6, 2, [(3, 4)]⟩
abbrev hA4 : Hm := ⟨6, 2, [(3, 4), (5, 6)]⟩
abbrev hA5 : Hm := ⟨8, 2, []⟩
abbrev hL0 : Hm := ⟨18446744073709551614, 9, []⟩
abbrev hL1 : Hm := ⟨18446744073709551614, 9, [(0, 0)]⟩
theorem okA3 : hA3.ok := ⟨by decide, by decide, by decide, by decide, by decide⟩
theorem okA4 : hA4.ok := ⟨by decide, by decide, by decide, by decide, by decide⟩
theorem okA5 : hA5.ok := ⟨by decide, by decide, by decide, by decide, by decide⟩
theorem okL0 : hL0.ok := ⟨by decide, by decide, by decide, by decide, by decide⟩
theorem okL1 : hL1.ok := ⟨by decide, by decide, by decide, by decide, by decide⟩
attribute [local go_sem ↓] ld_pair st_pair pair_neq
set_option maxHeartbeats 8000000 in
theorem law_known (w : World) (hL : Laid w) : Calls Tryd.prog 5 #[] w fun E w' => E = .returned (.bool true) ∧ Below w.heap.size w w' := by
  have HL := Lib.hid hL
  clear hL
  go_enter Tryd.func5, Tryd.ntmps5
  have C6 : Hid (Calls Tryd.prog 13 #[.int .u64 5, .int .i64 2] w fun E w' => ∃ g, E = .returned (.pointer (some ⟨g, 0, none⟩)) ∧ w.heap.size = g ∧ g < w'.heap.size ∧ PH w' g hA0 ∧ Below w.heap.size w w') := pnew_c 5 2 w (by decide)
  go_wp2_with fail
  refine C6.out.mono ?_
  rintro E w1 ⟨g, rfl, hg2, hl3, hP4, hb5⟩
  clear C6
  have HGg : Hid (w.heap.size ≤ g) := by show _ ≤ _; omega
  have HP7 := Lib.hid hP4
  clear hP4 hg2 hl3
  have HB8 := Lib.hid hb5
  clear hb5
  have C10 : Hid (Calls Tryd.prog 16 #[.pointer (some ⟨g, 0, none⟩)] w1 fun E w' => E = .returned (.int .u64 5) ∧ w1 = w') := pfrom_c HP7.out
  go_wp2_with fail
  refine C10.out.mono ?_
  rintro E w9 ⟨rfl, rfl⟩
  clear C10
  have C12 : Hid (Calls Tryd.prog 17 #[.pointer (some ⟨g, 0, none⟩)] w1 fun E w' => E = .returned (.int .u64 5) ∧ w1 = w') := pcount_c HP7.out
  go_wp2_with fail
  refine C12.out.mono ?_
  rintro E w11 ⟨rfl, rfl⟩
  clear C12
  have C16 : Hid (Calls Tryd.prog 19 #[.pointer (some ⟨g, 0, none⟩), .agg #[.int .u8 64, .int .u8 0]] w1 fun E w' => E = .returned (.int .i64 2) ∧ PH w' g hA0 ∧ w1.grownBy w' (some g)) := padd_at HP7.out okA0 64 0 (by decide) (by decide) (e := 2) (by decide) rfl
  go_wp2_with fail
  refine C16.out.mono ?_
  rintro E w13 ⟨rfl, hP14, hg15⟩
  clear C16
  have HP17 := Lib.hid hP14
  clear hP14
  have HB18 := Lib.hid (below_row_at HB8.out hg15 HGg.out HB8.out.size)
  clear HB8
  clear HP7
  clear hg15
  have C22 : Hid (Calls Tryd.prog 19 #[.pointer (some ⟨g, 0, none⟩), .agg #[.int .u8 1, .int .u8 2]] w13 fun E w' => E = .returned (.int .i64 0) ∧ PH w' g hA1 ∧ w13.grownBy w' (some g)) := padd_at HP17.out okA0 1 2 (by decide) (by decide) (e := 0) (by decide) rfl
  go_wp2_with fail
  refine C22.out.mono ?_
  rintro E w19 ⟨rfl, hP20, hg21⟩
  clear C22
  have HP23 := Lib.hid hP20
  clear hP20
  have HB24 := Lib.hid (below_row_at HB18.out hg21 HGg.out HB18.out.size)
  clear HB18
  clear HP17
  clear hg21
  have C28 : Hid (Calls Tryd.prog 19 #[.pointer (some ⟨g, 0, none⟩), .agg #[.int .u8 3, .int .u8 4]] w19 fun E w' => E = .returned (.int .i64 0) ∧ PH w' g hA2 ∧ w19.grownBy w' (some g)) := padd_at HP23.out okA1 3 4 (by decide) (by decide) (e := 0) (by decide) rfl
  go_wp2_with fail
  refine C28.out.mono ?_
  rintro E w25 ⟨rfl, hP26, hg27⟩
  clear C28
  have HP29 := Lib.hid hP26
  clear hP26
  have HB30 := Lib.hid (below_row_at HB24.out hg27 HGg.out HB24.out.size)
  clear HB24
  clear HP23
  clear hg27
  have C33 : Hid (Calls Tryd.prog 20 #[.pointer (some ⟨g, 0, none⟩), .int .u64 7] w25 fun E w' => E = .returned (.tuple #[.agg #[.int .u8 0, .int .u8 0], .bool false]) ∧ Below w25.heap.size w25 w') := pat_at HP29.out okA2 7 (p := 0) (q := 0) (b := false) (by decide) (by decide)
  go_wp2_with fail
  refine C33.out.mono ?_
  rintro E w31 ⟨rfl, hb32⟩
  clear C33
  have HB34 := Lib.hid (HB30.out.trans (hb32.mono HB30.out.size))
  clear HB30
  have HP35 := Lib.hid (HP29.out.below hb32 HP29.out.lt)
  clear HP29
  clear hb32
  obtain ⟨g37, w38, z39, s40, H41, q42⟩ := (Loc.nil (Nat.le_refl w31.heap.size)).newA ty_pair PZ #[.int .u8 0, .int .u8 0] rfl rfl rfl
  clear H41
  have hb43 := below_of_grown q42
  clear q42
  have HB44 := Lib.hid (HB34.out.trans (hb43.mono HB34.out.size))
  clear HB34
  have HP45 := Lib.hid (HP35.out.below hb43 HP35.out.lt)
  clear HP35
  clear hb43
  have C51 : Hid (Calls Tryd.prog 21 #[.pointer (some ⟨g, 0, none⟩), .int .u64 5, .int .i64 9] w38 fun E w' => ∃ ao cap, E = .returned (.slice ao 2 cap) ∧ Prr w38.heap.size w' [] ao 2 cap [(1, 2), (3, 4)] ∧ Below w38.heap.size w38 w') := pslice_at HP45.out okA2 5 (9) (by decide) (by decide) (C := [(1, 2), (3, 4)]) (by decide)
  go_wp2_with fail
  refine C51.out.mono ?_
  rintro E w46 ⟨ao47, cap48, rfl, hR49, hb50⟩
  clear C51
  have HR52x : Hid (Prr w.heap.size w46 [g] ao47 2 cap48 [(1, 2), (3, 4)]) := (hR49.apart (bs' := [g]) (by intro b hb; simp only [List.mem_singleton] at hb; subst hb; exact HP45.out.lt) hb50.size).low HB44.out.size
  clear hR49
  have HB53 := Lib.hid (HB44.out.trans (hb50.mono HB44.out.size))
  clear HB44
  have HP54 := Lib.hid (HP45.out.below hb50 HP45.out.lt)
  clear HP45
  clear hb50
  clear s40 z39
  obtain ⟨b0, o0, i', j', rfl, hi', hj', hx'⟩ := (HR52x.out.pis (by decide)).at 0 (by decide)
  clear hx' hi' hj'
  have la : (ldT 47 (.pointer (some ⟨b0, o0, none⟩))).run Tryd.prog w46 = .ok (.agg #[.int .u8 1, .int .u8 2]) w46 := pis_ld (HR52x.out.pis (by decide)) (Below.refl _ _) 0 (by decide) (i := 1) (j := 2) rfl
  have lb : (ldT 47 (.pointer (some ⟨b0, o0 + 2, none⟩))).run Tryd.prog w46 = .ok (.agg #[.int .u8 3, .int .u8 4]) w46 := pis_ld (HR52x.out.pis (by decide)) (Below.refl _ _) 1 (by decide) (i := 3) (j := 4) rfl
  go_upto_region 8 with fail
  clear la lb
  clear HR52x
  have C58 : Hid (Calls Tryd.prog 22 #[.pointer (some ⟨g, 0, none⟩), .int .u64 6] w46 fun E w' => E = .returned (.tuple #[]) ∧ PH w' g hA3 ∧ w46.grownBy w' (some g)) := pdrop_at HP54.out okA2 6 (by decide) (h' := hA3) (by decide)
  go_wp2_with fail
  refine C58.out.mono ?_
  rintro E w55 ⟨rfl, hP56, hg57⟩
  clear C58
  have HP59 := Lib.hid hP56
  clear hP56
  have HB60 := Lib.hid (below_row_at HB53.out hg57 HGg.out HB53.out.size)
  clear HB53
  clear HP54
  clear hg57
  have C66 : Hid (Calls Tryd.prog 21 #[.pointer (some ⟨g, 0, none⟩), .int .u64 6, .int .i64 1] w55 fun E w' => ∃ ao cap, E = .returned (.slice ao 1 cap) ∧ Prr w55.heap.size w' [] ao 1 cap [(3, 4)] ∧ Below w55.heap.size w55 w') := pslice_at HP59.out okA3 6 (1) (by decide) (by decide) (C := [(3, 4)]) (by decide)
  go_wp2_with fail
  refine C66.out.mono ?_
  rintro E w61 ⟨ao62, cap63, rfl, hR64, hb65⟩
  clear C66
  have HR67x : Hid (Prr w.heap.size w61 [g] ao62 1 cap63 [(3, 4)]) := (hR64.apart (bs' := [g]) (by intro b hb; simp only [List.mem_singleton] at hb; subst hb; exact HP59.out.lt) hb65.size).low HB60.out.size
  clear hR64
  have HB68 := Lib.hid (HB60.out.trans (hb65.mono HB60.out.size))
  clear HB60
  have HP69 := Lib.hid (HP59.out.below hb65 HP59.out.lt)
  clear HP59
  clear hb65
  have C71 : Hid (Calls Tryd.prog 16 #[.pointer (some ⟨g, 0, none⟩)] w61 fun E w' => E = .returned (.int .u64 6) ∧ w61 = w') := pfrom_c HP69.out
  go_wp2_with fail
  refine C71.out.mono ?_
  rintro E w70 ⟨rfl, rfl⟩
  clear C71
  have C75 : Hid (Calls Tryd.prog 19 #[.pointer (some ⟨g, 0, none⟩), .agg #[.int .u8 5, .int .u8 6]] w61 fun E w' => E = .returned (.int .i64 0) ∧ PH w' g hA4 ∧ w61.grownBy w' (some g)) := padd_at HP69.out okA3 5 6 (by decide) (by decide) (e := 0) (by decide) rfl
  go_wp2_with fail
  refine C75.out.mono ?_
  rintro E w72 ⟨rfl, hP73, hg74⟩
  clear C75
  have HP76 := Lib.hid hP73
  clear hP73
  have HB77 := Lib.hid (below_row_at HB68.out hg74 HGg.out HB68.out.size)
  clear HB68
  have HR78 := Lib.hid (HR67x.out.turn (by simp) hg74)
  clear HR67x
  clear HP69
  clear hg74
  obtain ⟨b1, o1, i', j', rfl, hi', hj', hx'⟩ := (HR78.out.pis (by decide)).at 0 (by decide)
  clear hx' hi' hj'
  have lm : (ldT 47 (.pointer (some ⟨b1, o1, none⟩))).run Tryd.prog w72 = .ok (.agg #[.int .u8 3, .int .u8 4]) w72 := pis_ld (HR78.out.pis (by decide)) (Below.refl _ _) 0 (by decide) (i := 3) (j := 4) rfl
  have C84 : Hid (Calls Tryd.prog 21 #[.pointer (some ⟨g, 0, none⟩), .int .u64 5, .int .i64 1] w72 fun E w' => ∃ ao cap, E = .returned (.slice ao 0 cap) ∧ Prr w72.heap.size w' [] ao 0 cap [] ∧ Below w72.heap.size w72 w') := pslice_at HP76.out okA4 5 (1) (by decide) (by decide) (C := []) (by decide)
  go_wp2_with fail
  refine C84.out.mono ?_
  rintro E w79 ⟨ao80, cap81, rfl, hR82, hb83⟩
  clear C84
  clear hR82
  have HB85 := Lib.hid (HB77.out.trans (hb83.mono HB77.out.size))
  clear HB77
  have HP86 := Lib.hid (HP76.out.below hb83 HP76.out.lt)
  clear HP76
  have HR87 := Lib.hid (HR78.out.to hb83)
  clear HR78
  clear hb83
  clear lm
  clear HR87
  have C93 : Hid (Calls Tryd.prog 21 #[.pointer (some ⟨g, 0, none⟩), .int .u64 6, .int .i64 (-1)] w79 fun E w' => ∃ ao cap, E = .returned (.slice ao 0 cap) ∧ Prr w79.heap.size w' [] ao 0 cap [] ∧ Below w79.heap.size w79 w') := pslice_at HP86.out okA4 6 ((-1)) (by decide) (by decide) (C := []) (by decide)
  go_wp2_with fail
  refine C93.out.mono ?_
  rintro E w88 ⟨ao89, cap90, rfl, hR91, hb92⟩
  clear C93
  clear hR91
  have HB94 := Lib.hid (HB85.out.trans (hb92.mono HB85.out.size))
  clear HB85
  have HP95 := Lib.hid (HP86.out.below hb92 HP86.out.lt)
  clear HP86
  clear hb92
  have C99 : Hid (Calls Tryd.prog 22 #[.pointer (some ⟨g, 0, none⟩), .int .u64 99] w88 fun E w' => E = .returned (.tuple #[]) ∧ PH w' g hA5 ∧ w88.grownBy w' (some g)) := pdrop_at HP95.out okA4 99 (by decide) (h' := hA5) (by decide)
  go_wp2_with fail
  refine C99.out.mono ?_
  rintro E w96 ⟨rfl, hP97, hg98⟩
  clear C99
  have HP100 := Lib.hid hP97
  clear hP97
  have HB101 := Lib.hid (below_row_at HB94.out hg98 HGg.out HB94.out.size)
  clear HB94
  clear HP95
  clear hg98
  have C107 : Hid (Calls Tryd.prog 13 #[.int .u64 18446744073709551614, .int .i64 9] w96 fun E w' => ∃ g, E = .returned (.pointer (some ⟨g, 0, none⟩)) ∧ w96.heap.size = g ∧ g < w'.heap.size ∧ PH w' g hL0 ∧ Below w96.heap.size w96 w') := pnew_c 18446744073709551614 9 w96 (by decide)
  go_wp2_with fail
  refine C107.out.mono ?_
  rintro E w102 ⟨r, rfl, hg103, hl104, hP105, hb106⟩
  clear C107
  have HGr : Hid (w.heap.size ≤ r) := by show _ ≤ _; have := HB101.out.size; omega
  have HNgr : Hid (g ≠ r) := by show g ≠ r; have := HP100.out.lt; omega
  have HNrg : Hid (r ≠ g) := Ne.symm HNgr.out
  have HP108 := Lib.hid hP105
  clear hP105 hg103 hl104
  have HB109 := Lib.hid (HB101.out.trans (hb106.mono HB101.out.size))
  clear HB101
  have HP110 := Lib.hid (HP100.out.below hb106 HP100.out.lt)
  clear HP100
  clear hb106
  have C112 : Hid (Calls Tryd.prog 16 #[.pointer (some ⟨g, 0, none⟩)] w102 fun E w' => E = .returned (.int .u64 8) ∧ w102 = w') := pfrom_c HP110.out
  go_wp2_with fail
  refine C112.out.mono ?_
  rintro E w111 ⟨rfl, rfl⟩
  clear C112
  have C114 : Hid (Calls Tryd.prog 17 #[.pointer (some ⟨g, 0, none⟩)] w102 fun E w' => E = .returned (.int .u64 8) ∧ w102 = w') := pcount_c HP110.out
  go_wp2_with fail
  refine C114.out.mono ?_
  rintro E w113 ⟨rfl, rfl⟩
  clear C114
  clear HP110
  have C118 : Hid (Calls Tryd.prog 19 #[.pointer (some ⟨r, 0, none⟩), .agg #[.int .u8 0, .int .u8 0]] w102 fun E w' => E = .returned (.int .i64 0) ∧ PH w' r hL1 ∧ w102.grownBy w' (some r)) := padd_at HP108.out okL0 0 0 (by decide) (by decide) (e := 0) (by decide) rfl
  go_wp2_with fail
  refine C118.out.mono ?_
  rintro E w115 ⟨rfl, hP116, hg117⟩
  clear C118
  have HP119 := Lib.hid hP116
  clear hP116
  have HB120 := Lib.hid (below_row_at HB109.out hg117 HGr.out HB109.out.size)
  clear HB109
  clear HP108
  clear hg117
  have C124 : Hid (Calls Tryd.prog 19 #[.pointer (some ⟨r, 0, none⟩), .agg #[.int .u8 0, .int .u8 0]] w115 fun E w' => E = .returned (.int .i64 7) ∧ PH w' r hL1 ∧ w115.grownBy w' (some r)) := padd_at HP119.out okL1 0 0 (by decide) (by decide) (e := 7) (by decide) rfl
  go_wp2_with fail
  refine C124.out.mono ?_
  rintro E w121 ⟨rfl, hP122, hg123⟩
  clear C124
  have HP125 := Lib.hid hP122
  clear hP122
  have HB126 := Lib.hid (below_row_at HB120.out hg123 HGr.out HB120.out.size)
  clear HB120
  clear HP119
  clear hg123
  have C128 : Hid (Calls Tryd.prog 17 #[.pointer (some ⟨r, 0, none⟩)] w121 fun E w' => E = .returned (.int .u64 18446744073709551615) ∧ w121 = w') := pcount_c HP125.out
  go_wp2_with fail
  refine C128.out.mono ?_
  rintro E w127 ⟨rfl, rfl⟩
  clear C128
  clear HP125
  go_upto_region 18 with fail
  obtain ⟨z, hz⟩ : ∃ z, w121.heap.size = z := ⟨_, rfl⟩
  have HGz : Hid (w.heap.size ≤ z) := by show _ ≤ _; have := HB126.out.size; omega
  have hb129 := (Below.refl w121.heap.size w121).alloc (Nat.le_refl _) (.cells Tryd.zeroCells60 60)
  have HP131 : Hid (PHc (w121.alloc (.cells Tryd.zeroCells60 60)) z R0 0 0 0) := by rw [← hz]; exact made_zero ▸ Cells.made _ _ _
  rw [hz]
  clear hz
  generalize w121.alloc (.cells Tryd.zeroCells60 60) = w130 at *
  have HB132 := Lib.hid (HB126.out.trans (hb129.mono HB126.out.size))
  clear HB126
  clear hb129
  have C136 : Hid (Calls Tryd.prog 22 #[.pointer (some ⟨z, 0, none⟩), .int .u64 5] w130 fun E w' => E = .returned (.tuple #[]) ∧ PHc w' z R0 0 0 0 ∧ w130.grownBy w' (some z)) := drop_c R0_len HP131.out 5 (by decide) (by decide) (by decide)
  go_wp2_with fail
  refine C136.out.mono ?_
  rintro E w133 ⟨rfl, hP134, hg135⟩
  clear C136
  have HP137 := Lib.hid hP134
  clear hP134
  have HB138 := Lib.hid (below_row_at HB132.out hg135 HGz.out HB132.out.size)
  clear HB132
  clear HP131
  clear hg135
  have C140 : Hid (Calls Tryd.prog 22 #[.pointer none, .int .u64 5] w133 fun E w' => E = .returned (.tuple #[]) ∧ w133 = w') := dropNil_c 5 w133
  go_wp2_with fail
  refine C140.out.mono ?_
  rintro E w139 ⟨rfl, rfl⟩
  clear C140
  have C143 : Hid (Calls Tryd.prog 20 #[.pointer none, .int .u64 0] w133 fun E w' => E = .returned (.tuple #[.agg #[.int .u8 0, .int .u8 0], .bool false]) ∧ Below w133.heap.size w133 w') := atNil_c 0 w133
  go_wp2_with fail
  refine C143.out.mono ?_
  rintro E w141 ⟨rfl, hb142⟩
  clear C143
  have HB144 := Lib.hid (HB138.out.trans (hb142.mono HB138.out.size))
  clear HB138
  have HP145 := Lib.hid (HP137.out.below hb142 HP137.out.lt)
  clear HP137
  clear hb142
  obtain ⟨g147, w148, z149, s150, H151, q152⟩ := (Loc.nil (Nat.le_refl w141.heap.size)).newA ty_pair PZ #[.int .u8 0, .int .u8 0] rfl rfl rfl
  clear H151
  have hb153 := below_of_grown q152
  clear q152
  have HB154 := Lib.hid (HB144.out.trans (hb153.mono HB144.out.size))
  clear HB144
  have HP155 := Lib.hid (HP145.out.below hb153 HP145.out.lt)
  clear HP145
  clear hb153
  have C158 : Hid (Calls Tryd.prog 20 #[.pointer (some ⟨z, 0, none⟩), .int .u64 0] w148 fun E w' => E = .returned (.tuple #[.agg #[.int .u8 0, .int .u8 0], .bool false]) ∧ Below w148.heap.size w148 w') := atNo_c R0_len HP155.out 0 (by decide)
  go_wp2_with fail
  refine C158.out.mono ?_
  rintro E w156 ⟨rfl, hb157⟩
  clear C158
  have HB159 := Lib.hid (HB154.out.trans (hb157.mono HB154.out.size))
  clear HB154
  have HP160 := Lib.hid (HP155.out.below hb157 HP155.out.lt)
  clear HP155
  clear hb157
  obtain ⟨g162, w163, z164, s165, H166, q167⟩ := (Loc.nil (Nat.le_refl w156.heap.size)).newA ty_pair PZ #[.int .u8 0, .int .u8 0] rfl rfl rfl
  clear H166
  have hb168 := below_of_grown q167
  clear q167
  have HB169 := Lib.hid (HB159.out.trans (hb168.mono HB159.out.size))
  clear HB159
  have HP170 := Lib.hid (HP160.out.below hb168 HP160.out.lt)
  clear HP160
  clear hb168
  have C172 : Hid (Calls Tryd.prog 13 #[.int .u64 0, .int .i64 0] w163 fun E w' => E = .returned (.pointer none) ∧ w163 = w') := newNil_c 0 0 w163 (by decide)
  go_wp2_with fail
  refine C172.out.mono ?_
  rintro E w171 ⟨rfl, rfl⟩
  clear C172
  clear s165 z164 s150 z149
  have C174 : Hid (Calls Tryd.prog 13 #[.int .u64 0, .int .i64 257] w163 fun E w' => E = .returned (.pointer none) ∧ w163 = w') := newNil_c 0 257 w163 (by decide)
  go_wp2_with fail
  refine C174.out.mono ?_
  rintro E w173 ⟨rfl, rfl⟩
  clear C174
  have C177 : Hid (Calls Tryd.prog 19 #[.pointer none, .agg #[.int .u8 0, .int .u8 0]] w163 fun E w' => E = .returned (.int .i64 1) ∧ Below w163.heap.size w163 w') := addNil_c (p := 0) (q := 0) (by decide) (by decide)
  go_wp2_with fail
  refine C177.out.mono ?_
  rintro E w175 ⟨rfl, hb176⟩
  clear C177
  have HB178 := Lib.hid (HB169.out.trans (hb176.mono HB169.out.size))
  clear HB169
  have HP179 := Lib.hid (HP170.out.below hb176 HP170.out.lt)
  clear HP170
  clear hb176
  have C182 : Hid (Calls Tryd.prog 19 #[.pointer (some ⟨z, 0, none⟩), .agg #[.int .u8 0, .int .u8 0]] w175 fun E w' => E = .returned (.int .i64 1) ∧ Below w175.heap.size w175 w') := addNone_c (p := 0) (q := 0) R0_len HP179.out (by decide) (by decide)
  go_wp2_with fail
  refine C182.out.mono ?_
  rintro E w180 ⟨rfl, hb181⟩
  clear C182
  have HB183 := Lib.hid (HB178.out.trans (hb181.mono HB178.out.size))
  clear HB178
  have HP184 := Lib.hid (HP179.out.below hb181 HP179.out.lt)
  clear HP179
  clear hb181
  have C186 : Hid (Calls Tryd.prog 21 #[.pointer (some ⟨z, 0, none⟩), .int .u64 0, .int .i64 5] w180 fun E w' => E = .returned (.slice none 0 0) ∧ w180 = w') := sliceNo_c R0_len HP184.out 0 5 (by decide)
  go_wp2_with fail
  refine C186.out.mono ?_
  rintro E w185 ⟨rfl, rfl⟩
  clear C186
  have C188 : Hid (Calls Tryd.prog 17 #[.pointer none] w180 fun E w' => E = .returned (.int .u64 0) ∧ w180 = w') := countNil_c
  go_wp2_with fail
  refine C188.out.mono ?_
  rintro E w187 ⟨rfl, rfl⟩
  clear C188
  have C190 : Hid (Calls Tryd.prog 16 #[.pointer (some ⟨z, 0, none⟩)] w180 fun E w' => E = .returned (.int .u64 0) ∧ w180 = w') := from_c R0_len HP184.out
  go_wp2_with fail
  refine C190.out.mono ?_
  rintro E w189 ⟨rfl, rfl⟩
  clear C190
  have C193 : Hid (Calls Tryd.prog 8 #[] w180 fun E w' => E = .returned (.bool true) ∧ Below w180.heap.size w180 w') := awake_c w180 ⟨tab_below HL.out.t HB183.out HL.out.t.1, fac_below HL.out.f HB183.out HL.out.f.1⟩
  go_wp2_with fail
  refine C193.out.mono ?_
  rintro E w191 ⟨rfl, hb192⟩
  clear C193
  have HB194 := Lib.hid (HB183.out.trans (hb192.mono HB183.out.size))
  clear HB183
  have HP195 := Lib.hid (HP184.out.below hb192 HP184.out.lt)
  clear HP184
  clear hb192
  go_wp2
  go_ret
  exact ⟨rfl, HB194.out⟩
end Go.Proofs.YtgmbdadkahcpcaaDoor
