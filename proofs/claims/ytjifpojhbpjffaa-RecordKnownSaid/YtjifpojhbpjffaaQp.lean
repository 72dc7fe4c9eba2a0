/- The statement of what comes back, its own walk. Conditions: records' numbers lie in their kinds' ranges, the text is of 3000 bytes at most. -/
import Derived.Test.YtjifpojhbpjffaaQn
namespace Go.Proofs.Ytjifpojhbpjffaa
open Go.RowKit
set_option linter.unusedVariables false
set_option linter.unusedSimpArgs false
set_option maxRecDepth 20000

attribute [local go_sem ↓] ld_rec st_rec
set_option maxHeartbeats 1000000 in
theorem law_back0 (a b : Rc) (l : List UInt8) (w : World) (ha : a.fit) (hb : b.fit) (hl : ¬ 3000 < l.length) (hm : mayB a = false) :
    Calls Try.prog 6 #[.agg (rcs a), .agg (rcs b), .string (str l)] w fun E w' => E = .returned (.bool true) ∧ Below w.heap.size w w' := by
  have hs := str_size l
  have hg2 : ¬ (3000 : Int) < (l.length : Int) := by omega
  have HPA := fun w => put_c a w ha
  have HPB := fun w => put_c b w hb
  have HT := fun w => take_c' l w (by omega)
  have HG0 := fun h : (tkR l).1 = 0 => (show pA (tkR l).2 = l ∧ pE (tkR l).2 = 0 ∧ (tkR l).2.fit from ⟨(if_pos (tkR_one h).1).trans (tkR_one h).2, if_pos (tkR_one h).1, tkR_fit l⟩)
  have HG1 := fun h : (tkR l).1 ≠ 0 => tkR_bad h
  have hss : ((str l).toList == (str l).toList) = true := beq_self_eq_true _
  generalize tkR l = T at *
  obtain ⟨g, V⟩ := T
  dsimp only at HT HG0 HG1
  have HT := Lib.hid HT
  have HG0 := Lib.hid HG0
  have HG1 := Lib.hid HG1
  have hemp : (str ([] : List UInt8)).toList.isEmpty = true := by rw [ByteArray.toList_eq, str_data]; rfl
  rw [show pA a = [] from if_neg (by simp [hm]), show pE a = 4 from if_neg (by simp [hm])] at HPA
  generalize pA b = B at *
  generalize pE b = C at *
  have HPA := Lib.hid HPA
  have HPB := Lib.hid HPB
  clear hm
  have H0 := Loc.two w 27 27 (rcs a) (rcs b)
  go_enter Try.func6, Try.ntmps6
  go_upto_region 1 with fail
  generalize (w.alloc (.cells (rcs a) 27)).alloc (.cells (rcs b) 27) = wa at *
  have la := H0.ldA ty_rec 0 rfl 0 (vs := rcs a) rfl (Nat.le_of_ble_eq_true rfl)
  have H0 := Lib.hid H0
  go_wp2_with fail
  clear la
  refine (HPA.out wa).mono ?_
  rintro E w1 ⟨rfl, hb1⟩
  have H1 := H0.out.to hb1
  have lb := H1.ldA ty_rec 1 rfl 0 (vs := rcs b) rfl (Nat.le_of_ble_eq_true rfl)
  have H1 := Lib.hid H1
  clear H0 hb1
  go_wp2_with fail
  clear lb
  refine (HPB.out w1).mono ?_
  rintro E w2 ⟨rfl, hb2⟩
  have H2 := Lib.hid (H1.out.to hb2)
  clear H1 hb2
  go_wp2_with fail
  refine (HT.out w2).mono ?_
  rintro E w6 ⟨rfl, hb6⟩
  have H6 := H2.out.to hb6
  obtain ⟨g7, w7, z7, s7, H7, q7⟩ := H6.newA ty_rec #[.int .i64 0, .int .u64 0, .int .u8 0, .int .u8 0, .int .u8 0, .int .u64 0, .int .u64 0, .int .u64 0, .int .u8 0] (rcs V) rfl rfl rfl
  replace H7 : Loc w.heap.size w w7 [(w.heap.size, 27, rcs a), (w.heap.size + 1, 27, rcs b), (g7, 27, rcs V)] := H7
  have lv := H7.ldA ty_rec 2 rfl 0 (vs := rcs V) rfl (Nat.le_of_ble_eq_true rfl)
  have H7 := Lib.hid H7
  clear hb6 H6 q7
  by_cases hg : g = 0
  · subst hg
    obtain ⟨e1, e2, e3⟩ := HG0.out rfl
    have HPV := fun w => put_c V w e3
    rw [e1, e2] at HPV
    have HPV := Lib.hid HPV
    clear e1 e2 e3
    go_wp2_with fail
    clear s7 z7 lv
    refine (HPV.out w7).mono ?_
    rintro E w8 ⟨rfl, hb8⟩
    have H8 := Lib.hid (H7.out.to hb8)
    clear hb8
    go_wp2_with fail
    refine (awake_c w8).mono ?_
    rintro E w9 ⟨rfl, hb9⟩
    have H9 := Lib.hid (H8.out.to hb9)
    clear hb9
    go_wp2
    go_ret
    exact ⟨rfl, H9.out.be⟩
  · obtain rfl := HG1.out hg
    have hg0 : (g == 0) = false := beq_eq_false_iff_ne.2 hg
    have hg1 : (g != 0) = true := by simp [hg]
    have hz := re_zero rz
    rw [reB_self] at hz
    clear hg
    go_wp2_with fail
    clear s7 z7 lv hz
    refine (awake_c w7).mono ?_
    rintro E w9 ⟨rfl, hb9⟩
    have H9 := Lib.hid (H7.out.to hb9)
    clear hb9
    go_wp2
    go_ret
    exact ⟨rfl, H9.out.be⟩
set_option maxHeartbeats 1000000 in
theorem law_back1 (a b : Rc) (l : List UInt8) (w : World) (ha : a.fit) (hb : b.fit) (hl : ¬ 3000 < l.length) (hm : mayB a = true) (hn : mayB b = false) :
    Calls Try.prog 6 #[.agg (rcs a), .agg (rcs b), .string (str l)] w fun E w' => E = .returned (.bool true) ∧ Below w.heap.size w w' := by
  have hs := str_size l
  have hg2 : ¬ (3000 : Int) < (l.length : Int) := by omega
  have HPA := fun w => put_c a w ha
  have HPB := fun w => put_c b w hb
  have HT := fun w => take_c' l w (by omega)
  have HG0 := fun h : (tkR l).1 = 0 => (show pA (tkR l).2 = l ∧ pE (tkR l).2 = 0 ∧ (tkR l).2.fit from ⟨(if_pos (tkR_one h).1).trans (tkR_one h).2, if_pos (tkR_one h).1, tkR_fit l⟩)
  have HG1 := fun h : (tkR l).1 ≠ 0 => tkR_bad h
  have hss : ((str l).toList == (str l).toList) = true := beq_self_eq_true _
  generalize tkR l = T at *
  obtain ⟨g, V⟩ := T
  dsimp only at HT HG0 HG1
  have HT := Lib.hid HT
  have HG0 := Lib.hid HG0
  have HG1 := Lib.hid HG1
  have HTA := fun w => take_c' (encR a) w (encR_le a)
  rw [tkR_enc ha hm] at HTA
  rw [show pA a = encR a from if_pos hm, show pE a = 0 from if_pos hm] at HPA
  have HTA := Lib.hid HTA
  have HPA := Lib.hid HPA
  rw [show pA b = [] from if_neg (by simp [hn]), show pE b = 4 from if_neg (by simp [hn])] at HPB
  have HPB := Lib.hid HPB
  generalize encR a = A at *
  clear hm hn
  have H0 := Loc.two w 27 27 (rcs a) (rcs b)
  go_enter Try.func6, Try.ntmps6
  go_upto_region 1 with fail
  generalize (w.alloc (.cells (rcs a) 27)).alloc (.cells (rcs b) 27) = wa at *
  have la := H0.ldA ty_rec 0 rfl 0 (vs := rcs a) rfl (Nat.le_of_ble_eq_true rfl)
  have H0 := Lib.hid H0
  go_wp2_with fail
  clear la
  refine (HPA.out wa).mono ?_
  rintro E w1 ⟨rfl, hb1⟩
  have H1 := H0.out.to hb1
  have lb := H1.ldA ty_rec 1 rfl 0 (vs := rcs b) rfl (Nat.le_of_ble_eq_true rfl)
  have H1 := Lib.hid H1
  clear H0 hb1
  go_wp2_with fail
  clear lb
  refine (HPB.out w1).mono ?_
  rintro E w2 ⟨rfl, hb2⟩
  have H2 := Lib.hid (H1.out.to hb2)
  clear H1 hb2
  go_wp2_with fail
  refine (HTA.out w2).mono ?_
  rintro E w3 ⟨rfl, hb3⟩
  have H3 := H2.out.to hb3
  obtain ⟨g5, w5, z5, s5, H5, q5⟩ := H3.newA ty_rec #[.int .i64 0, .int .u64 0, .int .u8 0, .int .u8 0, .int .u8 0, .int .u64 0, .int .u64 0, .int .u64 0, .int .u8 0] (rcs a) rfl rfl rfl
  replace H5 : Loc w.heap.size w w5 [(w.heap.size, 27, rcs a), (w.heap.size + 1, 27, rcs b), (g5, 27, rcs a)] := H5
  have l5 := H5.ldA ty_rec 2 rfl 0 (vs := rcs a) rfl (Nat.le_of_ble_eq_true rfl)
  have l3 := H5.ldA ty_rec 0 rfl 0 (vs := rcs a) rfl (Nat.le_of_ble_eq_true rfl)
  have l4 := H5.ldA ty_rec 1 rfl 0 (vs := rcs b) rfl (Nat.le_of_ble_eq_true rfl)
  have H5 := Lib.hid H5
  clear hb3 H3 H2 q5
  have hna := re_neq a a
  rw [reB_self] at hna
  go_wp2_with fail
  clear s5 z5 l5 l3 l4 hna
  refine (HT.out w5).mono ?_
  rintro E w6 ⟨rfl, hb6⟩
  have H6 := H5.out.to hb6
  obtain ⟨g7, w7, z7, s7, H7, q7⟩ := H6.newA ty_rec #[.int .i64 0, .int .u64 0, .int .u8 0, .int .u8 0, .int .u8 0, .int .u64 0, .int .u64 0, .int .u64 0, .int .u8 0] (rcs V) rfl rfl rfl
  replace H7 : Loc w.heap.size w w7 [(w.heap.size, 27, rcs a), (w.heap.size + 1, 27, rcs b), (g5, 27, rcs a), (g7, 27, rcs V)] := H7
  have lv := H7.ldA ty_rec 3 rfl 0 (vs := rcs V) rfl (Nat.le_of_ble_eq_true rfl)
  have H7 := Lib.hid H7
  clear hb6 H6 q7
  by_cases hg : g = 0
  · subst hg
    obtain ⟨e1, e2, e3⟩ := HG0.out rfl
    have HPV := fun w => put_c V w e3
    rw [e1, e2] at HPV
    have HPV := Lib.hid HPV
    clear e1 e2 e3
    go_wp2_with fail
    clear s7 z7 lv
    refine (HPV.out w7).mono ?_
    rintro E w8 ⟨rfl, hb8⟩
    have H8 := Lib.hid (H7.out.to hb8)
    clear hb8
    go_wp2_with fail
    refine (awake_c w8).mono ?_
    rintro E w9 ⟨rfl, hb9⟩
    have H9 := Lib.hid (H8.out.to hb9)
    clear hb9
    go_wp2
    go_ret
    exact ⟨rfl, H9.out.be⟩
  · obtain rfl := HG1.out hg
    have hg0 : (g == 0) = false := beq_eq_false_iff_ne.2 hg
    have hg1 : (g != 0) = true := by simp [hg]
    have hz := re_zero rz
    rw [reB_self] at hz
    clear hg
    go_wp2_with fail
    clear s7 z7 lv hz
    refine (awake_c w7).mono ?_
    rintro E w9 ⟨rfl, hb9⟩
    have H9 := Lib.hid (H7.out.to hb9)
    clear hb9
    go_wp2
    go_ret
    exact ⟨rfl, H9.out.be⟩
set_option maxHeartbeats 1000000 in
theorem law_back2 (a b : Rc) (l : List UInt8) (w : World) (ha : a.fit) (hb : b.fit) (hl : ¬ 3000 < l.length) (hm : mayB a = true) (hn : mayB b = true) :
    Calls Try.prog 6 #[.agg (rcs a), .agg (rcs b), .string (str l)] w fun E w' => E = .returned (.bool true) ∧ Below w.heap.size w w' := by
  have hs := str_size l
  have hg2 : ¬ (3000 : Int) < (l.length : Int) := by omega
  have HPA := fun w => put_c a w ha
  have HPB := fun w => put_c b w hb
  have HT := fun w => take_c' l w (by omega)
  have HG0 := fun h : (tkR l).1 = 0 => (show pA (tkR l).2 = l ∧ pE (tkR l).2 = 0 ∧ (tkR l).2.fit from ⟨(if_pos (tkR_one h).1).trans (tkR_one h).2, if_pos (tkR_one h).1, tkR_fit l⟩)
  have HG1 := fun h : (tkR l).1 ≠ 0 => tkR_bad h
  have hss : ((str l).toList == (str l).toList) = true := beq_self_eq_true _
  generalize tkR l = T at *
  obtain ⟨g, V⟩ := T
  dsimp only at HT HG0 HG1
  have HT := Lib.hid HT
  have HG0 := Lib.hid HG0
  have HG1 := Lib.hid HG1
  have HTA := fun w => take_c' (encR a) w (encR_le a)
  rw [tkR_enc ha hm] at HTA
  rw [show pA a = encR a from if_pos hm, show pE a = 0 from if_pos hm] at HPA
  have HTA := Lib.hid HTA
  have HPA := Lib.hid HPA
  rw [show pA b = encR b from if_pos hn, show pE b = 0 from if_pos hn] at HPB
  have HPB := Lib.hid HPB
  have HX := Lib.hid (fun w => hasPrefix_c (encR b) (encR a) w)
  have HPRE := Lib.hid (fun h => enc_pre ha hb hm hn h)
  generalize encR a = A at *
  generalize encR b = B at *
  generalize A.isPrefixOf B = X at *
  clear hm hn ha hb
  have H0 := Loc.two w 27 27 (rcs a) (rcs b)
  go_enter Try.func6, Try.ntmps6
  go_upto_region 1 with fail
  generalize (w.alloc (.cells (rcs a) 27)).alloc (.cells (rcs b) 27) = wa at *
  have la := H0.ldA ty_rec 0 rfl 0 (vs := rcs a) rfl (Nat.le_of_ble_eq_true rfl)
  have H0 := Lib.hid H0
  go_wp2_with fail
  clear la
  refine (HPA.out wa).mono ?_
  rintro E w1 ⟨rfl, hb1⟩
  have H1 := H0.out.to hb1
  have lb := H1.ldA ty_rec 1 rfl 0 (vs := rcs b) rfl (Nat.le_of_ble_eq_true rfl)
  have H1 := Lib.hid H1
  clear H0 hb1
  go_wp2_with fail
  clear lb
  refine (HPB.out w1).mono ?_
  rintro E w2 ⟨rfl, hb2⟩
  have H2 := Lib.hid (H1.out.to hb2)
  clear H1 hb2
  go_wp2_with fail
  refine (HTA.out w2).mono ?_
  rintro E w3 ⟨rfl, hb3⟩
  have H3 := H2.out.to hb3
  obtain ⟨g5, w5, z5, s5, H5, q5⟩ := H3.newA ty_rec #[.int .i64 0, .int .u64 0, .int .u8 0, .int .u8 0, .int .u8 0, .int .u64 0, .int .u64 0, .int .u64 0, .int .u8 0] (rcs a) rfl rfl rfl
  replace H5 : Loc w.heap.size w w5 [(w.heap.size, 27, rcs a), (w.heap.size + 1, 27, rcs b), (g5, 27, rcs a)] := H5
  have l5 := H5.ldA ty_rec 2 rfl 0 (vs := rcs a) rfl (Nat.le_of_ble_eq_true rfl)
  have l3 := H5.ldA ty_rec 0 rfl 0 (vs := rcs a) rfl (Nat.le_of_ble_eq_true rfl)
  have l4 := H5.ldA ty_rec 1 rfl 0 (vs := rcs b) rfl (Nat.le_of_ble_eq_true rfl)
  have H5 := Lib.hid H5
  clear hb3 H3 H2 q5
  have hna := re_neq a a
  rw [reB_self] at hna
  go_wp2_with fail
  refine (HX.out w5).mono ?_
  rintro E w' ⟨rfl, rfl⟩
  cases X
  · go_wp2_with fail
    clear s5 z5 l5 l3 l4 hna
    refine (HT.out w5).mono ?_
    rintro E w6 ⟨rfl, hb6⟩
    have H6 := H5.out.to hb6
    obtain ⟨g7, w7, z7, s7, H7, q7⟩ := H6.newA ty_rec #[.int .i64 0, .int .u64 0, .int .u8 0, .int .u8 0, .int .u8 0, .int .u64 0, .int .u64 0, .int .u64 0, .int .u8 0] (rcs V) rfl rfl rfl
    replace H7 : Loc w.heap.size w w7 [(w.heap.size, 27, rcs a), (w.heap.size + 1, 27, rcs b), (g5, 27, rcs a), (g7, 27, rcs V)] := H7
    have lv := H7.ldA ty_rec 3 rfl 0 (vs := rcs V) rfl (Nat.le_of_ble_eq_true rfl)
    have H7 := Lib.hid H7
    clear hb6 H6 q7
    by_cases hg : g = 0
    · subst hg
      obtain ⟨e1, e2, e3⟩ := HG0.out rfl
      have HPV := fun w => put_c V w e3
      rw [e1, e2] at HPV
      have HPV := Lib.hid HPV
      clear e1 e2 e3
      go_wp2_with fail
      clear s7 z7 lv
      refine (HPV.out w7).mono ?_
      rintro E w8 ⟨rfl, hb8⟩
      have H8 := Lib.hid (H7.out.to hb8)
      clear hb8
      go_wp2_with fail
      refine (awake_c w8).mono ?_
      rintro E w9 ⟨rfl, hb9⟩
      have H9 := Lib.hid (H8.out.to hb9)
      clear hb9
      go_wp2
      go_ret
      exact ⟨rfl, H9.out.be⟩
    · obtain rfl := HG1.out hg
      have hg0 : (g == 0) = false := beq_eq_false_iff_ne.2 hg
      have hg1 : (g != 0) = true := by simp [hg]
      have hz := re_zero rz
      rw [reB_self] at hz
      clear hg
      go_wp2_with fail
      clear s7 z7 lv hz
      refine (awake_c w7).mono ?_
      rintro E w9 ⟨rfl, hb9⟩
      have H9 := Lib.hid (H7.out.to hb9)
      clear hb9
      go_wp2
      go_ret
      exact ⟨rfl, H9.out.be⟩
  · obtain rfl := HPRE.out rfl
    go_wp2_with fail
    clear s5 z5 l5 l3 l4 hna
    refine (HT.out w5).mono ?_
    rintro E w6 ⟨rfl, hb6⟩
    have H6 := H5.out.to hb6
    obtain ⟨g7, w7, z7, s7, H7, q7⟩ := H6.newA ty_rec #[.int .i64 0, .int .u64 0, .int .u8 0, .int .u8 0, .int .u8 0, .int .u64 0, .int .u64 0, .int .u64 0, .int .u8 0] (rcs V) rfl rfl rfl
    replace H7 : Loc w.heap.size w w7 [(w.heap.size, 27, rcs a), (w.heap.size + 1, 27, rcs a), (g5, 27, rcs a), (g7, 27, rcs V)] := H7
    have lv := H7.ldA ty_rec 3 rfl 0 (vs := rcs V) rfl (Nat.le_of_ble_eq_true rfl)
    have H7 := Lib.hid H7
    clear hb6 H6 q7
    by_cases hg : g = 0
    · subst hg
      obtain ⟨e1, e2, e3⟩ := HG0.out rfl
      have HPV := fun w => put_c V w e3
      rw [e1, e2] at HPV
      have HPV := Lib.hid HPV
      clear e1 e2 e3
      go_wp2_with fail
      clear s7 z7 lv
      refine (HPV.out w7).mono ?_
      rintro E w8 ⟨rfl, hb8⟩
      have H8 := Lib.hid (H7.out.to hb8)
      clear hb8
      go_wp2_with fail
      refine (awake_c w8).mono ?_
      rintro E w9 ⟨rfl, hb9⟩
      have H9 := Lib.hid (H8.out.to hb9)
      clear hb9
      go_wp2
      go_ret
      exact ⟨rfl, H9.out.be⟩
    · obtain rfl := HG1.out hg
      have hg0 : (g == 0) = false := beq_eq_false_iff_ne.2 hg
      have hg1 : (g != 0) = true := by simp [hg]
      have hz := re_zero rz
      rw [reB_self] at hz
      clear hg
      go_wp2_with fail
      clear s7 z7 lv hz
      refine (awake_c w7).mono ?_
      rintro E w9 ⟨rfl, hb9⟩
      have H9 := Lib.hid (H7.out.to hb9)
      clear hb9
      go_wp2
      go_ret
      exact ⟨rfl, H9.out.be⟩
theorem law_back (a b : Rc) (l : List UInt8) (w : World) (ha : a.fit) (hb : b.fit) (hl : l.length ≤ 9223372036854775807) :
    Calls Try.prog 6 #[.agg (rcs a), .agg (rcs b), .string (str l)] w fun E w' => E = .returned (.bool true) ∧ Below w.heap.size w w' := by
  by_cases hg : 3000 < l.length
  · have hs := str_size l
    have hg2 : (3000 : Int) < (l.length : Int) := by omega
    have H0 := Loc.two w 27 27 (rcs a) (rcs b)
    go_enter Try.func6, Try.ntmps6
    go_upto_region 1 with fail
    generalize (w.alloc (.cells (rcs a) 27)).alloc (.cells (rcs b) 27) = wa at *
    have H0 := Lib.hid H0
    go_wp2_with fail
    refine (awake_c wa).mono ?_
    rintro E w3 ⟨rfl, hb3⟩
    have H3 := Lib.hid (H0.out.to hb3)
    clear hb3
    go_wp2
    go_ret
    exact ⟨rfl, H3.out.be⟩
  · cases hm : mayB a
    · exact law_back0 a b l w ha hb hg hm
    · cases hn : mayB b
      · exact law_back1 a b l w ha hb hg hm hn
      · exact law_back2 a b l w ha hb hg hm hn
end Go.Proofs.Ytjifpojhbpjffaa
