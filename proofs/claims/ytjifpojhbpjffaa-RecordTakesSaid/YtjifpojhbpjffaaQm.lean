/- The document's Put and Take, whole; the statements' own helpers: one contract each. Conditions: as in the texts before. -/
import Derived.Test.YtjifpojhbpjffaaQk
import Derived.Test.YtjifpojhbpjffaaQl
namespace Go.Proofs.Ytjifpojhbpjffaa
open Go.RowKit
set_option linter.unusedVariables false
set_option linter.unusedSimpArgs false
set_option maxRecDepth 20000

attribute [local go_sem ↓] ld_dec
theorem dput_no (r : Rc) (w : World) (hf : r.fit) (hm : mayB r = false) :
    Calls Try.prog 8 #[.agg (rcs r)] w fun E w' => E = .returned (.tuple #[.string (str []), .int .i64 4]) ∧ Below w.heap.size w w' := by
  have H0 := Lib.hid (Loc.one w 33 (rcs r))
  have HM := fun w => may_c r w hf
  rw [hm] at HM
  go_enter Try.func8, Try.ntmps8
  go_upto_region 1 with fail
  generalize w.alloc (.cells (rcs r) 33) = wa at *
  have la := H0.out.ldA ty_dec 0 rfl 0 (vs := rcs r) rfl (Nat.le_of_ble_eq_true rfl)
  go_wp2_with fail
  refine (HM wa).mono ?_
  rintro E w1 ⟨rfl, hb1⟩
  have H1 := Lib.hid (H0.out.to hb1)
  clear la H0 hb1 HM
  go_wp2
  go_ret2
  exact ⟨rfl, H1.out.be⟩
theorem dput_c (r : Rc) (w : World) (hf : r.fit) :
    Calls Try.prog 8 #[.agg (rcs r)] w fun E w' => E = .returned (.tuple #[.string (str (pA r)), .int .i64 (pE r)]) ∧ Below w.heap.size w w' := by
  cases hm : mayB r
  · rw [show pA r = [] from if_neg (by simp [hm]), show pE r = 4 from if_neg (by simp [hm])]
    exact dput_no r w hf hm
  · rw [show pA r = encR r from if_pos hm, show pE r = 0 from if_pos hm]
    obtain ⟨k, f, o, p, q, s, i, e, y⟩ := r
    have h := hm
    unfold mayB at h
    rw [Bool.and_eq_true] at h
    obtain ⟨-, h⟩ := h
    simp only at h
    by_cases h1 : k = 1
    · subst h1
      simp only [if_true, decide_eq_true_eq] at h
      obtain ⟨rfl, rfl, rfl, rfl, rfl, rfl⟩ := h
      exact dput1 f o w hf hm
    · by_cases h2 : k = 2
      · subst h2
        rw [if_neg (by decide), if_pos rfl] at h
        simp only [decide_eq_true_eq] at h
        obtain ⟨rfl, rfl, rfl, rfl, rfl⟩ := h
        exact dput2 f p q w hf hm
      · by_cases h3 : k = 3
        · subst h3
          rw [if_neg (by decide), if_neg (by decide), if_pos rfl] at h
          simp only [decide_eq_true_eq] at h
          obtain ⟨rfl, rfl, rfl, rfl⟩ := h
          exact dput3 s i e y w hf hm
        · rw [if_neg h1, if_neg h2, if_neg h3] at h
          cases h
theorem dtake_c (l : List UInt8) (w : World) (hl : l.length ≤ 1099511627776) :
    Calls Try.prog 11 #[.string (str l)] w fun E w' => E = .returned (.tuple #[.agg (rcs (tkR l).2), .int .i64 (tkR l).1]) ∧ Below w.heap.size w w' := by
  rw [tkR_dT]
  by_cases h0 : l = []
  · rw [show dT l = (10, rz) from if_pos h0]
    exact dtake_empty l w hl h0
  have hp : 0 < l.length := List.length_pos_iff.2 h0
  by_cases hk : fld l 0 1 < 1 ∨ 3 < fld l 0 1
  · rw [show dT l = (4, rz) by unfold dT; rw [if_neg h0, if_pos hk]]
    exact dtake_none l w hl hp hk
  by_cases hk1 : fld l 0 1 = 1
  · have ed : dT l = if l.length < 10 then (10, rz) else if 10 < l.length then (4, rz) else if mayB (atR l) = true then (0, atR l) else (4, rz) := by
      unfold dT
      rw [if_neg h0, if_neg hk, hk1]
      rfl
    rw [ed]
    by_cases hs : l.length < 10
    · rw [if_pos hs]
      exact dtake_short1 l w hl hp hk1 hs
    · rw [if_neg hs]
      by_cases hg : 10 < l.length
      · rw [if_pos hg]
        exact dtake_long1 l w hl hp hk1 hg
      · rw [if_neg hg, show atR l = ⟨1, fld l 1 8, fld l 9 1, 0, 0, 0, 0, 0, 0⟩ from by unfold atR; rw [if_pos hk1]]
        refine dtake_full1 l w hp hk1 (by omega) _ (fun hm w' hb => ?_) (fun hm w' hb => ?_)
        · rw [if_pos hm]; exact ⟨rfl, hb⟩
        · rw [if_neg (by simp [hm])]; exact ⟨rfl, hb⟩
  by_cases hk2 : fld l 0 1 = 2
  · have ed : dT l = if l.length < 11 then (10, rz) else if 11 < l.length then (4, rz) else if mayB (atR l) = true then (0, atR l) else (4, rz) := by
      unfold dT
      rw [if_neg h0, if_neg hk, hk2]
      rfl
    rw [ed]
    by_cases hs : l.length < 11
    · rw [if_pos hs]
      exact dtake_short2 l w hl hp hk2 hs
    · rw [if_neg hs]
      by_cases hg : 11 < l.length
      · rw [if_pos hg]
        exact dtake_long2 l w hl hp hk2 hg
      · rw [if_neg hg, show atR l = ⟨2, fld l 1 8, 0, fld l 9 1, fld l 10 1, 0, 0, 0, 0⟩ from by unfold atR; rw [hk2]; rfl]
        refine dtake_full2 l w hp hk2 (by omega) _ (fun hm w' hb => ?_) (fun hm w' hb => ?_)
        · rw [if_pos hm]; exact ⟨rfl, hb⟩
        · rw [if_neg (by simp [hm])]; exact ⟨rfl, hb⟩
  by_cases hk3 : fld l 0 1 = 3
  · have ed : dT l = if l.length < 26 then (10, rz) else if 26 < l.length then (4, rz) else if mayB (atR l) = true then (0, atR l) else (4, rz) := by
      unfold dT
      rw [if_neg h0, if_neg hk, hk3]
      rfl
    rw [ed]
    by_cases hs : l.length < 26
    · rw [if_pos hs]
      exact dtake_short3 l w hl hp hk3 hs
    · rw [if_neg hs]
      by_cases hg : 26 < l.length
      · rw [if_pos hg]
        exact dtake_long3 l w hl hp hk3 hg
      · rw [if_neg hg, show atR l = ⟨3, 0, 0, 0, 0, fld l 1 8, fld l 9 8, fld l 17 8, fld l 25 1⟩ from by unfold atR; rw [hk3]; rfl]
        refine dtake_full3 l w hp hk3 (by omega) _ (fun hm w' hb => ?_) (fun hm w' hb => ?_)
        · rw [if_pos hm]; exact ⟨rfl, hb⟩
        · rw [if_neg (by simp [hm])]; exact ⟨rfl, hb⟩
  omega
/-! The statements' own helpers. -/
attribute [local go_sem ↓] ld_rec st_rec
theorem re_zero (a : Rc) (w : World) : (binOp .eql 27 (.agg (rcs a)) (.agg #[.int .i64 0, .int .u64 0, .int .u8 0, .int .u8 0, .int .u8 0, .int .u64 0, .int .u64 0, .int .u64 0, .int .u8 0])).run Try.prog w = .ok (.bool (reB a rz)) w := re_eql a rz _ (.inl rfl) w
theorem puts_yes (r : Rc) (l : List UInt8) (w : World) (hf : r.fit) (hm : mayB r = true) (he : encR r = l) :
    Calls Try.prog 13 #[.agg (rcs r), .string (str l)] w fun E w' => E = .returned (.bool true) ∧ Below w.heap.size w w' := by
  have H0 := Loc.one w 27 (rcs r)
  have HP := fun w => put_c r w hf
  rw [show pA r = l from (if_pos hm).trans he, show pE r = 0 from if_pos hm] at HP
  have HP := Lib.hid HP
  have hss : ((str l).toList == (str l).toList) = true := beq_self_eq_true _
  clear hm he
  go_enter Try.func13, Try.ntmps13
  go_upto_region 1 with fail
  generalize w.alloc (.cells (rcs r) 27) = wa at *
  have la := H0.ldA ty_rec 0 rfl 0 (vs := rcs r) rfl (Nat.le_of_ble_eq_true rfl)
  have H0 := Lib.hid H0
  go_wp2_with fail
  refine (HP.out wa).mono ?_
  rintro E w1 ⟨rfl, hb1⟩
  have H1 := Lib.hid (H0.out.to hb1)
  clear la H0 hb1 HP
  go_wp2
  go_ret
  exact ⟨rfl, H1.out.be⟩
theorem none_yes (r : Rc) (w : World) (hf : r.fit) (hm : mayB r = false) :
    Calls Try.prog 14 #[.agg (rcs r)] w fun E w' => E = .returned (.bool true) ∧ Below w.heap.size w w' := by
  have H0 := Loc.one w 27 (rcs r)
  have HP := fun w => put_c r w hf
  rw [show pA r = [] from if_neg (by simp [hm]), show pE r = 4 from if_neg (by simp [hm])] at HP
  have HP := Lib.hid HP
  have hemp : (str ([] : List UInt8)).toList.isEmpty = true := by rw [ByteArray.toList_eq, str_data]; rfl
  clear hm
  go_enter Try.func14, Try.ntmps14
  go_upto_region 1 with fail
  generalize w.alloc (.cells (rcs r) 27) = wa at *
  have la := H0.ldA ty_rec 0 rfl 0 (vs := rcs r) rfl (Nat.le_of_ble_eq_true rfl)
  have H0 := Lib.hid H0
  go_wp2_with fail
  refine (HP.out wa).mono ?_
  rintro E w1 ⟨rfl, hb1⟩
  have H1 := Lib.hid (H0.out.to hb1)
  clear la H0 hb1 HP
  go_wp2
  go_ret
  exact ⟨rfl, H1.out.be⟩
theorem fails_yes (l : List UInt8) (e : Int) (w : World) (hl : l.length ≤ 1099511627776) (h : tkR l = (e, rz)) :
    Calls Try.prog 12 #[.string (str l), .int .i64 e] w fun E w' => E = .returned (.bool true) ∧ Below w.heap.size w w' := by
  have HP := fun w => take_c' l w hl
  rw [h] at HP
  have HP := Lib.hid HP
  have hz := re_zero rz
  rw [reB_self] at hz
  have hee : (e == e) = true := beq_self_eq_true _
  clear h
  go_enter Try.func12, Try.ntmps12
  go_wp2_with fail
  refine (HP.out w).mono ?_
  rintro E w1 ⟨rfl, hb1⟩
  have H0 : Loc w.heap.size w w1 [] := (Loc.nil (Nat.le_refl _)).to hb1
  obtain ⟨g5, w3, z3, s3, H3, q3⟩ := H0.newA ty_rec #[.int .i64 0, .int .u64 0, .int .u8 0, .int .u8 0, .int .u8 0, .int .u64 0, .int .u64 0, .int .u64 0, .int .u8 0] (rcs rz) rfl rfl rfl
  replace H3 : Loc w.heap.size w w3 [(g5, 27, rcs rz)] := H3
  have lb := H3.ldA ty_rec 0 rfl 0 (vs := rcs rz) rfl (Nat.le_of_ble_eq_true rfl)
  have HB := Lib.hid H3.be
  clear q3 H0 hb1 H3 HP
  go_wp2
  go_ret
  exact ⟨rfl, HB.out⟩
theorem aw_1 (w : World) : Calls Try.prog 13 #[.agg #[.int .i64 1, .int .u64 258, .int .u8 5, .int .u8 0, .int .u8 0, .int .u64 0, .int .u64 0, .int .u64 0, .int .u8 0], .string ⟨#[1, 2, 1, 0, 0, 0, 0, 0, 0, 5]⟩] w fun E w' => E = .returned (.bool true) ∧ Below w.heap.size w w' :=
  puts_yes ⟨1, 258, 5, 0, 0, 0, 0, 0, 0⟩ [1, 2, 1, 0, 0, 0, 0, 0, 0, 5] w (mk_fit (by decide) (by decide) (by decide) (by decide) (by decide) (by decide) (by decide) (by decide) (by decide)) (by decide +kernel) (by decide +kernel)
theorem aw_2 (w : World) : Calls Try.prog 14 #[.agg #[.int .i64 4, .int .u64 0, .int .u8 0, .int .u8 0, .int .u8 0, .int .u64 0, .int .u64 0, .int .u64 0, .int .u8 0]] w fun E w' => E = .returned (.bool true) ∧ Below w.heap.size w w' :=
  none_yes ⟨4, 0, 0, 0, 0, 0, 0, 0, 0⟩ w ⟨by decide, by decide, by decide, by decide, by decide, by decide, by decide, by decide, by decide, by decide⟩ (by decide +kernel)
theorem aw_3 (w : World) : Calls Try.prog 12 #[.string ⟨#[]⟩, .int .i64 10] w fun E w' => E = .returned (.bool true) ∧ Below w.heap.size w w' :=
  fails_yes [] 10 w (by decide) (by rw [tkR_dT]; rfl)
theorem awake_c (w : World) : Calls Try.prog 9 #[] w fun E w' => E = .returned (.bool true) ∧ Below w.heap.size w w' := by
  go_enter Try.func9, Try.ntmps9
  go_wp2_with fail
  refine (aw_1 w).mono ?_
  rintro E w1 ⟨rfl, hb1⟩
  have HB1 := Lib.hid hb1
  clear hb1
  go_wp2_with fail
  refine (aw_2 w1).mono ?_
  rintro E w2 ⟨rfl, hb2⟩
  have HB2 := Lib.hid (HB1.out.trans (hb2.mono HB1.out.size))
  clear hb2
  go_wp2_with fail
  refine (aw_3 w2).mono ?_
  rintro E w3 ⟨rfl, hb3⟩
  have HB3 := Lib.hid (HB2.out.trans (hb3.mono HB2.out.size))
  clear hb3
  go_wp2
  go_ret
  exact ⟨rfl, HB3.out⟩
end Go.Proofs.Ytjifpojhbpjffaa
