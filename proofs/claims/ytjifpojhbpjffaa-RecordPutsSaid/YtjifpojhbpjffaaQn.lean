/- The statements' own walks. Conditions: records' numbers lie in their kinds' ranges. -/
import Derived.Test.YtjifpojhbpjffaaQm
namespace Go.Proofs.Ytjifpojhbpjffaa
open Go.RowKit
set_option linter.unusedVariables false
set_option linter.unusedSimpArgs false
set_option maxRecDepth 20000

theorem str_tl (l : List UInt8) : (str l).toList = l := by rw [ByteArray.toList_eq, str_data]
/-! How a beginning of a text is told: by a cut as long as what is asked for. -/
theorem pre_cut (l p : List UInt8) (h : p.length ≤ l.length) : (((str l).extract 0 p.length).toList == (str p).toList) = p.isPrefixOf l := by
  rw [str_cut, str_tl, str_tl, Bool.eq_iff_iff, beq_iff_eq, List.isPrefixOf_iff_prefix, List.prefix_iff_eq_take]
  exact eq_comm
theorem pre_short {l p : List UInt8} (h : l.length < p.length) : p.isPrefixOf l = false := by
  cases e : p.isPrefixOf l with
  | false => rfl
  | true => have := (List.isPrefixOf_iff_prefix.1 e).length_le; omega
theorem hasPref_c (l p : List UInt8) (w : World) :
    Calls Try.prog 26 #[.string (str l), .string (str p)] w fun e w' => e = .returned (.bool (p.isPrefixOf l)) ∧ w = w' := by
  have hl := str_size l
  have hp := str_size p
  rcases Nat.lt_or_ge l.length p.length with h | h
  · rw [pre_short h]
    go_enter Try.func26, Try.ntmps26
    go_wp2_with fail
    go_ret
    exact ⟨ret_b (by simp), rfl⟩
  · have he := pre_cut l p h
    generalize p.isPrefixOf l = r at *
    go_enter Try.func26, Try.ntmps26
    go_wp2_with fail
    go_ret
    exact ⟨rfl, rfl⟩
theorem hasPrefix_c (l p : List UInt8) (w : World) :
    Calls Try.prog 15 #[.string (str l), .string (str p)] w fun e w' => e = .returned (.bool (p.isPrefixOf l)) ∧ w = w' := by
  go_enter Try.func15, Try.ntmps15
  go_wp2_with fail
  refine (hasPref_c l p w).mono ?_
  rintro E w' ⟨rfl, rfl⟩
  go_wp2
  go_ret
  exact ⟨rfl, rfl⟩
attribute [local go_sem ↓] ld_rec st_rec ld_dec st_dec
theorem law_puts (r : Rc) (w : World) (hf : r.fit) :
    Calls Try.prog 3 #[.agg (rcs r)] w fun E w' => E = .returned (.bool true) ∧ Below w.heap.size w w' := by
  have H0 := Loc.one w 27 (rcs r)
  have HP := Lib.hid (fun w => put_c r w hf)
  have HD := Lib.hid (fun w => dput_c r w hf)
  generalize pA r = A at *
  generalize pE r = C at *
  have hss : ((str A).toList == (str A).toList) = true := beq_self_eq_true _
  have hcc : (C == C) = true := beq_self_eq_true _
  clear hf
  go_enter Try.func3, Try.ntmps3
  go_upto_region 1 with fail
  generalize w.alloc (.cells (rcs r) 27) = wa at *
  have la := H0.ldA ty_rec 0 rfl 0 (vs := rcs r) rfl (Nat.le_of_ble_eq_true rfl)
  have H0 := Lib.hid H0
  go_wp2_with fail
  refine (HP.out wa).mono ?_
  rintro E w1 ⟨rfl, hb1⟩
  have H1 := H0.out.to hb1
  have lb := H1.ldA ty_rec 0 rfl 0 (vs := rcs r) rfl (Nat.le_of_ble_eq_true rfl)
  have H1 := Lib.hid H1
  clear la H0 hb1
  go_wp2_with fail
  refine (HD.out w1).mono ?_
  rintro E w2 ⟨rfl, hb2⟩
  have H2 := Lib.hid (H1.out.to hb2)
  clear lb hb2
  go_wp2_with fail
  refine (awake_c w2).mono ?_
  rintro E w3 ⟨rfl, hb3⟩
  have H3 := Lib.hid (H2.out.to hb3)
  clear hb3
  go_wp2
  go_ret
  exact ⟨rfl, H3.out.be⟩
theorem law_takes (l : List UInt8) (w : World) (hl : l.length ≤ 9223372036854775807) :
    Calls Try.prog 4 #[.string (str l)] w fun E w' => E = .returned (.bool true) ∧ Below w.heap.size w w' := by
  have hs := str_size l
  by_cases hg : 3000 < l.length
  · have hg2 : (3000 : Int) < (l.length : Int) := by omega
    go_enter Try.func4, Try.ntmps4
    go_wp2_with fail
    refine (awake_c w).mono ?_
    rintro E w3 ⟨rfl, hb3⟩
    go_wp2
    go_ret
    exact ⟨rfl, hb3⟩
  · have HP := Lib.hid (fun w => take_c' l w (by omega))
    have HD := Lib.hid (fun w => dtake_c l w (by omega))
    have hg2 : ¬ (3000 : Int) < (l.length : Int) := by omega
    generalize tkR l = T at *
    obtain ⟨e, V⟩ := T
    dsimp only at HP HD
    have hv := re_eql V V _ (.inr rfl)
    rw [reB_self] at hv
    have hee : (e == e) = true := beq_self_eq_true _
    go_enter Try.func4, Try.ntmps4
    go_wp2_with fail
    refine (HP.out w).mono ?_
    rintro E w1 ⟨rfl, hb1⟩
    have H0 : Loc w.heap.size w w1 [] := (Loc.nil (Nat.le_refl _)).to hb1
    obtain ⟨g3, w3, z3, s3, H3, q3⟩ := H0.newA ty_rec #[.int .i64 0, .int .u64 0, .int .u8 0, .int .u8 0, .int .u8 0, .int .u64 0, .int .u64 0, .int .u64 0, .int .u8 0] (rcs V) rfl rfl rfl
    replace H3 : Loc w.heap.size w w3 [(g3, 27, rcs V)] := H3
    have H3 := Lib.hid H3
    clear H0 hb1 q3
    go_wp2_with fail
    clear s3 z3
    refine (HD.out w3).mono ?_
    rintro E w4 ⟨rfl, hb4⟩
    have H4 := H3.out.to hb4
    obtain ⟨g5, w5, z5, s5, H5, q5⟩ := H4.newA ty_dec #[.int .i64 0, .int .u64 0, .int .u8 0, .int .u8 0, .int .u8 0, .int .u64 0, .int .u64 0, .int .u64 0, .int .u8 0] (rcs V) rfl rfl rfl
    replace H5 : Loc w.heap.size w w5 [(g3, 27, rcs V), (g5, 33, rcs V)] := H5
    have la := H5.ldA ty_rec 0 rfl 0 (vs := rcs V) rfl (Nat.le_of_ble_eq_true rfl)
    have lb := H5.ldA ty_dec 1 rfl 0 (vs := rcs V) rfl (Nat.le_of_ble_eq_true rfl)
    have H5 := Lib.hid H5
    clear H4 H3 hb4 q5
    go_wp2_with fail
    clear s5 z5 la lb
    refine (awake_c w5).mono ?_
    rintro E w6 ⟨rfl, hb6⟩
    have H6 := Lib.hid (H5.out.to hb6)
    clear hb6
    go_wp2
    go_ret
    exact ⟨rfl, H6.out.be⟩
end Go.Proofs.Ytjifpojhbpjffaa
