/- What sixteen digits are, what a text names: both sides'. One contract each. -/
import Derived.Test.YtggeakngmlhjpaaNb
namespace Go.Proofs.Ytggeakngmlhjpaa
open Go.RowKit
set_option linter.unusedVariables false
set_option linter.unusedSimpArgs false
set_option maxRecDepth 20000

theorem hx_step {l : List UInt8} {k : Nat} (h : k < l.length) : hx (l.take (k + 1)) = (hx (l.take k) && decide (0 ≤ udg (l[k]'h))) := by
  unfold hx
  rw [List.take_succ_eq_append_getElem h, List.all_append]
  simp
theorem hx_no {l : List UInt8} {k : Nat} (h : k < l.length) (hn : udg (l[k]'h) < 0) : hx l = false := by
  unfold hx
  rw [List.all_eq_false]
  exact ⟨_, List.getElem_mem h, by simp; omega⟩
theorem vl_step {l : List UInt8} {k : Nat} (h : k < l.length) : vl (l.take (k + 1)) 0 = 16 * vl (l.take k) 0 + (udg (l[k]'h)).toNat := by
  rw [List.take_succ_eq_append_getElem h, vl_append]
  rfl
theorem vl_small {l : List UInt8} {k : Nat} (hk : k ≤ l.length) (h : k ≤ 15) : vl (l.take k) 0 < 1152921504606846976 := by
  have h1 := vl_lt (l.take k) 0 0 (by decide)
  rw [List.length_take, Nat.min_eq_left hk, Nat.zero_add] at h1
  exact Nat.lt_of_lt_of_le h1 (Nat.pow_le_pow_right (by decide) h)
theorem rdd_len {l : List UInt8} (h : l.length ≠ 16) : rdd l = (0, false) := by rw [rdd, if_neg (fun e => h e.1)]
theorem rdd_no {l : List UInt8} (h : hx l = false) : rdd l = (0, false) := by rw [rdd, if_neg (fun e => by rw [h] at e; exact Bool.false_ne_true e.2)]
theorem rdd_yes {l : List UInt8} (hl : l.length = 16) (h : hx l = true) : rdd l = (vl l 0, true) := by rw [rdd, if_pos ⟨hl, h⟩]
theorem or_says (n d : Nat) (hn : n < 1152921504606846976) (hd : d < 16) : bits .or .u64 (IntKind.u64.wrap ((n : Int) * 16)) (d : Int) = ((16 * n + d : Nat) : Int) := by
  have h1 : IntKind.u64.wrap ((n : Int) * 16) = ((n * 16 : Nat) : Int) := by
    have e : ((n : Int) * 16) = ((n * 16 : Nat) : Int) := by omega
    rw [e]
    simp [IntKind.wrap, IntKind.signed, IntKind.bits]
    omega
  rw [h1, u64_or_nat (n * 16) d (by omega) (by omega)]
  congr 1
  have := Nat.shiftLeft_add_eq_or_of_lt (i := 4) (b := d) (by simpa using hd) n
  rw [Nat.shiftLeft_eq] at this
  rw [show n * 16 = n * 2 ^ 4 from rfl, ← this]
  omega
theorem read_c (l : List UInt8) (w : World) (hl : l.length ≤ 9223372036854775807) :
    Calls Try.prog 27 #[.string (str l)] w fun e w' => e = .returned (.tuple #[.int .u64 ((rdd l).1 : Nat), .bool (rdd l).2]) ∧ w = w' := by
  have hs := str_size l
  by_cases h16 : l.length = 16
  · have HR := Lib.hid (fun h => rdd_yes (l := l) h16 h)
    have HN := Lib.hid (fun h => rdd_no (l := l) h)
    obtain ⟨r, hr⟩ : ∃ r, r = rdd l := ⟨_, rfl⟩
    have HRR := Lib.hid hr
    rw [← hr]
    clear hr
    go_enter Try.func27, Try.ntmps27
    go_wp2
    go_loop [2, 9] (fun v i => ∃ k : Nat, k ≤ 16 ∧ i = .int .i64 k ∧ v = .int .u64 ((vl (l.take k) 0 : Nat) : Int) ∧ hx (l.take k) = true) (fun _ i => 16 - (intOf i).toNat)
    case atStart => exact ⟨0, Nat.zero_le _, rfl, rfl, rfl⟩
    case round =>
      obtain ⟨k, hk, rfl, rfl, hok⟩ := hrel
      have HOK := Lib.hid hok
      clear hok
      by_cases hlt : k < 16
      · have hlt' : k < l.length := by omega
        have hg : ∀ h, (str l)[k]'h = l[k]'hlt' := fun h => rfl
        have hc := digits_c (l[k]'hlt') w
        have HX := Lib.hid (hx_step hlt')
        have HXN := Lib.hid (fun h => hx_no hlt' h)
        have HV := Lib.hid (vl_step hlt')
        have hsm := vl_small (l := l) (k := k) (by omega) (by omega)
        have hu := udg_range (l[k]'hlt')
        generalize vl (l.take k) 0 = n at *
        obtain ⟨u, HU⟩ : ∃ u, u = udg (l[k]'hlt') := ⟨_, rfl⟩
        rw [← HU] at hc HX HXN HV hu
        clear HU
        by_cases hneg : u < 0
        · have HQ := Lib.hid (HN.out (HXN.out hneg))
          clear hsm hu
          go_wp2_with fail
          refine hc.mono ?_
          rintro E w1 ⟨rfl, rfl⟩
          go_wp2
          go_ret2
          exact ⟨by rw [HRR.out, HQ.out]; rfl, rfl⟩
        · obtain ⟨d, rfl⟩ : ∃ d : Nat, u = (d : Int) := ⟨u.toNat, by omega⟩
          have HW1 := Lib.hid (or_says n d hsm (by omega))
          have hd : d < 16 := by omega
          have HOK2 : Hid (hx (l.take (k + 1)) = true) := by show _ = _; rw [HX.out, HOK.out]; simp
          have HV2 : Hid (vl (l.take (k + 1)) 0 = 16 * n + d) := by show _ = _; rw [HV.out]; rfl
          clear hsm hu
          go_wp2_with fail
          refine hc.mono ?_
          rintro E w1 ⟨rfl, rfl⟩
          go_wp2
          go_round
          case rel => exact ⟨k + 1, by omega, by go_num, by rw [HV2.out]; exact congrArg _ HW1.out, HOK2.out⟩
          case measure => simp [intOf]; omega
      · obtain rfl : k = 16 := by omega
        have HQ := Lib.hid (HR.out (by have := HOK.out; rwa [← h16, List.take_length] at this))
        have HV : Hid (vl (l.take 16) 0 = vl l 0) := by show _ = _; rw [← h16, List.take_length]
        generalize vl (l.take 16) 0 = n at *
        go_wp2
        go_ret2
        exact ⟨by rw [HRR.out, HQ.out, HV.out]; rfl, rfl⟩
  · have hq := rdd_len h16
    rw [hq]
    clear hq
    go_enter Try.func27, Try.ntmps27
    go_wp2
    go_ret2
    exact ⟨rfl, rfl⟩
theorem numbered_c (k : Int) (l : List UInt8) (w : World) (hl : l.length ≤ 9223372036854775807) :
    Calls Try.prog 24 #[.int .i64 k, .string (str l)] w fun e w' => e = .returned (.tuple (if (rdd l).2 then #[.int .i64 k, .int .u64 ((rdd l).1 : Nat), .bool true] else #[.int .i64 0, .int .u64 0, .bool false])) ∧ w = w' := by
  have hc := read_c l w hl
  generalize rdd l = r at *
  obtain ⟨n, b⟩ := r
  cases b
  · go_enter Try.func24, Try.ntmps24
    go_wp2_with fail
    refine hc.mono ?_
    rintro E w1 ⟨rfl, rfl⟩
    go_wp2
    go_ret3
    exact ⟨rfl, rfl⟩
  · go_enter Try.func24, Try.ntmps24
    go_wp2_with fail
    refine hc.mono ?_
    rintro E w1 ⟨rfl, rfl⟩
    go_wp2
    go_ret3
    exact ⟨rfl, rfl⟩
theorem numbered_i (k : Nat) (l : List UInt8) (w : World) (hl : l.length ≤ 9223372036854775807) :
    Calls Try.prog 24 #[.int .i64 (k : Int), .string (str l)] w fun e w' => e = .returned (.tuple #[.int .i64 ((nmb k l).1 : Nat), .int .u64 ((nmb k l).2.1 : Nat), .bool (nmb k l).2.2]) ∧ w = w' := by
  refine (numbered_c k l w hl).mono ?_
  rintro E w' ⟨rfl, rfl⟩
  refine ⟨?_, rfl⟩
  unfold nmb
  cases (rdd l).2 <;> rfl
theorem pre_cons (b c : UInt8) (l : List UInt8) : [c].isPrefixOf (b :: l) = decide (b = c) := by
  simp only [List.isPrefixOf, Bool.and_true]
  by_cases h : b = c
  · subst h; simp
  · rw [decide_eq_false h]
    exact beq_eq_false_iff_ne.2 fun e => h e.symm
theorem cut_yes (c : UInt8) (l : List UInt8) : offP (c :: l) [c] = l := by
  unfold offP
  rw [pre_cons]; simp
theorem str_is {l m : List UInt8} (h : l = m) : ((str l).toList == m) = true := by rw [str_tl, h]; exact beq_self_eq_true _
theorem str_not {l m : List UInt8} (h : ¬ l = m) : ((str l).toList == m) = false := by rw [str_tl]; exact beq_eq_false_iff_ne.2 h
/-- What a name that is no fresh one's is, by the program. -/
theorem lasting_c (l : List UInt8) (w : World) (hl : l.length ≤ 9223372036854775807) :
    Calls Try.prog 20 #[.string (str l)] w fun e w' => e = .returned (.tuple #[.int .i64 ((lst l).1 : Nat), .int .u64 ((lst l).2.1 : Nat), .bool (lst l).2.2]) ∧ w = w' := by
  by_cases hm : l = mani
  · have ht : ((str l).toList == [109, 97, 110, 105, 102, 101, 115, 116]) = true := str_is hm
    have hr : lst l = (3, 0, true) := by rw [hm]; exact lst_mani
    rw [hr]
    clear hr hm
    go_enter Try.func20, Try.ntmps20
    go_wp2_with fail
    go_ret3
    exact ⟨rfl, rfl⟩
  · have ht : ((str l).toList == [109, 97, 110, 105, 102, 101, 115, 116]) = false := str_not hm
    have hc1 := cutPref_c l [115] w
    have hc2 := cutPref_c l [99] w
    have hno : ([115].isPrefixOf l = false ∧ [99].isPrefixOf l = false ∧ lst l = (0, 0, false)) ∨ (∃ r, l = 115 :: r ∧ lst l = nmb 1 r) ∨ (∃ r, l = 99 :: r ∧ lst l = nmb 2 r) := by
      cases l with
      | nil => exact .inl ⟨rfl, rfl, rfl⟩
      | cons c r =>
        by_cases h1 : c = 115
        · refine .inr (.inl ⟨r, by rw [h1], ?_⟩)
          rw [lst, if_neg hm, if_pos h1]
        · by_cases h2 : c = 99
          · refine .inr (.inr ⟨r, by rw [h2], ?_⟩)
            rw [lst, if_neg hm, if_neg h1, if_pos h2]
          · refine .inl ⟨by rw [pre_cons]; simp [h1], by rw [pre_cons]; simp [h2], ?_⟩
            rw [lst, if_neg hm, if_neg h1, if_neg h2]
    clear hm
    rcases hno with ⟨e1, e2, e3⟩ | ⟨r, rfl, e3⟩ | ⟨r, rfl, e3⟩
    · rw [e1] at hc1
      rw [e2] at hc2
      rw [e3]
      clear e1 e2 e3
      go_enter Try.func20, Try.ntmps20
      go_wp2_with fail
      refine hc1.mono ?_
      rintro E w1 ⟨rfl, rfl⟩
      go_wp2_with fail
      refine hc2.mono ?_
      rintro E w1 ⟨rfl, rfl⟩
      go_wp2_with fail
      go_ret3
      exact ⟨rfl, rfl⟩
    · rw [pre_cons, cut_yes, decide_eq_true rfl] at hc1
      have hn := numbered_i 1 r w (by simp only [List.length_cons] at hl; omega)
      rw [e3]
      generalize nmb 1 r = x at *
      clear e3 hc2
      go_enter Try.func20, Try.ntmps20
      go_wp2_with fail
      refine hc1.mono ?_
      rintro E w1 ⟨rfl, rfl⟩
      go_wp2_with fail
      refine hn.mono ?_
      rintro E w1 ⟨rfl, rfl⟩
      go_wp2_with fail
      go_ret3
      exact ⟨rfl, rfl⟩
    · rw [pre_cons, decide_eq_false (by decide)] at hc1
      rw [pre_cons, cut_yes, decide_eq_true rfl] at hc2
      have hn := numbered_i 2 r w (by simp only [List.length_cons] at hl; omega)
      rw [e3]
      generalize nmb 2 r = x at *
      clear e3
      go_enter Try.func20, Try.ntmps20
      go_wp2_with fail
      refine hc1.mono ?_
      rintro E w1 ⟨rfl, rfl⟩
      go_wp2_with fail
      refine hc2.mono ?_
      rintro E w1 ⟨rfl, rfl⟩
      go_wp2_with fail
      refine hn.mono ?_
      rintro E w1 ⟨rfl, rfl⟩
      go_wp2_with fail
      go_ret3
      exact ⟨rfl, rfl⟩
theorem bse_len (l : List UInt8) : (bse l).length ≤ l.length := by
  unfold bse offS
  split
  · rw [List.length_take]; omega
  · exact Nat.le_refl _
/-- What a text names, as a result. -/
def prv (l : List UInt8) : Value := .tuple #[.int .i64 ((prs l).1 : Nat), .int .u64 ((prs l).2.1 : Nat), .bool (prs l).2.2.1, .bool (prs l).2.2.2]
theorem parse_c (l : List UInt8) (w : World) (hl : l.length ≤ 9223372036854775807) :
    Calls Try.prog 13 #[.string (str l)] w fun e w' => e = .returned (.tuple #[.int .i64 ((prs l).1 : Nat), .int .u64 ((prs l).2.1 : Nat), .bool (prs l).2.2.1, .bool (prs l).2.2.2]) ∧ w = w' := by
  have hc := cutSuff_c l nw w hl
  have hp := lasting_c (bse l) w (Nat.le_trans (bse_len l) hl)
  rw [show offS l nw = bse l from rfl, show nw.isSuffixOf l = isNw l from rfl] at hc
  unfold prs
  generalize lst (bse l) = x at *
  generalize bse l = m at *
  obtain ⟨k, n, ok⟩ := x
  generalize isNw l = f at *
  cases f
  · go_enter Try.func13, Try.ntmps13
    go_wp2_with fail
    refine hc.mono ?_
    rintro E w1 ⟨rfl, rfl⟩
    go_wp2_with fail
    refine hp.mono ?_
    rintro E w1 ⟨rfl, rfl⟩
    go_wp2_with fail
    refine bodyPost_ret (v := .tuple #[.int .i64 (k : Int), .int .u64 (n : Int), .bool false, .bool ok]) (by simp [results, Try.results13, go_sem]) rfl ?_
    exact ⟨rfl, rfl⟩
  · go_enter Try.func13, Try.ntmps13
    go_wp2_with fail
    refine hc.mono ?_
    rintro E w1 ⟨rfl, rfl⟩
    go_wp2_with fail
    refine hp.mono ?_
    rintro E w1 ⟨rfl, rfl⟩
    go_wp2_with fail
    refine bodyPost_ret (v := .tuple #[.int .i64 (k : Int), .int .u64 (n : Int), .bool ok, .bool ok]) (by simp [results, Try.results13, go_sem]) rfl ?_
    exact ⟨rfl, rfl⟩
end Go.Proofs.Ytggeakngmlhjpaa
