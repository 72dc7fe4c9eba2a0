/- May a record be, as the document says it: one contract. -/
import Derived.Test.YthnelnfefllhpaaDoorQi
namespace Go.Proofs.YthnelnfefllhpaaDoor
open Go.RowKit
set_option linter.unusedVariables false
set_option linter.unusedSimpArgs false
set_option maxRecDepth 20000

theorem ty_dec : TyA 33 9 := tya_struct Tryd.underlying33 (by kernel_rfl)
theorem ty_int : TyO 3 := tyo_of Tryd.underlying3 rfl (by kernel_rfl)
theorem ld_dec (v : Value) : Instr.loadAt 33 v = ldT 33 v := rfl
theorem st_dec (p v : Value) : Instr.storeAt 33 p v = stT 33 p v := rfl
theorem ld_int (v : Value) : Instr.loadAt 3 v = ldT 3 v := rfl
theorem st_pair (p v : Value) : Instr.storeAt 26 p v = stT 26 p v := rfl
theorem st_input (p v : Value) : Instr.storeAt 24 p v = stT 24 p v := rfl
theorem pair_eql (a b c d : Int) (w : World) : (binOp .eql 26 (.agg #[.int .u8 a, .int .u8 b]) (.agg #[.int .u8 c, .int .u8 d])).run Tryd.prog w = .ok (.bool ((a == c) && (b == d))) w := by
  rw [run_eql_struct]
  have h1 : (Tryd.prog.info? 24).map (·.size) = some 1 := by kernel_rfl
  obtain ⟨i, hi, hs⟩ := Option.map_eq_some_iff.1 h1
  rw [run_equalIn_array w 9999 _ _ Tryd.underlying26 hi, show Tryd.prog.cellsOf 24 = 1 by kernel_rfl]
  simp only [show List.range 2 = [0, 1] from rfl, Op.eqItems]
  cases h0 : (a == c) <;> cases h1 : (b == d) <;> simp [go_sem, h0, h1]
theorem ret_b {a b : Bool} (h : a = b) : Ending.returned (.bool a) = .returned (.bool b) := by rw [h]
theorem nz {n : Nat} (h : n ≠ 0) : ((n : Int) == 0) = false := by simp [h]
attribute [local go_sem ↓] ld_dec ld_int ld_input ld_u8 ld_u64 ld_pair st_pair pair_eql
set_option maxHeartbeats 1000000 in
theorem may_c (r : Rc) (w : World) (hf : r.fit) :
    Calls Tryd.prog 30 #[.agg (rcs r)] w fun E w' => E = .returned (.bool (mayB r)) ∧ Below w.heap.size w w' := by
  obtain ⟨M, hM⟩ : ∃ M, M = mayB r := ⟨_, rfl⟩
  rw [← hM]
  have HM := Lib.hid hM
  clear hM
  obtain ⟨k, f, o, p, q, s, i, e, y⟩ := r
  obtain ⟨k0, k1, hf, ho, hp, hq, hs, hi, he, hy⟩ := hf
  simp only at k0 k1 hf ho hp hq hs hi he hy
  have H0 := Loc.one w 33 (rcs ⟨k, f, o, p, q, s, i, e, y⟩)
  go_enter Tryd.func30, Tryd.ntmps30
  go_upto_region 1 with fail
  generalize w.alloc (.cells (rcs ⟨k, f, o, p, q, s, i, e, y⟩) 33) = wa at *
  have l2 := H0.ldO ty_input 0 rfl 2 (v := .int .u8 (o : Int)) rfl
  have l3 := H0.ldO ty_input 0 rfl 3 (v := .int .u8 (p : Int)) rfl
  have l4 := H0.ldO ty_input 0 rfl 4 (v := .int .u8 (q : Int)) rfl
  have l8 := H0.ldO ty_u8 0 rfl 8 (v := .int .u8 (y : Int)) rfl
  have HB := Lib.hid H0.be
  have H0 := Lib.hid H0
  by_cases b1 : 63 < o
  · go_wp2
    go_ret
    exact ⟨ret_b (by rw [HM.out]; simp [mayB, lowB]; omega), HB.out⟩
  by_cases b2 : 63 < p
  · go_wp2
    go_ret
    exact ⟨ret_b (by rw [HM.out]; simp [mayB, lowB]; omega), HB.out⟩
  by_cases b3 : 63 < q
  · go_wp2
    go_ret
    exact ⟨ret_b (by rw [HM.out]; simp [mayB, lowB]; omega), HB.out⟩
  by_cases b4 : 1 < y
  · go_wp2
    go_ret
    exact ⟨ret_b (by rw [HM.out]; simp [mayB, lowB]; omega), HB.out⟩
  have HL : Hid (lowB ⟨k, f, o, p, q, s, i, e, y⟩ = true) := by show _ = _; simp [lowB]; omega
  have HM2 : Hid (M = if k = 1 then decide (p = 0 ∧ q = 0 ∧ s = 0 ∧ i = 0 ∧ e = 0 ∧ y = 0) else if k = 2 then decide (o = 0 ∧ s = 0 ∧ i = 0 ∧ e = 0 ∧ y = 0) else if k = 3 then decide (f = 0 ∧ o = 0 ∧ p = 0 ∧ q = 0) else false) := by show _ = _; rw [HM.out]; unfold mayB; rw [HL.out]; rfl
  clear HM HL
  go_upto_region 3 with fail
  clear l2 l3 l4 l8 b1 b2 b3 b4
  obtain ⟨g3, w3, z3, s3, H3, q3⟩ := H0.out.newA ty_pair #[.int .u8 0, .int .u8 0] #[.int .u8 0, .int .u8 0] rfl rfl rfl
  replace H3 : Loc w.heap.size w w3 [(w.heap.size, 33, rcs ⟨k, f, o, p, q, s, i, e, y⟩), (g3, 26, #[.int .u8 0, .int .u8 0])] := H3
  have l0 := H3.ldO ty_int 0 rfl 0 (v := .int .i64 k) rfl
  have l1 := H3.ldO ty_u64 0 rfl 1 (v := .int .u64 (f : Int)) rfl
  have l2 := H3.ldO ty_input 0 rfl 2 (v := .int .u8 (o : Int)) rfl
  have l3 := H3.ldA ty_pair 0 rfl 3 (vs := #[.int .u8 (p : Int), .int .u8 (q : Int)]) rfl (Nat.le_of_ble_eq_true rfl)
  have l4 := H3.ldA ty_pair 1 rfl 0 (vs := #[.int .u8 0, .int .u8 0]) rfl (Nat.le_of_ble_eq_true rfl)
  have l5 := H3.ldO ty_u64 0 rfl 5 (v := .int .u64 (s : Int)) rfl
  have l6 := H3.ldO ty_u64 0 rfl 6 (v := .int .u64 (i : Int)) rfl
  have l7 := H3.ldO ty_u64 0 rfl 7 (v := .int .u64 (e : Int)) rfl
  have l8 := H3.ldO ty_u8 0 rfl 8 (v := .int .u8 (y : Int)) rfl
  have HB3 := Lib.hid H3.be
  clear q3 H3 H0 HB
  go_upto_region 5 with fail
  clear s3 z3
  by_cases c1 : k = 1
  · subst c1
    have HM3 : Hid (M = decide (p = 0 ∧ q = 0 ∧ s = 0 ∧ i = 0 ∧ e = 0 ∧ y = 0)) := by show _ = _; rw [HM2.out]; rfl
    clear HM2
    go_upto_region 6 with fail
    by_cases n_p : p ≠ 0
    · have n_p' := nz n_p
      go_wp2
      go_ret
      exact ⟨ret_b (by rw [HM3.out]; simp; omega), HB3.out⟩
    obtain rfl : p = 0 := by omega
    clear n_p
    by_cases n_q : q ≠ 0
    · have n_q' := nz n_q
      go_wp2
      go_ret
      exact ⟨ret_b (by rw [HM3.out]; simp; omega), HB3.out⟩
    obtain rfl : q = 0 := by omega
    clear n_q
    by_cases n_s : s ≠ 0
    · have n_s' := nz n_s
      go_wp2
      go_ret
      exact ⟨ret_b (by rw [HM3.out]; simp; omega), HB3.out⟩
    obtain rfl : s = 0 := by omega
    clear n_s
    by_cases n_i : i ≠ 0
    · have n_i' := nz n_i
      go_wp2
      go_ret
      exact ⟨ret_b (by rw [HM3.out]; simp; omega), HB3.out⟩
    obtain rfl : i = 0 := by omega
    clear n_i
    by_cases n_e : e ≠ 0
    · have n_e' := nz n_e
      go_wp2
      go_ret
      exact ⟨ret_b (by rw [HM3.out]; simp; omega), HB3.out⟩
    obtain rfl : e = 0 := by omega
    clear n_e
    by_cases n_y : y ≠ 0
    · have n_y' := nz n_y
      go_wp2
      go_ret
      exact ⟨ret_b (by rw [HM3.out]; simp; omega), HB3.out⟩
    obtain rfl : y = 0 := by omega
    clear n_y
    go_wp2
    go_ret
    exact ⟨ret_b (by rw [HM3.out]; simp), HB3.out⟩
  have c1' : (k == 1) = false := by simp [c1]
  by_cases c2 : k = 2
  · subst c2
    have HM3 : Hid (M = decide (o = 0 ∧ s = 0 ∧ i = 0 ∧ e = 0 ∧ y = 0)) := by show _ = _; rw [HM2.out]; rfl
    clear HM2 c1 c1'
    go_upto_region 8 with fail
    by_cases n_o : o ≠ 0
    · have n_o' := nz n_o
      go_wp2
      go_ret
      exact ⟨ret_b (by rw [HM3.out]; simp; omega), HB3.out⟩
    obtain rfl : o = 0 := by omega
    clear n_o
    by_cases n_s : s ≠ 0
    · have n_s' := nz n_s
      go_wp2
      go_ret
      exact ⟨ret_b (by rw [HM3.out]; simp; omega), HB3.out⟩
    obtain rfl : s = 0 := by omega
    clear n_s
    by_cases n_i : i ≠ 0
    · have n_i' := nz n_i
      go_wp2
      go_ret
      exact ⟨ret_b (by rw [HM3.out]; simp; omega), HB3.out⟩
    obtain rfl : i = 0 := by omega
    clear n_i
    by_cases n_e : e ≠ 0
    · have n_e' := nz n_e
      go_wp2
      go_ret
      exact ⟨ret_b (by rw [HM3.out]; simp; omega), HB3.out⟩
    obtain rfl : e = 0 := by omega
    clear n_e
    by_cases n_y : y ≠ 0
    · have n_y' := nz n_y
      go_wp2
      go_ret
      exact ⟨ret_b (by rw [HM3.out]; simp; omega), HB3.out⟩
    obtain rfl : y = 0 := by omega
    clear n_y
    go_wp2
    go_ret
    exact ⟨ret_b (by rw [HM3.out]; simp), HB3.out⟩
  have c2' : (k == 2) = false := by simp [c2]
  by_cases c3 : k = 3
  · subst c3
    have HM3 : Hid (M = decide (f = 0 ∧ o = 0 ∧ p = 0 ∧ q = 0)) := by show _ = _; rw [HM2.out]; rfl
    clear HM2 c1 c1' c2 c2'
    go_upto_region 10 with fail
    by_cases n_f : f ≠ 0
    · have n_f' := nz n_f
      go_wp2
      go_ret
      exact ⟨ret_b (by rw [HM3.out]; simp; omega), HB3.out⟩
    obtain rfl : f = 0 := by omega
    clear n_f
    by_cases n_o : o ≠ 0
    · have n_o' := nz n_o
      go_wp2
      go_ret
      exact ⟨ret_b (by rw [HM3.out]; simp; omega), HB3.out⟩
    obtain rfl : o = 0 := by omega
    clear n_o
    by_cases n_p : p ≠ 0
    · have n_p' := nz n_p
      go_wp2
      go_ret
      exact ⟨ret_b (by rw [HM3.out]; simp; omega), HB3.out⟩
    obtain rfl : p = 0 := by omega
    clear n_p
    by_cases n_q : q ≠ 0
    · have n_q' := nz n_q
      go_wp2
      go_ret
      exact ⟨ret_b (by rw [HM3.out]; simp; omega), HB3.out⟩
    obtain rfl : q = 0 := by omega
    clear n_q
    go_wp2
    go_ret
    exact ⟨ret_b (by rw [HM3.out]; simp), HB3.out⟩
  have c3' : (k == 3) = false := by simp [c3]
  have HM3 : Hid (M = false) := by show _ = _; rw [HM2.out, if_neg c1, if_neg c2, if_neg c3]
  clear c1 c2 c3 HM2
  go_wp2
  go_ret
  exact ⟨ret_b HM3.out.symm, HB3.out⟩
end Go.Proofs.YthnelnfefllhpaaDoor
