/- The document's Put: one contract. -/
import Derived.Test.YtjifpojhbpjffaaQj
namespace Go.Proofs.Ytjifpojhbpjffaa
open Go.RowKit
set_option linter.unusedVariables false
set_option linter.unusedSimpArgs false
set_option maxRecDepth 20000

section
variable {P : Program} {ops : Array Oper} {Q : Exit → Act → World → Prop} {md : Region.Mode} {S : World → Prop}
theorem wpTill_two {i j n : Nat} {oi oj : Oper} {listed : Array Bool} {a : Act} {w : World} (hr : Region.ready md ops listed = [i, j]) (hi : ops[i]? = some oi) (hj : ops[j]? = some oj) (hS : S w)
    (h1 : ∀ K' : Act → World → Prop, (∀ a' w', wpTill P md ops Q S n (listed.setIfInBounds i true) a' w' → K' a' w') → if Region.wanted oi (yielded ops a.tmps) = true then Oper.wp P oi a w K' Q else K' (a.put oi.dst undef) w)
    (h2 : ∀ K' : Act → World → Prop, (∀ a' w', wpTill P md ops Q S n (listed.setIfInBounds j true) a' w' → K' a' w') → if Region.wanted oj (yielded ops a.tmps) = true then Oper.wp P oj a w K' Q else K' (a.put oj.dst undef) w) :
    wpTill P md ops Q S (n + 1) listed a w :=
  ⟨fun k => (by rw [hr] at k; cases k), fun _ => hS, fun l hl => by
    rw [hr] at hl
    rcases List.mem_cons.1 hl with rfl | hl
    · exact wpOp_step hi h1
    · rw [List.mem_singleton] at hl
      subst hl
      exact wpOp_step hj h2⟩
end
theorem keep_rowB {w1 w2 : World} (h : Below w1.heap.size w1 w2) {g : Nat} (hg : g < w1.heap.size) : rowOf w2 g = rowOf w1 g := by
  unfold rowOf; rw [h.block g hg]
theorem G.on_alloc {wd w1 : World} {o : Obj} (h : G.On wd.heap.size wd w1) : G.On wd.heap.size wd (w1.alloc o) := G.on_step h (below_of_grown (grown_alloc w1 o))
theorem G.on_drewB {B : Nat} {w w' : World} (h : G.On B w w') : G.On B w w'.drew := Below.drew h
theorem strOf1 (a : Nat) : strOf #[.int .u8 (a : Int)] = str [UInt8.ofNat a] := by simp [strOf, byteV]
theorem pA_yes {r : Rc} (h : mayB r = true) : pA r = encR r := if_pos h
theorem long_b (n : Nat) (hn : n < 18446744073709551616) : ∀ w, Calls Try.prog 19 #[.int .u64 (n : Int)] w fun E w' => E = .returned (.string (str (le 8 n))) ∧ Below w.heap.size w w' := fun w => long_c n w hn
attribute [local go_sem ↓] ld_dec ld_int ld_input ld_u8 ld_u64
attribute [local go_sem] rowOf_new rowOf_old rowOf_drew rowOf_drewN drew_size
set_option maxHeartbeats 4000000 in
theorem dput1 (f o : Nat) (w : World) (hf : Rc.fit ⟨1, f, o, 0, 0, 0, 0, 0, 0⟩) (hm : mayB ⟨1, f, o, 0, 0, 0, 0, 0, 0⟩ = true) :
    Calls Try.prog 8 #[.agg (rcs ⟨1, f, o, 0, 0, 0, 0, 0, 0⟩)] w fun E w' => E = .returned (.tuple #[.string (str (le 1 1 ++ (le 8 f ++ le 1 o))), .int .i64 0]) ∧ Below w.heap.size w w' := by
  have H0 := Lib.hid (Loc.one w 33 (rcs ⟨1, f, o, 0, 0, 0, 0, 0, 0⟩))
  have HM := fun w => may_c ⟨1, f, o, 0, 0, 0, 0, 0, 0⟩ w hf
  rw [hm] at HM
  obtain ⟨-, -, hf1, ho1, hp1, hq1, hs1, hi1, he1, hy1⟩ := hf
  simp only at hf1 ho1 hp1 hq1 hs1 hi1 he1 hy1
  clear hm
  go_enter Try.func8, Try.ntmps8
  go_upto_region 1 with fail
  generalize w.alloc (.cells (rcs ⟨1, f, o, 0, 0, 0, 0, 0, 0⟩) 33) = wa at *
  have la := H0.out.ldA ty_dec 0 rfl 0 (vs := rcs ⟨1, f, o, 0, 0, 0, 0, 0, 0⟩) rfl (Nat.le_of_ble_eq_true rfl)
  go_wp2_with fail
  refine (HM wa).mono ?_
  rintro E w1 ⟨rfl, hb1⟩
  have H1 := Lib.hid (H0.out.to hb1)
  clear la H0 hb1 HM
  have l0 := H1.out.ldO ty_int 0 rfl 0 (v := .int .i64 1) rfl
  have l0' := (H1.out.grown (grown_alloc w1 (.cells #[.int .u8 1] 5))).ldO ty_int 0 rfl 0 (v := .int .i64 1) rfl
  have hr1 : rowOf (w1.alloc (.cells #[.int .u8 1] 5)) w1.heap.size = #[.int .u8 1] := rowOf_cells (Cells.made w1 _ _)
  have hc1 := run_conv (w1.alloc (.cells #[.int .u8 1] 5)) w1.heap.size 1 (by rw [hr1]; rfl) (by decide) (by rw [hr1]; rfl)
  rw [hr1, show strOf #[.int .u8 1] = str [1] from rfl] at hc1
  clear hr1
  have H2 := Lib.hid (H1.out.grown (grown_alloc w1 (.cells #[.int .u8 1] 5)))
  go_upto_region 6 with fail
  clear l0 l0' hc1
  generalize w1.alloc (.cells #[.int .u8 1] 5) = wz at *
  have o0 := G.On.drew wz.heap.size wz
  have o00 := G.On.refl wz.heap.size wz
  have a_f := H2.out.onO ty_u64 0 rfl 1 (v := .int .u64 (f : Int)) rfl
  have a_o := H2.out.onO ty_input 0 rfl 2 (v := .int .u8 (o : Int)) rfl
  have n1 : ¬ (9223372036854775807 < (str [1]).size + (str (le 8 f)).size) := by simp only [str_size, le_length, List.length_cons, List.length_nil]; omega
  have n2 : ¬ (9223372036854775807 < (str [1]).size + (str (le 8 f)).size + (str [UInt8.ofNat o]).size) := by simp only [str_size, le_length, List.length_cons, List.length_nil]; omega
  have HE : Hid (str [1] ++ str (le 8 f) ++ str [UInt8.ofNat o] = str (le 1 1 ++ (le 8 f ++ le 1 o))) := by show _ = _; simp [str_append, le, Nat.mod_eq_of_lt, *]
  have Kf := Lib.hid (long_b f hf1)
  refine wp_region_till (S := fun w' => G.On wz.heap.size wz w') (by kernel_rfl) ?_
  refine wpTill_take (i := 0) (v := ?vq1) rfl (by kernel_rfl) (fun _ _ _ h => h) (Or.inl ⟨by rfl, ?hq1⟩) o0 ?rq1
  case hq1 => (intro W hW; (try dsimp only at hW); go_simp; try with_reducible rfl)
  simp only [Act.put, List.setIfInBounds_toArray, List.set_cons_zero, List.set_cons_succ, List.getElem_toArray, List.getElem_cons_succ, List.getElem_cons_zero]
  refine wpTill_take (i := 1) (v := ?vq2) rfl (by kernel_rfl) (fun _ _ _ h => h) (Or.inl ⟨by rfl, ?hq2⟩) o0 ?rq2
  case hq2 => (intro W hW; (try dsimp only at hW); go_simp; try with_reducible rfl)
  simp only [Act.put, List.setIfInBounds_toArray, List.set_cons_zero, List.set_cons_succ, List.getElem_toArray, List.getElem_cons_succ, List.getElem_cons_zero]
  refine wpTill_take (i := 2) (v := ?vq3) rfl (by kernel_rfl) (fun _ _ _ h => h) (Or.inl ⟨by rfl, ?hq3⟩) o0 ?rq3
  case hq3 => (intro W hW; (try dsimp only at hW); go_simp; try with_reducible rfl)
  simp only [Act.put, List.setIfInBounds_toArray, List.set_cons_zero, List.set_cons_succ, List.getElem_toArray, List.getElem_cons_succ, List.getElem_cons_zero]
  refine wpTill_take (i := 5) (v := ?vq4) rfl (by kernel_rfl) (fun _ _ _ h => h) (Or.inl ⟨by rfl, ?hq4⟩) o0 ?rq4
  case hq4 => (intro W hW; (try dsimp only at hW); go_simp; try with_reducible rfl)
  simp only [Act.put, List.setIfInBounds_toArray, List.set_cons_zero, List.set_cons_succ, List.getElem_toArray, List.getElem_cons_succ, List.getElem_cons_zero]
  refine wpTill_take (i := 6) (v := ?vq5) rfl (by kernel_rfl) (fun _ _ _ h => h) (Or.inl ⟨by rfl, ?hq5⟩) o0 ?rq5
  case hq5 => (intro W hW; (try dsimp only at hW); go_simp; try with_reducible rfl)
  simp only [Act.put, List.setIfInBounds_toArray, List.set_cons_zero, List.set_cons_succ, List.getElem_toArray, List.getElem_cons_succ, List.getElem_cons_zero]
  refine wpTill_two (i := 3) (j := 7) (by kernel_rfl) rfl rfl o0 (fun K hK => ?_) (fun K hK => ?_)
  · go_simp
    go_at_call 19
    with_reducible refine (Kf.out _).mono ?_
    rintro E w6 ⟨rfl, hb6⟩
    have o6 := G.on_step (wd := wz) o0 hb6
    refine hK _ _ ?_
    clear hK K
    refine wpTill_take (i := 4) (v := ?vq7) rfl (by kernel_rfl) (fun _ _ _ h => h) (Or.inl ⟨by rfl, ?hq7⟩) o6 ?rq7
    case hq7 => (intro W hW; (try dsimp only at hW); go_simp; try with_reducible rfl)
    simp only [Act.put, List.setIfInBounds_toArray, List.set_cons_zero, List.set_cons_succ, List.getElem_toArray, List.getElem_cons_succ, List.getElem_cons_zero]
    refine wpTill_run (i := 7) (by kernel_rfl) rfl o6 (fun K hK => ?_)
    go_simp
    refine hK _ _ ?_
    clear hK K
    have o8 : G.On wz.heap.size wz (w6.alloc (.cells #[.int .u8 (o : Int)] 5)) := G.on_alloc o6
    have hr8 : rowOf (w6.alloc (.cells #[.int .u8 (o : Int)] 5)) w6.heap.size = #[.int .u8 (o : Int)] := rowOf_cells (Cells.made w6 _ _)
    have hl8 : w6.heap.size < (w6.alloc (.cells #[.int .u8 (o : Int)] 5)).heap.size := Cells.lt (Cells.made w6 5 #[.int .u8 (o : Int)])
    refine wpTill_run (i := 8) (by kernel_rfl) rfl o8 (fun K hK => ?_)
    have hc9 := run_conv (w6.alloc (.cells #[.int .u8 (o : Int)] 5)) w6.heap.size 1 (by rw [hr8]; rfl) (by decide) (by rw [hr8]; simp [allU8_cons, allU8_nil, ho1])
    rw [hr8, strOf1] at hc9
    go_simp
    refine hK _ _ ?_
    clear hK K
    refine wpTill_take (i := 9) (v := ?vq10) rfl (by kernel_rfl) (fun _ _ _ h => h) (Or.inl ⟨by rfl, ?hq10⟩) o8 ?rq10
    case hq10 => (intro W hW; (try dsimp only at hW); go_simp; try with_reducible rfl)
    simp only [Act.put, List.setIfInBounds_toArray, List.set_cons_zero, List.set_cons_succ, List.getElem_toArray, List.getElem_cons_succ, List.getElem_cons_zero]
    refine wpTill_run (i := 10) (by kernel_rfl) rfl o8 (fun K hK => ?_)
    go_simp
    refine hK _ _ ?_
    clear hK K
    refine wpTill_run (i := 11) (by kernel_rfl) rfl o8 (fun K hK => ?_)
    go_simp
    refine hK _ _ ?_
    clear hK K
    refine wpTill_done (by kernel_rfl) ?_
    have HOZ := Lib.hid o8
    go_wp2
    go_ret2
    exact ⟨by rw [← HE.out]; rfl, H2.out.be.trans (Below.mono HOZ.out H2.out.size)⟩
  · go_simp
    refine hK _ _ ?_
    clear hK K
    have o11 : G.On wz.heap.size wz (wz.alloc (.cells #[.int .u8 (o : Int)] 5)).drew := G.on_drewB (G.on_alloc o00)
    have hr11 : rowOf (wz.alloc (.cells #[.int .u8 (o : Int)] 5)).drew wz.heap.size = #[.int .u8 (o : Int)] := rowOf_cells (Cells.made wz _ _)
    have hl11 : wz.heap.size < (wz.alloc (.cells #[.int .u8 (o : Int)] 5)).drew.heap.size := Cells.lt (Cells.made wz 5 #[.int .u8 (o : Int)])
    refine wpTill_two (i := 3) (j := 8) (by kernel_rfl) rfl rfl o11 (fun K hK => ?_) (fun K hK => ?_)
    · go_simp
      go_at_call 19
      with_reducible refine (Kf.out _).mono ?_
      rintro E w12 ⟨rfl, hb12⟩
      have o12 := G.on_step (wd := wz) o11 hb12
      have hr12x7 : rowOf w12 wz.heap.size = #[.int .u8 (o : Int)] := by rw [keep_rowB hb12 hl11, hr11]
      have hl12x7 : wz.heap.size < w12.heap.size := Nat.lt_of_lt_of_le hl11 hb12.size
      refine hK _ _ ?_
      clear hK K
      refine wpTill_take (i := 4) (v := ?vq13) rfl (by kernel_rfl) (fun _ _ _ h => h) (Or.inl ⟨by rfl, ?hq13⟩) o12 ?rq13
      case hq13 => (intro W hW; (try dsimp only at hW); go_simp; try with_reducible rfl)
      simp only [Act.put, List.setIfInBounds_toArray, List.set_cons_zero, List.set_cons_succ, List.getElem_toArray, List.getElem_cons_succ, List.getElem_cons_zero]
      refine wpTill_run (i := 8) (by kernel_rfl) rfl o12 (fun K hK => ?_)
      have hc14 := run_conv w12 wz.heap.size 1 (by rw [hr12x7]; rfl) (by decide) (by rw [hr12x7]; simp [allU8_cons, allU8_nil, ho1])
      rw [hr12x7, strOf1] at hc14
      go_simp
      refine hK _ _ ?_
      clear hK K
      refine wpTill_take (i := 9) (v := ?vq15) rfl (by kernel_rfl) (fun _ _ _ h => h) (Or.inl ⟨by rfl, ?hq15⟩) o12 ?rq15
      case hq15 => (intro W hW; (try dsimp only at hW); go_simp; try with_reducible rfl)
      simp only [Act.put, List.setIfInBounds_toArray, List.set_cons_zero, List.set_cons_succ, List.getElem_toArray, List.getElem_cons_succ, List.getElem_cons_zero]
      refine wpTill_run (i := 10) (by kernel_rfl) rfl o12 (fun K hK => ?_)
      go_simp
      refine hK _ _ ?_
      clear hK K
      refine wpTill_run (i := 11) (by kernel_rfl) rfl o12 (fun K hK => ?_)
      go_simp
      refine hK _ _ ?_
      clear hK K
      refine wpTill_done (by kernel_rfl) ?_
      have HOZ := Lib.hid o12
      go_wp2
      go_ret2
      exact ⟨by rw [← HE.out]; rfl, H2.out.be.trans (Below.mono HOZ.out H2.out.size)⟩
    · have hc16 := run_conv (wz.alloc (.cells #[.int .u8 (o : Int)] 5)).drew wz.heap.size 1 (by rw [hr11]; rfl) (by decide) (by rw [hr11]; simp [allU8_cons, allU8_nil, ho1])
      rw [hr11, strOf1] at hc16
      go_simp
      refine hK _ _ ?_
      clear hK K
      refine wpTill_run (i := 3) (by kernel_rfl) rfl o11 (fun K hK => ?_)
      go_simp
      go_at_call 19
      with_reducible refine (Kf.out _).mono ?_
      rintro E w17 ⟨rfl, hb17⟩
      have o17 := G.on_step (wd := wz) o11 hb17
      refine hK _ _ ?_
      clear hK K
      refine wpTill_take (i := 4) (v := ?vq18) rfl (by kernel_rfl) (fun _ _ _ h => h) (Or.inl ⟨by rfl, ?hq18⟩) o17 ?rq18
      case hq18 => (intro W hW; (try dsimp only at hW); go_simp; try with_reducible rfl)
      simp only [Act.put, List.setIfInBounds_toArray, List.set_cons_zero, List.set_cons_succ, List.getElem_toArray, List.getElem_cons_succ, List.getElem_cons_zero]
      refine wpTill_take (i := 9) (v := ?vq19) rfl (by kernel_rfl) (fun _ _ _ h => h) (Or.inl ⟨by rfl, ?hq19⟩) o17 ?rq19
      case hq19 => (intro W hW; (try dsimp only at hW); go_simp; try with_reducible rfl)
      simp only [Act.put, List.setIfInBounds_toArray, List.set_cons_zero, List.set_cons_succ, List.getElem_toArray, List.getElem_cons_succ, List.getElem_cons_zero]
      refine wpTill_run (i := 10) (by kernel_rfl) rfl o17 (fun K hK => ?_)
      go_simp
      refine hK _ _ ?_
      clear hK K
      refine wpTill_run (i := 11) (by kernel_rfl) rfl o17 (fun K hK => ?_)
      go_simp
      refine hK _ _ ?_
      clear hK K
      refine wpTill_done (by kernel_rfl) ?_
      have HOZ := Lib.hid o17
      go_wp2
      go_ret2
      exact ⟨by rw [← HE.out]; rfl, H2.out.be.trans (Below.mono HOZ.out H2.out.size)⟩
set_option maxHeartbeats 4000000 in
theorem dput2 (f p q : Nat) (w : World) (hf : Rc.fit ⟨2, f, 0, p, q, 0, 0, 0, 0⟩) (hm : mayB ⟨2, f, 0, p, q, 0, 0, 0, 0⟩ = true) :
    Calls Try.prog 8 #[.agg (rcs ⟨2, f, 0, p, q, 0, 0, 0, 0⟩)] w fun E w' => E = .returned (.tuple #[.string (str (le 1 2 ++ (le 8 f ++ le 1 p ++ le 1 q))), .int .i64 0]) ∧ Below w.heap.size w w' := by
  have H0 := Lib.hid (Loc.one w 33 (rcs ⟨2, f, 0, p, q, 0, 0, 0, 0⟩))
  have HM := fun w => may_c ⟨2, f, 0, p, q, 0, 0, 0, 0⟩ w hf
  rw [hm] at HM
  obtain ⟨-, -, hf1, ho1, hp1, hq1, hs1, hi1, he1, hy1⟩ := hf
  simp only at hf1 ho1 hp1 hq1 hs1 hi1 he1 hy1
  clear hm
  go_enter Try.func8, Try.ntmps8
  go_upto_region 1 with fail
  generalize w.alloc (.cells (rcs ⟨2, f, 0, p, q, 0, 0, 0, 0⟩) 33) = wa at *
  have la := H0.out.ldA ty_dec 0 rfl 0 (vs := rcs ⟨2, f, 0, p, q, 0, 0, 0, 0⟩) rfl (Nat.le_of_ble_eq_true rfl)
  go_wp2_with fail
  refine (HM wa).mono ?_
  rintro E w1 ⟨rfl, hb1⟩
  have H1 := Lib.hid (H0.out.to hb1)
  clear la H0 hb1 HM
  have l0 := H1.out.ldO ty_int 0 rfl 0 (v := .int .i64 2) rfl
  have l0' := (H1.out.grown (grown_alloc w1 (.cells #[.int .u8 2] 5))).ldO ty_int 0 rfl 0 (v := .int .i64 2) rfl
  have hr1 : rowOf (w1.alloc (.cells #[.int .u8 2] 5)) w1.heap.size = #[.int .u8 2] := rowOf_cells (Cells.made w1 _ _)
  have hc1 := run_conv (w1.alloc (.cells #[.int .u8 2] 5)) w1.heap.size 1 (by rw [hr1]; rfl) (by decide) (by rw [hr1]; rfl)
  rw [hr1, show strOf #[.int .u8 2] = str [2] from rfl] at hc1
  clear hr1
  have H2 := Lib.hid (H1.out.grown (grown_alloc w1 (.cells #[.int .u8 2] 5)))
  go_upto_region 8 with fail
  clear l0 l0' hc1
  generalize w1.alloc (.cells #[.int .u8 2] 5) = wz at *
  have o0 := G.On.drew wz.heap.size wz
  have o00 := G.On.refl wz.heap.size wz
  have a_f := H2.out.onO ty_u64 0 rfl 1 (v := .int .u64 (f : Int)) rfl
  have a_p := H2.out.onO ty_input 0 rfl 3 (v := .int .u8 (p : Int)) rfl
  have a_q := H2.out.onO ty_input 0 rfl 4 (v := .int .u8 (q : Int)) rfl
  have n1 : ¬ (9223372036854775807 < (str [2]).size + (str (le 8 f)).size) := by simp only [str_size, le_length, List.length_cons, List.length_nil]; omega
  have n2 : ¬ (9223372036854775807 < (str [2]).size + (str (le 8 f)).size + (str [UInt8.ofNat p, UInt8.ofNat q]).size) := by simp only [str_size, le_length, List.length_cons, List.length_nil]; omega
  have HE : Hid (str [2] ++ str (le 8 f) ++ str [UInt8.ofNat p, UInt8.ofNat q] = str (le 1 2 ++ (le 8 f ++ le 1 p ++ le 1 q))) := by show _ = _; simp [str_append, le, Nat.mod_eq_of_lt, *]
  have Kf := Lib.hid (long_b f hf1)
  refine wp_region_till (S := fun w' => G.On wz.heap.size wz w') (by kernel_rfl) ?_
  refine wpTill_take (i := 0) (v := ?vq20) rfl (by kernel_rfl) (fun _ _ _ h => h) (Or.inl ⟨by rfl, ?hq20⟩) o0 ?rq20
  case hq20 => (intro W hW; (try dsimp only at hW); go_simp; try with_reducible rfl)
  simp only [Act.put, List.setIfInBounds_toArray, List.set_cons_zero, List.set_cons_succ, List.getElem_toArray, List.getElem_cons_succ, List.getElem_cons_zero]
  refine wpTill_take (i := 1) (v := ?vq21) rfl (by kernel_rfl) (fun _ _ _ h => h) (Or.inl ⟨by rfl, ?hq21⟩) o0 ?rq21
  case hq21 => (intro W hW; (try dsimp only at hW); go_simp; try with_reducible rfl)
  simp only [Act.put, List.setIfInBounds_toArray, List.set_cons_zero, List.set_cons_succ, List.getElem_toArray, List.getElem_cons_succ, List.getElem_cons_zero]
  refine wpTill_take (i := 2) (v := ?vq22) rfl (by kernel_rfl) (fun _ _ _ h => h) (Or.inl ⟨by rfl, ?hq22⟩) o0 ?rq22
  case hq22 => (intro W hW; (try dsimp only at hW); go_simp; try with_reducible rfl)
  simp only [Act.put, List.setIfInBounds_toArray, List.set_cons_zero, List.set_cons_succ, List.getElem_toArray, List.getElem_cons_succ, List.getElem_cons_zero]
  refine wpTill_take (i := 5) (v := ?vq23) rfl (by kernel_rfl) (fun _ _ _ h => h) (Or.inl ⟨by rfl, ?hq23⟩) o0 ?rq23
  case hq23 => (intro W hW; (try dsimp only at hW); go_simp; try with_reducible rfl)
  simp only [Act.put, List.setIfInBounds_toArray, List.set_cons_zero, List.set_cons_succ, List.getElem_toArray, List.getElem_cons_succ, List.getElem_cons_zero]
  refine wpTill_take (i := 6) (v := ?vq24) rfl (by kernel_rfl) (fun _ _ _ h => h) (Or.inl ⟨by rfl, ?hq24⟩) o0 ?rq24
  case hq24 => (intro W hW; (try dsimp only at hW); go_simp; try with_reducible rfl)
  simp only [Act.put, List.setIfInBounds_toArray, List.set_cons_zero, List.set_cons_succ, List.getElem_toArray, List.getElem_cons_succ, List.getElem_cons_zero]
  refine wpTill_take (i := 7) (v := ?vq25) rfl (by kernel_rfl) (fun _ _ _ h => h) (Or.inl ⟨by rfl, ?hq25⟩) o0 ?rq25
  case hq25 => (intro W hW; (try dsimp only at hW); go_simp; try with_reducible rfl)
  simp only [Act.put, List.setIfInBounds_toArray, List.set_cons_zero, List.set_cons_succ, List.getElem_toArray, List.getElem_cons_succ, List.getElem_cons_zero]
  refine wpTill_take (i := 8) (v := ?vq26) rfl (by kernel_rfl) (fun _ _ _ h => h) (Or.inl ⟨by rfl, ?hq26⟩) o0 ?rq26
  case hq26 => (intro W hW; (try dsimp only at hW); go_simp; try with_reducible rfl)
  simp only [Act.put, List.setIfInBounds_toArray, List.set_cons_zero, List.set_cons_succ, List.getElem_toArray, List.getElem_cons_succ, List.getElem_cons_zero]
  refine wpTill_take (i := 9) (v := ?vq27) rfl (by kernel_rfl) (fun _ _ _ h => h) (Or.inl ⟨by rfl, ?hq27⟩) o0 ?rq27
  case hq27 => (intro W hW; (try dsimp only at hW); go_simp; try with_reducible rfl)
  simp only [Act.put, List.setIfInBounds_toArray, List.set_cons_zero, List.set_cons_succ, List.getElem_toArray, List.getElem_cons_succ, List.getElem_cons_zero]
  refine wpTill_take (i := 10) (v := ?vq28) rfl (by kernel_rfl) (fun _ _ _ h => h) (Or.inl ⟨by rfl, ?hq28⟩) o0 ?rq28
  case hq28 => (intro W hW; (try dsimp only at hW); go_simp; try with_reducible rfl)
  simp only [Act.put, List.setIfInBounds_toArray, List.set_cons_zero, List.set_cons_succ, List.getElem_toArray, List.getElem_cons_succ, List.getElem_cons_zero]
  refine wpTill_two (i := 3) (j := 11) (by kernel_rfl) rfl rfl o0 (fun K hK => ?_) (fun K hK => ?_)
  · go_simp
    go_at_call 19
    with_reducible refine (Kf.out _).mono ?_
    rintro E w29 ⟨rfl, hb29⟩
    have o29 := G.on_step (wd := wz) o0 hb29
    refine hK _ _ ?_
    clear hK K
    refine wpTill_take (i := 4) (v := ?vq30) rfl (by kernel_rfl) (fun _ _ _ h => h) (Or.inl ⟨by rfl, ?hq30⟩) o29 ?rq30
    case hq30 => (intro W hW; (try dsimp only at hW); go_simp; try with_reducible rfl)
    simp only [Act.put, List.setIfInBounds_toArray, List.set_cons_zero, List.set_cons_succ, List.getElem_toArray, List.getElem_cons_succ, List.getElem_cons_zero]
    refine wpTill_run (i := 11) (by kernel_rfl) rfl o29 (fun K hK => ?_)
    go_simp
    refine hK _ _ ?_
    clear hK K
    have o31 : G.On wz.heap.size wz (w29.alloc (.cells #[.int .u8 (p : Int), .int .u8 (q : Int)] 5)) := G.on_alloc o29
    have hr31 : rowOf (w29.alloc (.cells #[.int .u8 (p : Int), .int .u8 (q : Int)] 5)) w29.heap.size = #[.int .u8 (p : Int), .int .u8 (q : Int)] := rowOf_cells (Cells.made w29 _ _)
    have hl31 : w29.heap.size < (w29.alloc (.cells #[.int .u8 (p : Int), .int .u8 (q : Int)] 5)).heap.size := Cells.lt (Cells.made w29 5 #[.int .u8 (p : Int), .int .u8 (q : Int)])
    refine wpTill_run (i := 12) (by kernel_rfl) rfl o31 (fun K hK => ?_)
    have hc32 := run_conv (w29.alloc (.cells #[.int .u8 (p : Int), .int .u8 (q : Int)] 5)) w29.heap.size 2 (by rw [hr31]; rfl) (by decide) (by rw [hr31]; simp [allU8_cons, allU8_nil, hp1, hq1])
    rw [hr31, strOf2] at hc32
    go_simp
    refine hK _ _ ?_
    clear hK K
    refine wpTill_take (i := 13) (v := ?vq33) rfl (by kernel_rfl) (fun _ _ _ h => h) (Or.inl ⟨by rfl, ?hq33⟩) o31 ?rq33
    case hq33 => (intro W hW; (try dsimp only at hW); go_simp; try with_reducible rfl)
    simp only [Act.put, List.setIfInBounds_toArray, List.set_cons_zero, List.set_cons_succ, List.getElem_toArray, List.getElem_cons_succ, List.getElem_cons_zero]
    refine wpTill_run (i := 14) (by kernel_rfl) rfl o31 (fun K hK => ?_)
    go_simp
    refine hK _ _ ?_
    clear hK K
    refine wpTill_run (i := 15) (by kernel_rfl) rfl o31 (fun K hK => ?_)
    go_simp
    refine hK _ _ ?_
    clear hK K
    refine wpTill_done (by kernel_rfl) ?_
    have HOZ := Lib.hid o31
    go_wp2
    go_ret2
    exact ⟨by rw [← HE.out]; rfl, H2.out.be.trans (Below.mono HOZ.out H2.out.size)⟩
  · go_simp
    refine hK _ _ ?_
    clear hK K
    have o34 : G.On wz.heap.size wz (wz.alloc (.cells #[.int .u8 (p : Int), .int .u8 (q : Int)] 5)).drew := G.on_drewB (G.on_alloc o00)
    have hr34 : rowOf (wz.alloc (.cells #[.int .u8 (p : Int), .int .u8 (q : Int)] 5)).drew wz.heap.size = #[.int .u8 (p : Int), .int .u8 (q : Int)] := rowOf_cells (Cells.made wz _ _)
    have hl34 : wz.heap.size < (wz.alloc (.cells #[.int .u8 (p : Int), .int .u8 (q : Int)] 5)).drew.heap.size := Cells.lt (Cells.made wz 5 #[.int .u8 (p : Int), .int .u8 (q : Int)])
    refine wpTill_two (i := 3) (j := 12) (by kernel_rfl) rfl rfl o34 (fun K hK => ?_) (fun K hK => ?_)
    · go_simp
      go_at_call 19
      with_reducible refine (Kf.out _).mono ?_
      rintro E w35 ⟨rfl, hb35⟩
      have o35 := G.on_step (wd := wz) o34 hb35
      have hr35x11 : rowOf w35 wz.heap.size = #[.int .u8 (p : Int), .int .u8 (q : Int)] := by rw [keep_rowB hb35 hl34, hr34]
      have hl35x11 : wz.heap.size < w35.heap.size := Nat.lt_of_lt_of_le hl34 hb35.size
      refine hK _ _ ?_
      clear hK K
      refine wpTill_take (i := 4) (v := ?vq36) rfl (by kernel_rfl) (fun _ _ _ h => h) (Or.inl ⟨by rfl, ?hq36⟩) o35 ?rq36
      case hq36 => (intro W hW; (try dsimp only at hW); go_simp; try with_reducible rfl)
      simp only [Act.put, List.setIfInBounds_toArray, List.set_cons_zero, List.set_cons_succ, List.getElem_toArray, List.getElem_cons_succ, List.getElem_cons_zero]
      refine wpTill_run (i := 12) (by kernel_rfl) rfl o35 (fun K hK => ?_)
      have hc37 := run_conv w35 wz.heap.size 2 (by rw [hr35x11]; rfl) (by decide) (by rw [hr35x11]; simp [allU8_cons, allU8_nil, hp1, hq1])
      rw [hr35x11, strOf2] at hc37
      go_simp
      refine hK _ _ ?_
      clear hK K
      refine wpTill_take (i := 13) (v := ?vq38) rfl (by kernel_rfl) (fun _ _ _ h => h) (Or.inl ⟨by rfl, ?hq38⟩) o35 ?rq38
      case hq38 => (intro W hW; (try dsimp only at hW); go_simp; try with_reducible rfl)
      simp only [Act.put, List.setIfInBounds_toArray, List.set_cons_zero, List.set_cons_succ, List.getElem_toArray, List.getElem_cons_succ, List.getElem_cons_zero]
      refine wpTill_run (i := 14) (by kernel_rfl) rfl o35 (fun K hK => ?_)
      go_simp
      refine hK _ _ ?_
      clear hK K
      refine wpTill_run (i := 15) (by kernel_rfl) rfl o35 (fun K hK => ?_)
      go_simp
      refine hK _ _ ?_
      clear hK K
      refine wpTill_done (by kernel_rfl) ?_
      have HOZ := Lib.hid o35
      go_wp2
      go_ret2
      exact ⟨by rw [← HE.out]; rfl, H2.out.be.trans (Below.mono HOZ.out H2.out.size)⟩
    · have hc39 := run_conv (wz.alloc (.cells #[.int .u8 (p : Int), .int .u8 (q : Int)] 5)).drew wz.heap.size 2 (by rw [hr34]; rfl) (by decide) (by rw [hr34]; simp [allU8_cons, allU8_nil, hp1, hq1])
      rw [hr34, strOf2] at hc39
      go_simp
      refine hK _ _ ?_
      clear hK K
      refine wpTill_run (i := 3) (by kernel_rfl) rfl o34 (fun K hK => ?_)
      go_simp
      go_at_call 19
      with_reducible refine (Kf.out _).mono ?_
      rintro E w40 ⟨rfl, hb40⟩
      have o40 := G.on_step (wd := wz) o34 hb40
      refine hK _ _ ?_
      clear hK K
      refine wpTill_take (i := 4) (v := ?vq41) rfl (by kernel_rfl) (fun _ _ _ h => h) (Or.inl ⟨by rfl, ?hq41⟩) o40 ?rq41
      case hq41 => (intro W hW; (try dsimp only at hW); go_simp; try with_reducible rfl)
      simp only [Act.put, List.setIfInBounds_toArray, List.set_cons_zero, List.set_cons_succ, List.getElem_toArray, List.getElem_cons_succ, List.getElem_cons_zero]
      refine wpTill_take (i := 13) (v := ?vq42) rfl (by kernel_rfl) (fun _ _ _ h => h) (Or.inl ⟨by rfl, ?hq42⟩) o40 ?rq42
      case hq42 => (intro W hW; (try dsimp only at hW); go_simp; try with_reducible rfl)
      simp only [Act.put, List.setIfInBounds_toArray, List.set_cons_zero, List.set_cons_succ, List.getElem_toArray, List.getElem_cons_succ, List.getElem_cons_zero]
      refine wpTill_run (i := 14) (by kernel_rfl) rfl o40 (fun K hK => ?_)
      go_simp
      refine hK _ _ ?_
      clear hK K
      refine wpTill_run (i := 15) (by kernel_rfl) rfl o40 (fun K hK => ?_)
      go_simp
      refine hK _ _ ?_
      clear hK K
      refine wpTill_done (by kernel_rfl) ?_
      have HOZ := Lib.hid o40
      go_wp2
      go_ret2
      exact ⟨by rw [← HE.out]; rfl, H2.out.be.trans (Below.mono HOZ.out H2.out.size)⟩
set_option maxHeartbeats 4000000 in
theorem dput3 (s i e y : Nat) (w : World) (hf : Rc.fit ⟨3, 0, 0, 0, 0, s, i, e, y⟩) (hm : mayB ⟨3, 0, 0, 0, 0, s, i, e, y⟩ = true) :
    Calls Try.prog 8 #[.agg (rcs ⟨3, 0, 0, 0, 0, s, i, e, y⟩)] w fun E w' => E = .returned (.tuple #[.string (str (le 1 3 ++ (le 8 s ++ le 8 i ++ le 8 e ++ le 1 y))), .int .i64 0]) ∧ Below w.heap.size w w' := by
  have H0 := Lib.hid (Loc.one w 33 (rcs ⟨3, 0, 0, 0, 0, s, i, e, y⟩))
  have HM := fun w => may_c ⟨3, 0, 0, 0, 0, s, i, e, y⟩ w hf
  rw [hm] at HM
  obtain ⟨-, -, hf1, ho1, hp1, hq1, hs1, hi1, he1, hy1⟩ := hf
  simp only at hf1 ho1 hp1 hq1 hs1 hi1 he1 hy1
  clear hm
  go_enter Try.func8, Try.ntmps8
  go_upto_region 1 with fail
  generalize w.alloc (.cells (rcs ⟨3, 0, 0, 0, 0, s, i, e, y⟩) 33) = wa at *
  have la := H0.out.ldA ty_dec 0 rfl 0 (vs := rcs ⟨3, 0, 0, 0, 0, s, i, e, y⟩) rfl (Nat.le_of_ble_eq_true rfl)
  go_wp2_with fail
  refine (HM wa).mono ?_
  rintro E w1 ⟨rfl, hb1⟩
  have H1 := Lib.hid (H0.out.to hb1)
  clear la H0 hb1 HM
  have l0 := H1.out.ldO ty_int 0 rfl 0 (v := .int .i64 3) rfl
  have l0' := (H1.out.grown (grown_alloc w1 (.cells #[.int .u8 3] 5))).ldO ty_int 0 rfl 0 (v := .int .i64 3) rfl
  have hr1 : rowOf (w1.alloc (.cells #[.int .u8 3] 5)) w1.heap.size = #[.int .u8 3] := rowOf_cells (Cells.made w1 _ _)
  have hc1 := run_conv (w1.alloc (.cells #[.int .u8 3] 5)) w1.heap.size 1 (by rw [hr1]; rfl) (by decide) (by rw [hr1]; rfl)
  rw [hr1, show strOf #[.int .u8 3] = str [3] from rfl] at hc1
  clear hr1
  have H2 := Lib.hid (H1.out.grown (grown_alloc w1 (.cells #[.int .u8 3] 5)))
  go_upto_region 9 with fail
  clear l0 l0' hc1
  generalize w1.alloc (.cells #[.int .u8 3] 5) = wz at *
  have o0 := G.On.drew wz.heap.size wz
  have o00 := G.On.refl wz.heap.size wz
  have a_s := H2.out.onO ty_u64 0 rfl 5 (v := .int .u64 (s : Int)) rfl
  have a_i := H2.out.onO ty_u64 0 rfl 6 (v := .int .u64 (i : Int)) rfl
  have a_e := H2.out.onO ty_u64 0 rfl 7 (v := .int .u64 (e : Int)) rfl
  have a_y := H2.out.onO ty_u8 0 rfl 8 (v := .int .u8 (y : Int)) rfl
  have n1 : ¬ (9223372036854775807 < (str [3]).size + (str (le 8 s)).size) := by simp only [str_size, le_length, List.length_cons, List.length_nil]; omega
  have n2 : ¬ (9223372036854775807 < (str [3]).size + (str (le 8 s)).size + (str (le 8 i)).size) := by simp only [str_size, le_length, List.length_cons, List.length_nil]; omega
  have n3 : ¬ (9223372036854775807 < (str [3]).size + (str (le 8 s)).size + (str (le 8 i)).size + (str (le 8 e)).size) := by simp only [str_size, le_length, List.length_cons, List.length_nil]; omega
  have n4 : ¬ (9223372036854775807 < (str [3]).size + (str (le 8 s)).size + (str (le 8 i)).size + (str (le 8 e)).size + (str [UInt8.ofNat y]).size) := by simp only [str_size, le_length, List.length_cons, List.length_nil]; omega
  have HE : Hid (str [3] ++ str (le 8 s) ++ str (le 8 i) ++ str (le 8 e) ++ str [UInt8.ofNat y] = str (le 1 3 ++ (le 8 s ++ le 8 i ++ le 8 e ++ le 1 y))) := by show _ = _; simp [str_append, le, Nat.mod_eq_of_lt, *]
  have Ks := Lib.hid (long_b s hs1)
  have Ki := Lib.hid (long_b i hi1)
  have Ke := Lib.hid (long_b e he1)
  refine wp_region_till (S := fun w' => G.On wz.heap.size wz w') (by kernel_rfl) ?_
  refine wpTill_take (i := 0) (v := ?vq43) rfl (by kernel_rfl) (fun _ _ _ h => h) (Or.inl ⟨by rfl, ?hq43⟩) o0 ?rq43
  case hq43 => (intro W hW; (try dsimp only at hW); go_simp; try with_reducible rfl)
  simp only [Act.put, List.setIfInBounds_toArray, List.set_cons_zero, List.set_cons_succ, List.getElem_toArray, List.getElem_cons_succ, List.getElem_cons_zero]
  refine wpTill_take (i := 1) (v := ?vq44) rfl (by kernel_rfl) (fun _ _ _ h => h) (Or.inl ⟨by rfl, ?hq44⟩) o0 ?rq44
  case hq44 => (intro W hW; (try dsimp only at hW); go_simp; try with_reducible rfl)
  simp only [Act.put, List.setIfInBounds_toArray, List.set_cons_zero, List.set_cons_succ, List.getElem_toArray, List.getElem_cons_succ, List.getElem_cons_zero]
  refine wpTill_take (i := 2) (v := ?vq45) rfl (by kernel_rfl) (fun _ _ _ h => h) (Or.inl ⟨by rfl, ?hq45⟩) o0 ?rq45
  case hq45 => (intro W hW; (try dsimp only at hW); go_simp; try with_reducible rfl)
  simp only [Act.put, List.setIfInBounds_toArray, List.set_cons_zero, List.set_cons_succ, List.getElem_toArray, List.getElem_cons_succ, List.getElem_cons_zero]
  refine wpTill_take (i := 5) (v := ?vq46) rfl (by kernel_rfl) (fun _ _ _ h => h) (Or.inl ⟨by rfl, ?hq46⟩) o0 ?rq46
  case hq46 => (intro W hW; (try dsimp only at hW); go_simp; try with_reducible rfl)
  simp only [Act.put, List.setIfInBounds_toArray, List.set_cons_zero, List.set_cons_succ, List.getElem_toArray, List.getElem_cons_succ, List.getElem_cons_zero]
  refine wpTill_take (i := 6) (v := ?vq47) rfl (by kernel_rfl) (fun _ _ _ h => h) (Or.inl ⟨by rfl, ?hq47⟩) o0 ?rq47
  case hq47 => (intro W hW; (try dsimp only at hW); go_simp; try with_reducible rfl)
  simp only [Act.put, List.setIfInBounds_toArray, List.set_cons_zero, List.set_cons_succ, List.getElem_toArray, List.getElem_cons_succ, List.getElem_cons_zero]
  refine wpTill_take (i := 9) (v := ?vq48) rfl (by kernel_rfl) (fun _ _ _ h => h) (Or.inl ⟨by rfl, ?hq48⟩) o0 ?rq48
  case hq48 => (intro W hW; (try dsimp only at hW); go_simp; try with_reducible rfl)
  simp only [Act.put, List.setIfInBounds_toArray, List.set_cons_zero, List.set_cons_succ, List.getElem_toArray, List.getElem_cons_succ, List.getElem_cons_zero]
  refine wpTill_take (i := 10) (v := ?vq49) rfl (by kernel_rfl) (fun _ _ _ h => h) (Or.inl ⟨by rfl, ?hq49⟩) o0 ?rq49
  case hq49 => (intro W hW; (try dsimp only at hW); go_simp; try with_reducible rfl)
  simp only [Act.put, List.setIfInBounds_toArray, List.set_cons_zero, List.set_cons_succ, List.getElem_toArray, List.getElem_cons_succ, List.getElem_cons_zero]
  refine wpTill_take (i := 13) (v := ?vq50) rfl (by kernel_rfl) (fun _ _ _ h => h) (Or.inl ⟨by rfl, ?hq50⟩) o0 ?rq50
  case hq50 => (intro W hW; (try dsimp only at hW); go_simp; try with_reducible rfl)
  simp only [Act.put, List.setIfInBounds_toArray, List.set_cons_zero, List.set_cons_succ, List.getElem_toArray, List.getElem_cons_succ, List.getElem_cons_zero]
  refine wpTill_take (i := 14) (v := ?vq51) rfl (by kernel_rfl) (fun _ _ _ h => h) (Or.inl ⟨by rfl, ?hq51⟩) o0 ?rq51
  case hq51 => (intro W hW; (try dsimp only at hW); go_simp; try with_reducible rfl)
  simp only [Act.put, List.setIfInBounds_toArray, List.set_cons_zero, List.set_cons_succ, List.getElem_toArray, List.getElem_cons_succ, List.getElem_cons_zero]
  refine wpTill_two (i := 3) (j := 15) (by kernel_rfl) rfl rfl o0 (fun K hK => ?_) (fun K hK => ?_)
  · go_simp
    go_at_call 19
    with_reducible refine (Ks.out _).mono ?_
    rintro E w52 ⟨rfl, hb52⟩
    have o52 := G.on_step (wd := wz) o0 hb52
    refine hK _ _ ?_
    clear hK K
    refine wpTill_take (i := 4) (v := ?vq53) rfl (by kernel_rfl) (fun _ _ _ h => h) (Or.inl ⟨by rfl, ?hq53⟩) o52 ?rq53
    case hq53 => (intro W hW; (try dsimp only at hW); go_simp; try with_reducible rfl)
    simp only [Act.put, List.setIfInBounds_toArray, List.set_cons_zero, List.set_cons_succ, List.getElem_toArray, List.getElem_cons_succ, List.getElem_cons_zero]
    refine wpTill_two (i := 7) (j := 15) (by kernel_rfl) rfl rfl o52 (fun K hK => ?_) (fun K hK => ?_)
    · go_simp
      go_at_call 19
      with_reducible refine (Ki.out _).mono ?_
      rintro E w54 ⟨rfl, hb54⟩
      have o54 := G.on_step (wd := wz) o52 hb54
      refine hK _ _ ?_
      clear hK K
      refine wpTill_take (i := 8) (v := ?vq55) rfl (by kernel_rfl) (fun _ _ _ h => h) (Or.inl ⟨by rfl, ?hq55⟩) o54 ?rq55
      case hq55 => (intro W hW; (try dsimp only at hW); go_simp; try with_reducible rfl)
      simp only [Act.put, List.setIfInBounds_toArray, List.set_cons_zero, List.set_cons_succ, List.getElem_toArray, List.getElem_cons_succ, List.getElem_cons_zero]
      refine wpTill_two (i := 11) (j := 15) (by kernel_rfl) rfl rfl o54 (fun K hK => ?_) (fun K hK => ?_)
      · go_simp
        go_at_call 19
        with_reducible refine (Ke.out _).mono ?_
        rintro E w56 ⟨rfl, hb56⟩
        have o56 := G.on_step (wd := wz) o54 hb56
        refine hK _ _ ?_
        clear hK K
        refine wpTill_take (i := 12) (v := ?vq57) rfl (by kernel_rfl) (fun _ _ _ h => h) (Or.inl ⟨by rfl, ?hq57⟩) o56 ?rq57
        case hq57 => (intro W hW; (try dsimp only at hW); go_simp; try with_reducible rfl)
        simp only [Act.put, List.setIfInBounds_toArray, List.set_cons_zero, List.set_cons_succ, List.getElem_toArray, List.getElem_cons_succ, List.getElem_cons_zero]
        refine wpTill_run (i := 15) (by kernel_rfl) rfl o56 (fun K hK => ?_)
        go_simp
        refine hK _ _ ?_
        clear hK K
        have o58 : G.On wz.heap.size wz (w56.alloc (.cells #[.int .u8 (y : Int)] 5)) := G.on_alloc o56
        have hr58 : rowOf (w56.alloc (.cells #[.int .u8 (y : Int)] 5)) w56.heap.size = #[.int .u8 (y : Int)] := rowOf_cells (Cells.made w56 _ _)
        have hl58 : w56.heap.size < (w56.alloc (.cells #[.int .u8 (y : Int)] 5)).heap.size := Cells.lt (Cells.made w56 5 #[.int .u8 (y : Int)])
        refine wpTill_run (i := 16) (by kernel_rfl) rfl o58 (fun K hK => ?_)
        have hc59 := run_conv (w56.alloc (.cells #[.int .u8 (y : Int)] 5)) w56.heap.size 1 (by rw [hr58]; rfl) (by decide) (by rw [hr58]; simp [allU8_cons, allU8_nil, hy1])
        rw [hr58, strOf1] at hc59
        go_simp
        refine hK _ _ ?_
        clear hK K
        refine wpTill_take (i := 17) (v := ?vq60) rfl (by kernel_rfl) (fun _ _ _ h => h) (Or.inl ⟨by rfl, ?hq60⟩) o58 ?rq60
        case hq60 => (intro W hW; (try dsimp only at hW); go_simp; try with_reducible rfl)
        simp only [Act.put, List.setIfInBounds_toArray, List.set_cons_zero, List.set_cons_succ, List.getElem_toArray, List.getElem_cons_succ, List.getElem_cons_zero]
        refine wpTill_run (i := 18) (by kernel_rfl) rfl o58 (fun K hK => ?_)
        go_simp
        refine hK _ _ ?_
        clear hK K
        refine wpTill_run (i := 19) (by kernel_rfl) rfl o58 (fun K hK => ?_)
        go_simp
        refine hK _ _ ?_
        clear hK K
        refine wpTill_done (by kernel_rfl) ?_
        have HOZ := Lib.hid o58
        go_wp2
        go_ret2
        exact ⟨by rw [← HE.out]; rfl, H2.out.be.trans (Below.mono HOZ.out H2.out.size)⟩
      · go_simp
        refine hK _ _ ?_
        clear hK K
        have o61 : G.On wz.heap.size wz (w54.alloc (.cells #[.int .u8 (y : Int)] 5)) := G.on_alloc o54
        have hr61 : rowOf (w54.alloc (.cells #[.int .u8 (y : Int)] 5)) w54.heap.size = #[.int .u8 (y : Int)] := rowOf_cells (Cells.made w54 _ _)
        have hl61 : w54.heap.size < (w54.alloc (.cells #[.int .u8 (y : Int)] 5)).heap.size := Cells.lt (Cells.made w54 5 #[.int .u8 (y : Int)])
        refine wpTill_two (i := 11) (j := 16) (by kernel_rfl) rfl rfl o61 (fun K hK => ?_) (fun K hK => ?_)
        · go_simp
          go_at_call 19
          with_reducible refine (Ke.out _).mono ?_
          rintro E w62 ⟨rfl, hb62⟩
          have o62 := G.on_step (wd := wz) o61 hb62
          have hr62x15 : rowOf w62 w54.heap.size = #[.int .u8 (y : Int)] := by rw [keep_rowB hb62 hl61, hr61]
          have hl62x15 : w54.heap.size < w62.heap.size := Nat.lt_of_lt_of_le hl61 hb62.size
          refine hK _ _ ?_
          clear hK K
          refine wpTill_take (i := 12) (v := ?vq63) rfl (by kernel_rfl) (fun _ _ _ h => h) (Or.inl ⟨by rfl, ?hq63⟩) o62 ?rq63
          case hq63 => (intro W hW; (try dsimp only at hW); go_simp; try with_reducible rfl)
          simp only [Act.put, List.setIfInBounds_toArray, List.set_cons_zero, List.set_cons_succ, List.getElem_toArray, List.getElem_cons_succ, List.getElem_cons_zero]
          refine wpTill_run (i := 16) (by kernel_rfl) rfl o62 (fun K hK => ?_)
          have hc64 := run_conv w62 w54.heap.size 1 (by rw [hr62x15]; rfl) (by decide) (by rw [hr62x15]; simp [allU8_cons, allU8_nil, hy1])
          rw [hr62x15, strOf1] at hc64
          go_simp
          refine hK _ _ ?_
          clear hK K
          refine wpTill_take (i := 17) (v := ?vq65) rfl (by kernel_rfl) (fun _ _ _ h => h) (Or.inl ⟨by rfl, ?hq65⟩) o62 ?rq65
          case hq65 => (intro W hW; (try dsimp only at hW); go_simp; try with_reducible rfl)
          simp only [Act.put, List.setIfInBounds_toArray, List.set_cons_zero, List.set_cons_succ, List.getElem_toArray, List.getElem_cons_succ, List.getElem_cons_zero]
          refine wpTill_run (i := 18) (by kernel_rfl) rfl o62 (fun K hK => ?_)
          go_simp
          refine hK _ _ ?_
          clear hK K
          refine wpTill_run (i := 19) (by kernel_rfl) rfl o62 (fun K hK => ?_)
          go_simp
          refine hK _ _ ?_
          clear hK K
          refine wpTill_done (by kernel_rfl) ?_
          have HOZ := Lib.hid o62
          go_wp2
          go_ret2
          exact ⟨by rw [← HE.out]; rfl, H2.out.be.trans (Below.mono HOZ.out H2.out.size)⟩
        · have hc66 := run_conv (w54.alloc (.cells #[.int .u8 (y : Int)] 5)) w54.heap.size 1 (by rw [hr61]; rfl) (by decide) (by rw [hr61]; simp [allU8_cons, allU8_nil, hy1])
          rw [hr61, strOf1] at hc66
          go_simp
          refine hK _ _ ?_
          clear hK K
          refine wpTill_run (i := 11) (by kernel_rfl) rfl o61 (fun K hK => ?_)
          go_simp
          go_at_call 19
          with_reducible refine (Ke.out _).mono ?_
          rintro E w67 ⟨rfl, hb67⟩
          have o67 := G.on_step (wd := wz) o61 hb67
          refine hK _ _ ?_
          clear hK K
          refine wpTill_take (i := 12) (v := ?vq68) rfl (by kernel_rfl) (fun _ _ _ h => h) (Or.inl ⟨by rfl, ?hq68⟩) o67 ?rq68
          case hq68 => (intro W hW; (try dsimp only at hW); go_simp; try with_reducible rfl)
          simp only [Act.put, List.setIfInBounds_toArray, List.set_cons_zero, List.set_cons_succ, List.getElem_toArray, List.getElem_cons_succ, List.getElem_cons_zero]
          refine wpTill_take (i := 17) (v := ?vq69) rfl (by kernel_rfl) (fun _ _ _ h => h) (Or.inl ⟨by rfl, ?hq69⟩) o67 ?rq69
          case hq69 => (intro W hW; (try dsimp only at hW); go_simp; try with_reducible rfl)
          simp only [Act.put, List.setIfInBounds_toArray, List.set_cons_zero, List.set_cons_succ, List.getElem_toArray, List.getElem_cons_succ, List.getElem_cons_zero]
          refine wpTill_run (i := 18) (by kernel_rfl) rfl o67 (fun K hK => ?_)
          go_simp
          refine hK _ _ ?_
          clear hK K
          refine wpTill_run (i := 19) (by kernel_rfl) rfl o67 (fun K hK => ?_)
          go_simp
          refine hK _ _ ?_
          clear hK K
          refine wpTill_done (by kernel_rfl) ?_
          have HOZ := Lib.hid o67
          go_wp2
          go_ret2
          exact ⟨by rw [← HE.out]; rfl, H2.out.be.trans (Below.mono HOZ.out H2.out.size)⟩
    · go_simp
      refine hK _ _ ?_
      clear hK K
      have o70 : G.On wz.heap.size wz (w52.alloc (.cells #[.int .u8 (y : Int)] 5)) := G.on_alloc o52
      have hr70 : rowOf (w52.alloc (.cells #[.int .u8 (y : Int)] 5)) w52.heap.size = #[.int .u8 (y : Int)] := rowOf_cells (Cells.made w52 _ _)
      have hl70 : w52.heap.size < (w52.alloc (.cells #[.int .u8 (y : Int)] 5)).heap.size := Cells.lt (Cells.made w52 5 #[.int .u8 (y : Int)])
      refine wpTill_two (i := 7) (j := 16) (by kernel_rfl) rfl rfl o70 (fun K hK => ?_) (fun K hK => ?_)
      · go_simp
        go_at_call 19
        with_reducible refine (Ki.out _).mono ?_
        rintro E w71 ⟨rfl, hb71⟩
        have o71 := G.on_step (wd := wz) o70 hb71
        have hr71x15 : rowOf w71 w52.heap.size = #[.int .u8 (y : Int)] := by rw [keep_rowB hb71 hl70, hr70]
        have hl71x15 : w52.heap.size < w71.heap.size := Nat.lt_of_lt_of_le hl70 hb71.size
        refine hK _ _ ?_
        clear hK K
        refine wpTill_take (i := 8) (v := ?vq72) rfl (by kernel_rfl) (fun _ _ _ h => h) (Or.inl ⟨by rfl, ?hq72⟩) o71 ?rq72
        case hq72 => (intro W hW; (try dsimp only at hW); go_simp; try with_reducible rfl)
        simp only [Act.put, List.setIfInBounds_toArray, List.set_cons_zero, List.set_cons_succ, List.getElem_toArray, List.getElem_cons_succ, List.getElem_cons_zero]
        refine wpTill_two (i := 11) (j := 16) (by kernel_rfl) rfl rfl o71 (fun K hK => ?_) (fun K hK => ?_)
        · go_simp
          go_at_call 19
          with_reducible refine (Ke.out _).mono ?_
          rintro E w73 ⟨rfl, hb73⟩
          have o73 := G.on_step (wd := wz) o71 hb73
          have hr73x15 : rowOf w73 w52.heap.size = #[.int .u8 (y : Int)] := by rw [keep_rowB hb73 hl71x15, hr71x15]
          have hl73x15 : w52.heap.size < w73.heap.size := Nat.lt_of_lt_of_le hl71x15 hb73.size
          refine hK _ _ ?_
          clear hK K
          refine wpTill_take (i := 12) (v := ?vq74) rfl (by kernel_rfl) (fun _ _ _ h => h) (Or.inl ⟨by rfl, ?hq74⟩) o73 ?rq74
          case hq74 => (intro W hW; (try dsimp only at hW); go_simp; try with_reducible rfl)
          simp only [Act.put, List.setIfInBounds_toArray, List.set_cons_zero, List.set_cons_succ, List.getElem_toArray, List.getElem_cons_succ, List.getElem_cons_zero]
          refine wpTill_run (i := 16) (by kernel_rfl) rfl o73 (fun K hK => ?_)
          have hc75 := run_conv w73 w52.heap.size 1 (by rw [hr73x15]; rfl) (by decide) (by rw [hr73x15]; simp [allU8_cons, allU8_nil, hy1])
          rw [hr73x15, strOf1] at hc75
          go_simp
          refine hK _ _ ?_
          clear hK K
          refine wpTill_take (i := 17) (v := ?vq76) rfl (by kernel_rfl) (fun _ _ _ h => h) (Or.inl ⟨by rfl, ?hq76⟩) o73 ?rq76
          case hq76 => (intro W hW; (try dsimp only at hW); go_simp; try with_reducible rfl)
          simp only [Act.put, List.setIfInBounds_toArray, List.set_cons_zero, List.set_cons_succ, List.getElem_toArray, List.getElem_cons_succ, List.getElem_cons_zero]
          refine wpTill_run (i := 18) (by kernel_rfl) rfl o73 (fun K hK => ?_)
          go_simp
          refine hK _ _ ?_
          clear hK K
          refine wpTill_run (i := 19) (by kernel_rfl) rfl o73 (fun K hK => ?_)
          go_simp
          refine hK _ _ ?_
          clear hK K
          refine wpTill_done (by kernel_rfl) ?_
          have HOZ := Lib.hid o73
          go_wp2
          go_ret2
          exact ⟨by rw [← HE.out]; rfl, H2.out.be.trans (Below.mono HOZ.out H2.out.size)⟩
        · have hc77 := run_conv w71 w52.heap.size 1 (by rw [hr71x15]; rfl) (by decide) (by rw [hr71x15]; simp [allU8_cons, allU8_nil, hy1])
          rw [hr71x15, strOf1] at hc77
          go_simp
          refine hK _ _ ?_
          clear hK K
          refine wpTill_run (i := 11) (by kernel_rfl) rfl o71 (fun K hK => ?_)
          go_simp
          go_at_call 19
          with_reducible refine (Ke.out _).mono ?_
          rintro E w78 ⟨rfl, hb78⟩
          have o78 := G.on_step (wd := wz) o71 hb78
          refine hK _ _ ?_
          clear hK K
          refine wpTill_take (i := 12) (v := ?vq79) rfl (by kernel_rfl) (fun _ _ _ h => h) (Or.inl ⟨by rfl, ?hq79⟩) o78 ?rq79
          case hq79 => (intro W hW; (try dsimp only at hW); go_simp; try with_reducible rfl)
          simp only [Act.put, List.setIfInBounds_toArray, List.set_cons_zero, List.set_cons_succ, List.getElem_toArray, List.getElem_cons_succ, List.getElem_cons_zero]
          refine wpTill_take (i := 17) (v := ?vq80) rfl (by kernel_rfl) (fun _ _ _ h => h) (Or.inl ⟨by rfl, ?hq80⟩) o78 ?rq80
          case hq80 => (intro W hW; (try dsimp only at hW); go_simp; try with_reducible rfl)
          simp only [Act.put, List.setIfInBounds_toArray, List.set_cons_zero, List.set_cons_succ, List.getElem_toArray, List.getElem_cons_succ, List.getElem_cons_zero]
          refine wpTill_run (i := 18) (by kernel_rfl) rfl o78 (fun K hK => ?_)
          go_simp
          refine hK _ _ ?_
          clear hK K
          refine wpTill_run (i := 19) (by kernel_rfl) rfl o78 (fun K hK => ?_)
          go_simp
          refine hK _ _ ?_
          clear hK K
          refine wpTill_done (by kernel_rfl) ?_
          have HOZ := Lib.hid o78
          go_wp2
          go_ret2
          exact ⟨by rw [← HE.out]; rfl, H2.out.be.trans (Below.mono HOZ.out H2.out.size)⟩
      · have hc81 := run_conv (w52.alloc (.cells #[.int .u8 (y : Int)] 5)) w52.heap.size 1 (by rw [hr70]; rfl) (by decide) (by rw [hr70]; simp [allU8_cons, allU8_nil, hy1])
        rw [hr70, strOf1] at hc81
        go_simp
        refine hK _ _ ?_
        clear hK K
        refine wpTill_run (i := 7) (by kernel_rfl) rfl o70 (fun K hK => ?_)
        go_simp
        go_at_call 19
        with_reducible refine (Ki.out _).mono ?_
        rintro E w82 ⟨rfl, hb82⟩
        have o82 := G.on_step (wd := wz) o70 hb82
        refine hK _ _ ?_
        clear hK K
        refine wpTill_take (i := 8) (v := ?vq83) rfl (by kernel_rfl) (fun _ _ _ h => h) (Or.inl ⟨by rfl, ?hq83⟩) o82 ?rq83
        case hq83 => (intro W hW; (try dsimp only at hW); go_simp; try with_reducible rfl)
        simp only [Act.put, List.setIfInBounds_toArray, List.set_cons_zero, List.set_cons_succ, List.getElem_toArray, List.getElem_cons_succ, List.getElem_cons_zero]
        refine wpTill_run (i := 11) (by kernel_rfl) rfl o82 (fun K hK => ?_)
        go_simp
        go_at_call 19
        with_reducible refine (Ke.out _).mono ?_
        rintro E w84 ⟨rfl, hb84⟩
        have o84 := G.on_step (wd := wz) o82 hb84
        refine hK _ _ ?_
        clear hK K
        refine wpTill_take (i := 12) (v := ?vq85) rfl (by kernel_rfl) (fun _ _ _ h => h) (Or.inl ⟨by rfl, ?hq85⟩) o84 ?rq85
        case hq85 => (intro W hW; (try dsimp only at hW); go_simp; try with_reducible rfl)
        simp only [Act.put, List.setIfInBounds_toArray, List.set_cons_zero, List.set_cons_succ, List.getElem_toArray, List.getElem_cons_succ, List.getElem_cons_zero]
        refine wpTill_take (i := 17) (v := ?vq86) rfl (by kernel_rfl) (fun _ _ _ h => h) (Or.inl ⟨by rfl, ?hq86⟩) o84 ?rq86
        case hq86 => (intro W hW; (try dsimp only at hW); go_simp; try with_reducible rfl)
        simp only [Act.put, List.setIfInBounds_toArray, List.set_cons_zero, List.set_cons_succ, List.getElem_toArray, List.getElem_cons_succ, List.getElem_cons_zero]
        refine wpTill_run (i := 18) (by kernel_rfl) rfl o84 (fun K hK => ?_)
        go_simp
        refine hK _ _ ?_
        clear hK K
        refine wpTill_run (i := 19) (by kernel_rfl) rfl o84 (fun K hK => ?_)
        go_simp
        refine hK _ _ ?_
        clear hK K
        refine wpTill_done (by kernel_rfl) ?_
        have HOZ := Lib.hid o84
        go_wp2
        go_ret2
        exact ⟨by rw [← HE.out]; rfl, H2.out.be.trans (Below.mono HOZ.out H2.out.size)⟩
  · go_simp
    refine hK _ _ ?_
    clear hK K
    have o87 : G.On wz.heap.size wz (wz.alloc (.cells #[.int .u8 (y : Int)] 5)).drew := G.on_drewB (G.on_alloc o00)
    have hr87 : rowOf (wz.alloc (.cells #[.int .u8 (y : Int)] 5)).drew wz.heap.size = #[.int .u8 (y : Int)] := rowOf_cells (Cells.made wz _ _)
    have hl87 : wz.heap.size < (wz.alloc (.cells #[.int .u8 (y : Int)] 5)).drew.heap.size := Cells.lt (Cells.made wz 5 #[.int .u8 (y : Int)])
    refine wpTill_two (i := 3) (j := 16) (by kernel_rfl) rfl rfl o87 (fun K hK => ?_) (fun K hK => ?_)
    · go_simp
      go_at_call 19
      with_reducible refine (Ks.out _).mono ?_
      rintro E w88 ⟨rfl, hb88⟩
      have o88 := G.on_step (wd := wz) o87 hb88
      have hr88x15 : rowOf w88 wz.heap.size = #[.int .u8 (y : Int)] := by rw [keep_rowB hb88 hl87, hr87]
      have hl88x15 : wz.heap.size < w88.heap.size := Nat.lt_of_lt_of_le hl87 hb88.size
      refine hK _ _ ?_
      clear hK K
      refine wpTill_take (i := 4) (v := ?vq89) rfl (by kernel_rfl) (fun _ _ _ h => h) (Or.inl ⟨by rfl, ?hq89⟩) o88 ?rq89
      case hq89 => (intro W hW; (try dsimp only at hW); go_simp; try with_reducible rfl)
      simp only [Act.put, List.setIfInBounds_toArray, List.set_cons_zero, List.set_cons_succ, List.getElem_toArray, List.getElem_cons_succ, List.getElem_cons_zero]
      refine wpTill_two (i := 7) (j := 16) (by kernel_rfl) rfl rfl o88 (fun K hK => ?_) (fun K hK => ?_)
      · go_simp
        go_at_call 19
        with_reducible refine (Ki.out _).mono ?_
        rintro E w90 ⟨rfl, hb90⟩
        have o90 := G.on_step (wd := wz) o88 hb90
        have hr90x15 : rowOf w90 wz.heap.size = #[.int .u8 (y : Int)] := by rw [keep_rowB hb90 hl88x15, hr88x15]
        have hl90x15 : wz.heap.size < w90.heap.size := Nat.lt_of_lt_of_le hl88x15 hb90.size
        refine hK _ _ ?_
        clear hK K
        refine wpTill_take (i := 8) (v := ?vq91) rfl (by kernel_rfl) (fun _ _ _ h => h) (Or.inl ⟨by rfl, ?hq91⟩) o90 ?rq91
        case hq91 => (intro W hW; (try dsimp only at hW); go_simp; try with_reducible rfl)
        simp only [Act.put, List.setIfInBounds_toArray, List.set_cons_zero, List.set_cons_succ, List.getElem_toArray, List.getElem_cons_succ, List.getElem_cons_zero]
        refine wpTill_two (i := 11) (j := 16) (by kernel_rfl) rfl rfl o90 (fun K hK => ?_) (fun K hK => ?_)
        · go_simp
          go_at_call 19
          with_reducible refine (Ke.out _).mono ?_
          rintro E w92 ⟨rfl, hb92⟩
          have o92 := G.on_step (wd := wz) o90 hb92
          have hr92x15 : rowOf w92 wz.heap.size = #[.int .u8 (y : Int)] := by rw [keep_rowB hb92 hl90x15, hr90x15]
          have hl92x15 : wz.heap.size < w92.heap.size := Nat.lt_of_lt_of_le hl90x15 hb92.size
          refine hK _ _ ?_
          clear hK K
          refine wpTill_take (i := 12) (v := ?vq93) rfl (by kernel_rfl) (fun _ _ _ h => h) (Or.inl ⟨by rfl, ?hq93⟩) o92 ?rq93
          case hq93 => (intro W hW; (try dsimp only at hW); go_simp; try with_reducible rfl)
          simp only [Act.put, List.setIfInBounds_toArray, List.set_cons_zero, List.set_cons_succ, List.getElem_toArray, List.getElem_cons_succ, List.getElem_cons_zero]
          refine wpTill_run (i := 16) (by kernel_rfl) rfl o92 (fun K hK => ?_)
          have hc94 := run_conv w92 wz.heap.size 1 (by rw [hr92x15]; rfl) (by decide) (by rw [hr92x15]; simp [allU8_cons, allU8_nil, hy1])
          rw [hr92x15, strOf1] at hc94
          go_simp
          refine hK _ _ ?_
          clear hK K
          refine wpTill_take (i := 17) (v := ?vq95) rfl (by kernel_rfl) (fun _ _ _ h => h) (Or.inl ⟨by rfl, ?hq95⟩) o92 ?rq95
          case hq95 => (intro W hW; (try dsimp only at hW); go_simp; try with_reducible rfl)
          simp only [Act.put, List.setIfInBounds_toArray, List.set_cons_zero, List.set_cons_succ, List.getElem_toArray, List.getElem_cons_succ, List.getElem_cons_zero]
          refine wpTill_run (i := 18) (by kernel_rfl) rfl o92 (fun K hK => ?_)
          go_simp
          refine hK _ _ ?_
          clear hK K
          refine wpTill_run (i := 19) (by kernel_rfl) rfl o92 (fun K hK => ?_)
          go_simp
          refine hK _ _ ?_
          clear hK K
          refine wpTill_done (by kernel_rfl) ?_
          have HOZ := Lib.hid o92
          go_wp2
          go_ret2
          exact ⟨by rw [← HE.out]; rfl, H2.out.be.trans (Below.mono HOZ.out H2.out.size)⟩
        · have hc96 := run_conv w90 wz.heap.size 1 (by rw [hr90x15]; rfl) (by decide) (by rw [hr90x15]; simp [allU8_cons, allU8_nil, hy1])
          rw [hr90x15, strOf1] at hc96
          go_simp
          refine hK _ _ ?_
          clear hK K
          refine wpTill_run (i := 11) (by kernel_rfl) rfl o90 (fun K hK => ?_)
          go_simp
          go_at_call 19
          with_reducible refine (Ke.out _).mono ?_
          rintro E w97 ⟨rfl, hb97⟩
          have o97 := G.on_step (wd := wz) o90 hb97
          refine hK _ _ ?_
          clear hK K
          refine wpTill_take (i := 12) (v := ?vq98) rfl (by kernel_rfl) (fun _ _ _ h => h) (Or.inl ⟨by rfl, ?hq98⟩) o97 ?rq98
          case hq98 => (intro W hW; (try dsimp only at hW); go_simp; try with_reducible rfl)
          simp only [Act.put, List.setIfInBounds_toArray, List.set_cons_zero, List.set_cons_succ, List.getElem_toArray, List.getElem_cons_succ, List.getElem_cons_zero]
          refine wpTill_take (i := 17) (v := ?vq99) rfl (by kernel_rfl) (fun _ _ _ h => h) (Or.inl ⟨by rfl, ?hq99⟩) o97 ?rq99
          case hq99 => (intro W hW; (try dsimp only at hW); go_simp; try with_reducible rfl)
          simp only [Act.put, List.setIfInBounds_toArray, List.set_cons_zero, List.set_cons_succ, List.getElem_toArray, List.getElem_cons_succ, List.getElem_cons_zero]
          refine wpTill_run (i := 18) (by kernel_rfl) rfl o97 (fun K hK => ?_)
          go_simp
          refine hK _ _ ?_
          clear hK K
          refine wpTill_run (i := 19) (by kernel_rfl) rfl o97 (fun K hK => ?_)
          go_simp
          refine hK _ _ ?_
          clear hK K
          refine wpTill_done (by kernel_rfl) ?_
          have HOZ := Lib.hid o97
          go_wp2
          go_ret2
          exact ⟨by rw [← HE.out]; rfl, H2.out.be.trans (Below.mono HOZ.out H2.out.size)⟩
      · have hc100 := run_conv w88 wz.heap.size 1 (by rw [hr88x15]; rfl) (by decide) (by rw [hr88x15]; simp [allU8_cons, allU8_nil, hy1])
        rw [hr88x15, strOf1] at hc100
        go_simp
        refine hK _ _ ?_
        clear hK K
        refine wpTill_run (i := 7) (by kernel_rfl) rfl o88 (fun K hK => ?_)
        go_simp
        go_at_call 19
        with_reducible refine (Ki.out _).mono ?_
        rintro E w101 ⟨rfl, hb101⟩
        have o101 := G.on_step (wd := wz) o88 hb101
        refine hK _ _ ?_
        clear hK K
        refine wpTill_take (i := 8) (v := ?vq102) rfl (by kernel_rfl) (fun _ _ _ h => h) (Or.inl ⟨by rfl, ?hq102⟩) o101 ?rq102
        case hq102 => (intro W hW; (try dsimp only at hW); go_simp; try with_reducible rfl)
        simp only [Act.put, List.setIfInBounds_toArray, List.set_cons_zero, List.set_cons_succ, List.getElem_toArray, List.getElem_cons_succ, List.getElem_cons_zero]
        refine wpTill_run (i := 11) (by kernel_rfl) rfl o101 (fun K hK => ?_)
        go_simp
        go_at_call 19
        with_reducible refine (Ke.out _).mono ?_
        rintro E w103 ⟨rfl, hb103⟩
        have o103 := G.on_step (wd := wz) o101 hb103
        refine hK _ _ ?_
        clear hK K
        refine wpTill_take (i := 12) (v := ?vq104) rfl (by kernel_rfl) (fun _ _ _ h => h) (Or.inl ⟨by rfl, ?hq104⟩) o103 ?rq104
        case hq104 => (intro W hW; (try dsimp only at hW); go_simp; try with_reducible rfl)
        simp only [Act.put, List.setIfInBounds_toArray, List.set_cons_zero, List.set_cons_succ, List.getElem_toArray, List.getElem_cons_succ, List.getElem_cons_zero]
        refine wpTill_take (i := 17) (v := ?vq105) rfl (by kernel_rfl) (fun _ _ _ h => h) (Or.inl ⟨by rfl, ?hq105⟩) o103 ?rq105
        case hq105 => (intro W hW; (try dsimp only at hW); go_simp; try with_reducible rfl)
        simp only [Act.put, List.setIfInBounds_toArray, List.set_cons_zero, List.set_cons_succ, List.getElem_toArray, List.getElem_cons_succ, List.getElem_cons_zero]
        refine wpTill_run (i := 18) (by kernel_rfl) rfl o103 (fun K hK => ?_)
        go_simp
        refine hK _ _ ?_
        clear hK K
        refine wpTill_run (i := 19) (by kernel_rfl) rfl o103 (fun K hK => ?_)
        go_simp
        refine hK _ _ ?_
        clear hK K
        refine wpTill_done (by kernel_rfl) ?_
        have HOZ := Lib.hid o103
        go_wp2
        go_ret2
        exact ⟨by rw [← HE.out]; rfl, H2.out.be.trans (Below.mono HOZ.out H2.out.size)⟩
    · have hc106 := run_conv (wz.alloc (.cells #[.int .u8 (y : Int)] 5)).drew wz.heap.size 1 (by rw [hr87]; rfl) (by decide) (by rw [hr87]; simp [allU8_cons, allU8_nil, hy1])
      rw [hr87, strOf1] at hc106
      go_simp
      refine hK _ _ ?_
      clear hK K
      refine wpTill_run (i := 3) (by kernel_rfl) rfl o87 (fun K hK => ?_)
      go_simp
      go_at_call 19
      with_reducible refine (Ks.out _).mono ?_
      rintro E w107 ⟨rfl, hb107⟩
      have o107 := G.on_step (wd := wz) o87 hb107
      refine hK _ _ ?_
      clear hK K
      refine wpTill_take (i := 4) (v := ?vq108) rfl (by kernel_rfl) (fun _ _ _ h => h) (Or.inl ⟨by rfl, ?hq108⟩) o107 ?rq108
      case hq108 => (intro W hW; (try dsimp only at hW); go_simp; try with_reducible rfl)
      simp only [Act.put, List.setIfInBounds_toArray, List.set_cons_zero, List.set_cons_succ, List.getElem_toArray, List.getElem_cons_succ, List.getElem_cons_zero]
      refine wpTill_run (i := 7) (by kernel_rfl) rfl o107 (fun K hK => ?_)
      go_simp
      go_at_call 19
      with_reducible refine (Ki.out _).mono ?_
      rintro E w109 ⟨rfl, hb109⟩
      have o109 := G.on_step (wd := wz) o107 hb109
      refine hK _ _ ?_
      clear hK K
      refine wpTill_take (i := 8) (v := ?vq110) rfl (by kernel_rfl) (fun _ _ _ h => h) (Or.inl ⟨by rfl, ?hq110⟩) o109 ?rq110
      case hq110 => (intro W hW; (try dsimp only at hW); go_simp; try with_reducible rfl)
      simp only [Act.put, List.setIfInBounds_toArray, List.set_cons_zero, List.set_cons_succ, List.getElem_toArray, List.getElem_cons_succ, List.getElem_cons_zero]
      refine wpTill_run (i := 11) (by kernel_rfl) rfl o109 (fun K hK => ?_)
      go_simp
      go_at_call 19
      with_reducible refine (Ke.out _).mono ?_
      rintro E w111 ⟨rfl, hb111⟩
      have o111 := G.on_step (wd := wz) o109 hb111
      refine hK _ _ ?_
      clear hK K
      refine wpTill_take (i := 12) (v := ?vq112) rfl (by kernel_rfl) (fun _ _ _ h => h) (Or.inl ⟨by rfl, ?hq112⟩) o111 ?rq112
      case hq112 => (intro W hW; (try dsimp only at hW); go_simp; try with_reducible rfl)
      simp only [Act.put, List.setIfInBounds_toArray, List.set_cons_zero, List.set_cons_succ, List.getElem_toArray, List.getElem_cons_succ, List.getElem_cons_zero]
      refine wpTill_take (i := 17) (v := ?vq113) rfl (by kernel_rfl) (fun _ _ _ h => h) (Or.inl ⟨by rfl, ?hq113⟩) o111 ?rq113
      case hq113 => (intro W hW; (try dsimp only at hW); go_simp; try with_reducible rfl)
      simp only [Act.put, List.setIfInBounds_toArray, List.set_cons_zero, List.set_cons_succ, List.getElem_toArray, List.getElem_cons_succ, List.getElem_cons_zero]
      refine wpTill_run (i := 18) (by kernel_rfl) rfl o111 (fun K hK => ?_)
      go_simp
      refine hK _ _ ?_
      clear hK K
      refine wpTill_run (i := 19) (by kernel_rfl) rfl o111 (fun K hK => ?_)
      go_simp
      refine hK _ _ ?_
      clear hK K
      refine wpTill_done (by kernel_rfl) ?_
      have HOZ := Lib.hid o111
      go_wp2
      go_ret2
      exact ⟨by rw [← HE.out]; rfl, H2.out.be.trans (Below.mono HOZ.out H2.out.size)⟩
end Go.Proofs.Ytjifpojhbpjffaa
