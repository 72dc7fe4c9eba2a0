/- The document's Same; Copy. -/
import Derived.Test.YtecchaogpcpooaaEg
namespace Go.Proofs.Ytecchaogpcpooaa
open Go.RowKit Go.Shelf Go.Deep
set_option linter.unusedVariables false
set_option linter.unusedSimpArgs false
set_option maxRecDepth 100000

/-- Two lists of the same names. -/
theorem rsame_c {w : World} {B C : Nat} {va vb : Value} {l : List (List UInt8)} (ha : Lst w B va l) (hb : Lst w C vb l) (hl : l.length ≤ 1000) :
    Calls Try.prog 40 #[va, vb] w fun R w' => R = .returned (.bool true) ∧ Below w.heap.size w w' := by
  obtain ⟨ao, ac, rfl⟩ := ha.sl
  obtain ⟨bo, bc, rfl⟩ := hb.sl
  have HA := Lib.hid ha
  have HB := Lib.hid hb
  clear ha hb
  go_enter Try.func40, Try.ntmps40
  go_wp2
  go_loopw [5] (fun i wr => ∃ k : Nat, k ≤ l.length ∧ i = .int .i64 k ∧ Hid (Below w.heap.size w wr)) (fun i _ => l.length - (intOf i).toNat)
  case atStart => exact ⟨0, Nat.zero_le _, rfl, Below.refl _ _⟩
  case round =>
    obtain ⟨k, hk, rfl, HW⟩ := hrel
    by_cases hlt : k < l.length
    · have i2 : (k : Int) < (l.length : Int) := by omega
      obtain ⟨ga, ca, ea, xa⟩ := (HA.out.new HW.out).at hlt
      obtain ⟨gb, cb, eb, xb⟩ := (HB.out.new HW.out).at hlt
      injection ea with ea1 ea2 ea3
      injection eb with eb1 eb2 eb3
      subst ea1 eb1
      rw [Nat.zero_add] at xa xb
      have q1 := str_yes2 (l[k]'hlt)
      clear ea2 ea3 eb2 eb3
      generalize l[k]'hlt = n at *
      go_upto_region 6 with fail
      go_quiet (fail)
      have HW2 := Lib.hid (HW.out.trans ((below_drewN (Below.refl wr.heap.size wr) nq).mono HW.out.size))
      clear xa xb
      generalize wr.drewN nq = wx at *
      go_wp2
      go_round
      case rel => exact ⟨k + 1, by omega, by go_num, HW2.out⟩
      case measure => simp [intOf]; omega
    · have hx : k = l.length := by omega
      have i2 : ¬ (k : Int) < (l.length : Int) := by omega
      have HX := Lib.hid hx
      clear hx hlt hk
      go_wp2
      go_ret
      exact ⟨rfl, HW.out⟩
section
variable {S : Nat → Prop} {w : World} {g q cap : Nat} {ao : Option Addr} {E : List Ent}
theorem RkC.src (h : RkC S w g q ao cap E) : SrcF w ao cap E := by
  rcases h.row.cases with ⟨rfl, rfl, rfl⟩ | ⟨gr, rfl⟩
  · exact ⟨rfl, rfl⟩
  · have := h.row.head cap E.length
    rw [List.take_length] at this
    exact this
/-- An append whose run is known, at a step of a drawn region. -/
theorem step_app {P : Program} {w w' : World} {ops : Array Oper} {o : Oper} {a : Act} {K : Act → World → Prop} {Q : Exit → Act → World → Prop} {X : Prop} (hgd : o.guard = none) (sl x : Operand) (t u ty : TypeId)
    (ho : o.op = .call { callee := .builtin .append, args := #[sl, x], argTypes := #[t, u] }) (hty : o.type = ty) (v y r : Value) (hs : a.eval sl = v) (hx : a.eval x = y) (hr : (Builtin.append_ #[t, u] ty #[v, y]).run P w = .ok r w')
    (h : K (a.put o.dst r) w') : if Region.wanted o (yielded ops a.tmps) = true then Oper.wp P o a w K Q else X := by
  subst hty
  have hw : Region.wanted o (yielded ops a.tmps) = true := by simp [Region.wanted, hgd]
  rw [if_pos hw]
  unfold Oper.wp execOp
  simp only [ho, resolve, invoke, builtin, Sem.run_bind, Sem.run_pure, Result.andThen_ok, List.map_toArray, List.map_cons, List.map_nil, hs, hx, hr]
  exact h
set_option maxHeartbeats 1000000 in
theorem rcopy_c (h : RkC S w g q ao cap E) : Calls Try.prog 36 #[.pointer (some ⟨g, 0, none⟩)] w fun R w' => ∃ v, R = .returned v ∧ RkS (fun x => w.heap.size ≤ x) w' v q E ∧ Below w.heap.size w w' := by
  have HK := Lib.hid h
  have c0 := h.c0
  have hel := h.good.len
  have HAL := Lib.hid (below_alloc w (.cells #[.int .i64 (q : Int), .slice none 0 0] 62))
  have HCB := Lib.hid (Cells.made w 62 #[.int .i64 (q : Int), .slice none 0 0])
  clear h
  go_enter Try.func36, Try.ntmps36
  go_upto_region 4 with fail
  generalize hwb : w.alloc (.cells #[.int .i64 (q : Int), .slice none 0 0] 62) = wb at *
  have hkb := (HK.out.new HAL.out)
  have HB0 : Hid (Below w.heap.size w wb.drew) := HAL.out.drew
  have HCD : Hid (Cells wb.drew w.heap.size 62 #[.int .i64 (q : Int), .slice none 0 0]) := HCB.out.drew
  have hkd := hkb.tu (S' := fun _ => False) (Tu.refl _ _).draw (fun _ _ _ h => h)
  obtain ⟨ao2, cap2, w2, hr, hf, hg⟩ := app_fs (FRow.nil w.heap.size wb.drew) (show E.length = E.length from rfl) (show ([] : List Ent).length + E.length = E.length by simp) hkd.src (by omega) HB0.out.size 60
  rw [List.nil_append] at hf
  have hb2 := (Tu.fresh (S := fun _ => False) hg).below (B := wb.drew.heap.size) (fun _ _ h => h) (Nat.le_refl _)
  have hbx := HCD.out.below hb2 HCD.out.lt
  have HC2 := Lib.hid hbx
  have hf2 := hbx.frozen 1
  have x1 : w2.cell? ⟨w.heap.size, 1, none⟩ = some (.slice none 0 0) := by rw [hbx.cell]; rfl
  have y1 : wb.cell? ⟨w.heap.size, 1, none⟩ = some (.slice none 0 0) := by rw [HCB.out.cell]; rfl
  have c1 := hkb.c1
  have c2 := (hkd.new hb2).c1
  have HR := Lib.hid hr
  have HF := Lib.hid hf
  have HB2 := Lib.hid (HB0.out.trans (hb2.mono HB0.out.size))
  clear hr hf hg hb2 hbx hkb hkd c0 hwb
  refine wp_region_till (S := fun w' => w' = wb.drew ∨ w' = w2) (by kernel_rfl) ?_
  refine wpTill_take (i := 0) (v := ?va0) rfl (by kernel_rfl) (fun _ _ _ h => h) (Or.inl ⟨by rfl, ?hya0⟩) (.inl rfl) ?resta0
  case hya0 => (intro W hW; rcases hW with rfl | rfl <;> (go_simp; try with_reducible rfl))
  simp only [Act.put, List.setIfInBounds_toArray, List.set_cons_zero, List.set_cons_succ]
  refine wpTill_take (i := 1) (v := ?va1) rfl (by kernel_rfl) (fun _ _ _ h => h) (Or.inl ⟨by rfl, ?hya1⟩) (.inl rfl) ?resta1
  case hya1 => (intro W hW; rcases hW with rfl | rfl <;> (go_simp; try with_reducible rfl))
  simp only [Act.put, List.setIfInBounds_toArray, List.set_cons_zero, List.set_cons_succ]
  refine wpTill_take (i := 2) (v := ?va2) rfl (by kernel_rfl) (fun _ _ _ h => h) (Or.inl ⟨by rfl, ?hya2⟩) (.inl rfl) ?resta2
  case hya2 => (intro W hW; rcases hW with rfl | rfl <;> (go_simp; try with_reducible rfl))
  simp only [Act.put, List.setIfInBounds_toArray, List.set_cons_zero, List.set_cons_succ]
  refine wpTill_take (i := 3) (v := ?va3) rfl (by kernel_rfl) (fun _ _ _ h => h) (Or.inl ⟨by rfl, ?hya3⟩) (.inl rfl) ?resta3
  case hya3 => (intro W hW; rcases hW with rfl | rfl <;> (go_simp; try with_reducible rfl))
  simp only [Act.put, List.setIfInBounds_toArray, List.set_cons_zero, List.set_cons_succ]
  refine wpTill_take (i := 4) (v := ?va4) rfl (by kernel_rfl) (fun _ _ _ h => h) (Or.inl ⟨by rfl, ?hya4⟩) (.inl rfl) ?resta4
  case hya4 => (intro W hW; rcases hW with rfl | rfl <;> (go_simp; try with_reducible rfl))
  simp only [Act.put, List.setIfInBounds_toArray, List.set_cons_zero, List.set_cons_succ]
  refine wpTill_take (i := 5) (v := ?va5) rfl (by kernel_rfl) (fun _ _ _ h => h) (Or.inl ⟨by rfl, ?hya5⟩) (.inl rfl) ?resta5
  case hya5 => (intro W hW; rcases hW with rfl | rfl <;> (go_simp; try with_reducible rfl))
  simp only [Act.put, List.setIfInBounds_toArray, List.set_cons_zero, List.set_cons_succ]
  refine wpTill_take (i := 6) (v := ?va6) rfl (by kernel_rfl) (fun _ _ _ h => h) (Or.inl ⟨by rfl, ?hya6⟩) (.inl rfl) ?resta6
  case hya6 => (intro W hW; rcases hW with rfl | rfl <;> (go_simp; try with_reducible rfl))
  simp only [Act.put, List.setIfInBounds_toArray, List.set_cons_zero, List.set_cons_succ]
  refine wpTill_take (i := 7) (v := ?va7) rfl (by kernel_rfl) (fun _ _ _ h => h) (Or.inl ⟨by rfl, ?hya7⟩) (.inl rfl) ?resta7
  case hya7 => (intro W hW; rcases hW with rfl | rfl <;> (go_simp; try with_reducible rfl))
  simp only [Act.put, List.setIfInBounds_toArray, List.set_cons_zero, List.set_cons_succ]
  refine wpTill_take (i := 8) (v := ?va8) rfl (by kernel_rfl) (fun _ _ _ h => h) (Or.inl ⟨by rfl, ?hya8⟩) (.inl rfl) ?resta8
  case hya8 => (intro W hW; rcases hW with rfl | rfl <;> (go_simp; try with_reducible rfl))
  simp only [Act.put, List.setIfInBounds_toArray, List.set_cons_zero, List.set_cons_succ]
  refine wpTill_run (i := 9) (by kernel_rfl) rfl (.inl rfl) (fun K hK => ?_)
  simp only [Act.put, List.setIfInBounds_toArray, List.set_cons_zero, List.set_cons_succ, List.getElem_toArray, List.getElem_cons_succ, List.getElem_cons_zero]
  refine step_app (v := .slice none 0 0) (y := .slice ao E.length cap) (r := .slice ao2 E.length cap2) (w' := w2) (sl := .tmp 16) (x := .tmp 20) (t := 60) (u := 60) (ty := 60) (o := { dst := some 21, op := .call { callee := .builtin .append, args := #[.tmp 16, .tmp 20], argTypes := #[60, 60] }, type := 60, pos := "ref.go:242", after := #[{ on := 4, ground := Ground.data }, { on := 8, ground := Ground.data }], guard := none }) ?p1 ?p2 ?p3 ?p4 ?p5 ?p6 ?p7
  case p1 => rfl
  case p2 => rfl
  case p3 => rfl
  case p4 => rfl
  case p5 => rfl
  case p6 => exact HR.out
  refine hK _ _ ?_
  clear hK K
  refine wpTill_take (i := 10) (v := ?vb10) rfl (by kernel_rfl) (fun _ _ _ h => h) (Or.inl ⟨by rfl, ?hyb10⟩) (.inr rfl) ?restb10
  case hyb10 => (intro W hW; rcases hW with rfl | rfl <;> (go_simp; try with_reducible rfl))
  simp only [Act.put, List.setIfInBounds_toArray, List.set_cons_zero, List.set_cons_succ]
  refine wpTill_take (i := 11) (v := ?vb11) rfl (by kernel_rfl) (fun _ _ _ h => h) (Or.inl ⟨by rfl, ?hyb11⟩) (.inr rfl) ?restb11
  case hyb11 => (intro W hW; rcases hW with rfl | rfl <;> (go_simp; try with_reducible rfl))
  simp only [Act.put, List.setIfInBounds_toArray, List.set_cons_zero, List.set_cons_succ]
  refine wpTill_run (i := 12) (by kernel_rfl) rfl (.inr rfl) (fun K hK => ?_)
  go_simp
  refine hK _ _ ?_
  clear hK K
  refine wpTill_done (by kernel_rfl) ?_
  go_wp2
  go_ret
  refine ⟨_, rfl, ⟨_, ao2, cap2, rfl, ?_, ?_, Nat.le_refl _, fun x hx => (HF.out.lt x hx).1, HK.out.good⟩, ?_⟩
  · exact HC2.out.set 1 (.slice ao2 E.length cap2)
  · exact ownsRow_base_a (HF.out.tu (Tu.grown (grown_set w2 w.heap.size 1 _)) (fun x hx e => row_unlike HF.out HC2.out (by decide) (hx.trans e))) (Nat.zero_le _)
  · exact HB2.out.setCell (p := ⟨w.heap.size, 1, none⟩) (Nat.le_refl _) _
end
end Go.Proofs.Ytecchaogpcpooaa
