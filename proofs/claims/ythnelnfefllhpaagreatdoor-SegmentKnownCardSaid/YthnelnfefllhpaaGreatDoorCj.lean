/- Begin at a power that is none: nil. -/
import Derived.Test.YthnelnfefllhpaaGreatDoorCz
namespace Go.Proofs.YthnelnfefllhpaaGreatDoor
open Go.RowKit
set_option linter.unusedVariables false
set_option linter.unusedSimpArgs false
set_option maxRecDepth 20000

theorem swrite_nil (fv : Value) (w : World) : Calls Tryz.prog 34 #[.pointer none, fv] w fun R w' => R = .returned (.int .i64 1) ∧ w = w' := by
  go_enter Tryz.func34, Tryz.ntmps34
  go_wp2_with fail
  refine (pcheck_nil w).mono ?_
  rintro R w1 ⟨rfl, rfl⟩
  go_wp2
  go_ret
  exact ⟨rfl, rfl⟩
theorem screate_nil (n : List UInt8) (w : World) : Calls Tryz.prog 28 #[.pointer none, .string (str n)] w fun R w' => R = .returned (.int .i64 1) ∧ Below w.heap.size w w' := by
  have hmf : ∀ (fn : Fn) (first cap : Array Value) (w : World), (Instr.makeFunc fn first cap).run Tryz.prog w = .ok (.func fn first cap) w := fun _ _ _ _ => rfl
  have A := Lib.hid (below_alloc w (.cells #[.string (str n)] 9))
  go_enter Tryz.func28, Tryz.ntmps28
  go_wp2_with fail
  refine (swrite_nil _ _).mono ?_
  rintro R w1 ⟨rfl, rfl⟩
  go_wp2
  go_ret
  exact ⟨rfl, A.out⟩
theorem begin1_nil (bp bf : Nat) (m : List UInt8) (w : World) (c1 : w.cell? ⟨bp, 0, none⟩ = some (.pointer none)) (c2 : w.cell? ⟨bf, 0, none⟩ = some (.string (str m))) :
    Calls Tryz.prog 27 #[.pointer (some ⟨bp, 0, none⟩), .pointer (some ⟨bf, 0, none⟩)] w fun R w' => R = .returned (.int .i64 1) ∧ Below w.heap.size w w' := by
  go_enter Tryz.func27, Tryz.ntmps27
  go_wp2_with fail
  refine (screate_nil m w).mono ?_
  rintro R w1 ⟨rfl, hb⟩
  have HB := Lib.hid hb
  clear hb
  go_wp2
  go_ret
  exact ⟨rfl, HB.out⟩
set_option maxHeartbeats 1000000 in
theorem inturn_nil (bp bf gs : Nat) (f2 f3 : Value) (m : List UInt8) (w : World) (c1 : w.cell? ⟨bp, 0, none⟩ = some (.pointer none)) (c2 : w.cell? ⟨bf, 0, none⟩ = some (.string (str m)))
    (c3 : Cells w gs 84 #[.func (.func 27) #[] #[.pointer (some ⟨bp, 0, none⟩), .pointer (some ⟨bf, 0, none⟩)], f2, f3]) :
    Calls Tryz.prog 26 #[.slice (some ⟨gs, 0, none⟩) 3 3] w fun R w' => R = .returned (.int .i64 1) ∧ Below w.heap.size w w' := by
  have HC := Lib.hid (begin1_nil bp bf m w c1 c2)
  have C3 := Lib.hid c3
  obtain ⟨Q, hQ⟩ : ∃ Q : Ending → World → Prop, Q = fun R w' => R = .returned (.int .i64 1) ∧ Below w.heap.size w w' := ⟨_, rfl⟩
  rw [← hQ]
  have HQ := Lib.hid hQ
  clear c1 c2 c3 hQ
  go_enter Tryz.func26, Tryz.ntmps26
  go_wp2
  go_loopw [8] (fun iv wr => iv = .int .i64 0 ∧ wr = w) (fun iv _ => 3 - (intOf iv).toNat)
  case atStart => exact ⟨rfl, rfl⟩
  case round =>
    obtain ⟨rfl, rfl⟩ := hrel
    have c1 := C3.out.cell 0
    have hin := @enters Tryz.prog 27 _ _ Tryz.func27 (by kernel_rfl) rfl
    simp only [List.getElem?_toArray, List.getElem?_cons_zero, List.getElem?_cons_succ] at c1
    go_wp2_with fail
    refine HC.out.mono ?_
    rintro R w1 ⟨rfl, hb⟩
    have HB := Lib.hid hb
    clear hb c1 hin
    go_wp2
    rw [HQ.out]
    exact ⟨rfl, HB.out⟩
attribute [local go_sem ↓] ld_rec st_rec ld_u64 st_st16
set_option maxHeartbeats 4000000 in
theorem sbegin_nil (h : Rc) (w : World) (hf : h.fit) (h1 : wok h [] = true) (ht : Tab w) :
    Calls Tryz.prog 9 #[.pointer none, .agg (rcs h), .slice none 0 0] w fun R w' => R = .returned (.int .i64 1) ∧ Below w.heap.size w w' := by
  have hmf : ∀ (fn : Fn) (first cap : Array Value) (w : World), (Instr.makeFunc fn first cap).run Tryz.prog w = .ok (.func fn first cap) w := fun _ _ _ _ => rfl
  have HT := Lib.hid ht
  have HF := Lib.hid hf
  have H0 := Lib.hid (Loc.two w 35 43 #[.pointer none] (rcs h))
  have HB : Hid (wA h [] = bys [h] ∧ wE h [] = 0) := ⟨if_pos h1, if_pos h1⟩
  clear ht hf h1
  go_enter Tryz.func9, Tryz.ntmps9
  go_upto_region 1 with fail
  generalize (w.alloc (.cells #[.pointer none] 35)).alloc (.cells (rcs h) 43) = wa at *
  have l0 := H0.out.ldA ty_rec 1 rfl 0 (vs := rcs h) (by simp [rcs]) (Nat.le_of_ble_eq_true rfl)
  go_wp2_with fail
  refine (whole_c h [] none 0 _ HF.out (fun r hr => by cases hr) (by simp) (RcsAt.nil _ _) (tab_b HT.out HT.out.1 H0.out.be)).mono ?_
  rintro E w1 ⟨rfl, hb1⟩
  rw [HB.out.1, HB.out.2]
  have h1 := H0.out.to hb1
  obtain ⟨g5, w5, z5, s5, h5, q5⟩ := h1.newO ty_st16 (.string ⟨#[]⟩) (.string (str (bys [h]))) rfl rfl
  have H5 : Hid (Loc w.heap.size w w5 [(w.heap.size, 35, #[.pointer none]), (w.heap.size + 1, 43, rcs h), (g5, 9, #[.string (str (bys [h]))])]) := h5
  clear hb1 l0 H0 h1 h5 q5
  have l5 := H5.out.ldO ty_u64 1 rfl 5 (v := .int .u64 (h.s : Int)) rfl
  go_wp2_with fail
  clear s5 z5 l5
  refine (seg_c h.s _ HF.out.s).mono ?_
  rintro E w6 ⟨rfl, hb6⟩
  have h6 := H5.out.to hb6
  obtain ⟨g7, w7, z7, s7, h7, q7⟩ := h6.newO ty_st16 (.string ⟨#[]⟩) (.string (str (115 :: hex h.s))) rfl rfl
  have H7 : Hid (Loc w.heap.size w w7 [(w.heap.size, 35, #[.pointer none]), (w.heap.size + 1, 43, rcs h), (g5, 9, #[.string (str (bys [h]))]), (g7, 9, #[.string (str (sgn h.s))])]) := h7
  clear hb6 h6 h7 q7 H5
  have HC8 := Lib.hid (Cells.made w7 84 #[.func (.func 27) #[] #[.pointer (some ⟨w.heap.size, 0, none⟩), .pointer (some ⟨g7, 0, none⟩)], .func (.func 29) #[] #[.pointer (some ⟨w.heap.size, 0, none⟩), .pointer (some ⟨g7, 0, none⟩), .pointer (some ⟨g5, 0, none⟩)], .func (.func 31) #[] #[.pointer (some ⟨w.heap.size, 0, none⟩), .pointer (some ⟨g7, 0, none⟩)]])
  have HW8 := Lib.hid (below_alloc w7 (.cells #[.func (.func 27) #[] #[.pointer (some ⟨w.heap.size, 0, none⟩), .pointer (some ⟨g7, 0, none⟩)], .func (.func 29) #[] #[.pointer (some ⟨w.heap.size, 0, none⟩), .pointer (some ⟨g7, 0, none⟩), .pointer (some ⟨g5, 0, none⟩)], .func (.func 31) #[] #[.pointer (some ⟨w.heap.size, 0, none⟩), .pointer (some ⟨g7, 0, none⟩)]] 84))
  go_wp2_with fail
  clear s7 z7
  have h8 := H7.out.to HW8.out
  refine (inturn_nil w.heap.size g7 w7.heap.size _ _ (sgn h.s) _ ((h8.get 0 rfl).cell 0) ((h8.get 3 rfl).cell 0) HC8.out).mono ?_
  rintro E w9 ⟨rfl, hb9⟩
  have HB9 := Lib.hid (h8.be.trans (hb9.mono h8.be.size))
  clear hb9 h8 hmf
  go_wp2
  go_ret
  exact ⟨rfl, HB9.out⟩
end Go.Proofs.YthnelnfefllhpaaGreatDoor
