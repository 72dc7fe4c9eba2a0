/- A power that is none: Load, Write and the statements' fails. -/
import Derived.Test.YtacgmadgkmcmoaaGreatDoorJk
namespace Go.Proofs.YtacgmadgkmcmoaaGreatDoor
open Go.RowKit
set_option linter.unusedVariables false
set_option linter.unusedSimpArgs false
set_option maxRecDepth 20000

theorem swrite_nil (fv : Value) (w : World) : Calls Tryz.prog 97 #[.pointer none, fv] w fun R w' => R = .returned (.int .i64 1) ∧ w = w' := by
  go_enter Tryz.func97, Tryz.ntmps97
  go_wp2_with fail
  refine (pcheck_nil w).mono ?_
  rintro R w1 ⟨rfl, rfl⟩
  go_wp2
  go_ret
  exact ⟨rfl, rfl⟩
theorem screate_nil (n : List UInt8) (w : World) : Calls Tryz.prog 51 #[.pointer none, .string (str n)] w fun R w' => R = .returned (.int .i64 1) ∧ Below w.heap.size w w' := by
  have hmf : ∀ (fn : Fn) (first cap : Array Value) (w : World), (Instr.makeFunc fn first cap).run Tryz.prog w = .ok (.func fn first cap) w := fun _ _ _ _ => rfl
  have A := Lib.hid (below_alloc w (.cells #[.string (str n)] 9))
  go_enter Tryz.func51, Tryz.ntmps51
  go_wp2_with fail
  refine (swrite_nil _ _).mono ?_
  rintro R w1 ⟨rfl, rfl⟩
  go_wp2
  go_ret
  exact ⟨rfl, A.out⟩
theorem slist_nil (w : World) : Calls Tryz.prog 45 #[.pointer none] w fun R w' => R = .returned (.slice none 0 0) ∧ w = w' := by
  go_enter Tryz.func45, Tryz.ntmps45
  go_wp2_with fail
  refine (pcheck_nil w).mono ?_
  rintro R w1 ⟨rfl, rfl⟩
  go_wp2
  go_ret
  exact ⟨rfl, rfl⟩
theorem sread_nil (n : List UInt8) (w : World) : Calls Tryz.prog 70 #[.pointer none, .string (str n)] w fun R w' => R = .returned (.tuple #[.string (str []), .int .i64 1]) ∧ w = w' := by
  rw [str_nil]
  go_enter Tryz.func70, Tryz.ntmps70
  go_wp2_with fail
  refine (pcheck_nil w).mono ?_
  rintro R w1 ⟨rfl, rfl⟩
  go_wp2
  go_ret2
  exact ⟨rfl, rfl⟩
section
attribute [local go_sem ↓] ld_state st_state
set_option maxHeartbeats 2000000 in
theorem kload_nil (f : Nat) (w : World) (hf : f < 18446744073709551616) : Calls Tryz.prog 24 #[.pointer none, .int .u64 (f : Int)] w (KlPost w .zero 1) := by
  have H0 := Loc.one w 34 (stc .zero none 0)
  have KN : Hid (∀ W, Calls Tryz.prog 34 #[.int .u64 (f : Int)] W fun R w' => R = .returned (.string (str (cN f))) ∧ Below W.heap.size W w') := fun W => chk_c f W hf
  obtain ⟨Q, hQ⟩ : ∃ Q, Q = KlPost w .zero 1 := ⟨_, rfl⟩
  rw [← hQ]
  have HQ := Lib.hid hQ
  obtain ⟨nm, hnm⟩ : ∃ nm, nm = cN f := ⟨_, rfl⟩
  rw [← hnm] at KN
  clear hQ hnm
  go_enter Tryz.func24, Tryz.ntmps24
  go_upto_region 1 with fail
  rw [show (#[.int .u64 0, .int .u64 0, .int .i32 0, .int .i32 0, .int .i32 0, .int .i32 0, .int .u8 0, .int .u8 0, .int .u8 0, .int .i32 0, .int .i32 0, .int .i32 0, .int .i32 0, .int .u8 0, .int .u8 0, .int .u8 0, .slice none 0 0, .int .u16 0, .int .u16 0] : Array Value) = stc .zero none 0 from rfl]
  generalize w.alloc (.cells (stc .zero none 0) 34) = wa at *
  go_wp2_with fail
  refine (KN.out wa).mono ?_
  rintro R w0 ⟨rfl, hb0⟩
  have H2 := H0.to hb0
  clear hb0 H0
  go_wp2_with fail
  refine (sread_nil nm w0).mono ?_
  rintro R w1 ⟨rfl, rfl⟩
  obtain ⟨w4, s4, H4, _⟩ := H2.stA ty_state 0 rfl 0 (#[.int .u64 0, .int .u64 0, .int .i32 0, .int .i32 0, .int .i32 0, .int .i32 0, .int .u8 0, .int .u8 0, .int .u8 0, .int .i32 0, .int .i32 0, .int .i32 0, .int .i32 0, .int .u8 0, .int .u8 0, .int .u8 0, .slice none 0 0, .int .u16 0, .int .u16 0]) (cs' := stc .zero none 0) rfl (L' := [(w.heap.size, 34, stc .zero none 0)]) rfl (Nat.le_of_ble_eq_true rfl) rfl rfl
  go_wp2
  refine bodyPost_ret (shut_kl 4 5 _ (1 : Int) _ Tryz.results24 (H4.get 0 rfl) rfl rfl rfl) rfl ?_
  rw [HQ.out]
  exact kl_none H4.be _
set_option maxHeartbeats 2000000 in
theorem fails_nil (f : Nat) (w : World) (hf : f < 18446744073709551616) :
    Calls Tryz.prog 32 #[.pointer none, .int .u64 (f : Int), .int .i64 1] w fun R w' => R = .returned (.bool true) ∧ Below w.heap.size w w' := by
  have H0 := Loc.nil (B := w.heap.size) (w := w) (Nat.le_refl _)
  have KL := Lib.hid (kload_nil f w hf)
  go_enter Tryz.func32, Tryz.ntmps32
  go_wp2_with fail
  refine KL.out.mono ?_
  rintro R w1 ⟨ao2, cap2, rfl, hsh, hft, h8, hao, hb1⟩
  have H1 := H0.to hb1
  obtain ⟨g3, w3, z3, s3, H3, q3⟩ := H1.newA ty_state #[.int .u64 0, .int .u64 0, .int .i32 0, .int .i32 0, .int .i32 0, .int .i32 0, .int .u8 0, .int .u8 0, .int .u8 0, .int .i32 0, .int .i32 0, .int .i32 0, .int .i32 0, .int .u8 0, .int .u8 0, .int .u8 0, .slice none 0 0, .int .u16 0, .int .u16 0] (stc .zero ao2 cap2) rfl rfl rfl
  replace H3 : Loc _ _ _ [(g3, 34, stc .zero ao2 cap2)] := H3
  have l2 := H3.ldA ty_state 0 rfl 0 (vs := stc .zero ao2 cap2) rfl (Nat.le_of_ble_eq_true rfl)
  have HB3 := Lib.hid H3.be
  clear hsh hft h8 hao hb1 q3 H1 H0 KL H3
  have KS : Hid (Calls Tryz.prog 35 #[sv .zero ao2 cap2, .agg #[.int .u64 0, .int .u64 0, .int .i32 0, .int .i32 0, .int .i32 0, .int .i32 0, .int .u8 0, .int .u8 0, .int .u8 0, .int .i32 0, .int .i32 0, .int .i32 0, .int .i32 0, .int .u8 0, .int .u8 0, .int .u8 0, .slice none 0 0, .int .u16 0, .int .u16 0]] w3 fun E w' => E = .returned (.bool true) ∧ w3.grownBy w' none) := by
    have := same_c .zero .zero ao2 none cap2 0 w3 (shs_none _ _) (shs_none _ _) (by decide) (by decide)
    rw [sm_self] at this
    exact this
  go_wp2_with fail
  refine KS.out.mono ?_
  rintro R w4 ⟨rfl, hb4⟩
  clear l2 KS
  go_wp2
  go_ret
  exact ⟨rfl, HB3.out.trans ((below_of_grown hb4).mono HB3.out.size)⟩
end
theorem kst1_nil {bt bn bp : Nat} {n : List UInt8} (w : World) (h1 : Cells w bt 47 #[.slice none 0 0]) (h2 : Cells w bn 9 #[.string (str n)]) :
    Calls Tryz.prog 48 #[.pointer (some ⟨bt, 0, none⟩), .pointer (some ⟨bn, 0, none⟩), .pointer (some ⟨bp, 0, none⟩)] w fun R w' => R = .returned (.int .i64 0) ∧ w = w' := by
  have HI := Lib.hid (contains_c [] n (B := 0) w (World.ownsRow_nil _ _ _ _) (by simp))
  rw [decide_eq_false (by simp)] at HI
  have c0 := h1.cell 0
  have c1 := h2.cell 0
  clear h1 h2
  go_enter Tryz.func48, Tryz.ntmps48
  go_wp2_with fail
  refine HI.out.mono ?_
  rintro R w0 ⟨rfl, rfl⟩
  go_wp2
  go_ret
  exact ⟨rfl, rfl⟩
theorem kst2_nil {bn bp : Nat} {n : List UInt8} (w : World) (h1 : Cells w bp 38 #[.pointer none]) (h2 : Cells w bn 9 #[.string (str n)]) :
    Calls Tryz.prog 50 #[.pointer (some ⟨bp, 0, none⟩), .pointer (some ⟨bn, 0, none⟩)] w fun R w' => R = .returned (.int .i64 1) ∧ Below w.heap.size w w' := by
  have HC := Lib.hid (screate_nil n w)
  have c0 := h1.cell 0
  have c1 := h2.cell 0
  clear h1 h2
  go_enter Tryz.func50, Tryz.ntmps50
  go_wp2_with fail
  refine HC.out.mono ?_
  rintro R w1 ⟨rfl, hb⟩
  have HB := Lib.hid hb
  clear hb
  go_wp2
  go_ret
  exact ⟨rfl, HB.out⟩
set_option maxHeartbeats 4000000 in
theorem kturn_nil {gp g5 g7 g8 g10 gl : Nat} {n : List UInt8} (w : World) (h1 : Cells w g10 47 #[.slice none 0 0]) (h2 : Cells w g8 9 #[.string (str n)]) (h3 : Cells w gp 38 #[.pointer none]) (hc : Cells w gl 93 #[.func (.func 48) #[] #[.pointer (some ⟨g10, 0, none⟩), .pointer (some ⟨g8, 0, none⟩), .pointer (some ⟨gp, 0, none⟩)], .func (.func 50) #[] #[.pointer (some ⟨gp, 0, none⟩), .pointer (some ⟨g8, 0, none⟩)], .func (.func 52) #[] #[.pointer (some ⟨gp, 0, none⟩), .pointer (some ⟨g8, 0, none⟩), .pointer (some ⟨g5, 0, none⟩)], .func (.func 54) #[] #[.pointer (some ⟨gp, 0, none⟩), .pointer (some ⟨g8, 0, none⟩)], .func (.func 56) #[] #[.pointer (some ⟨gp, 0, none⟩), .pointer (some ⟨g8, 0, none⟩), .pointer (some ⟨g7, 0, none⟩)]]) :
    Calls Tryz.prog 47 #[.slice (some ⟨gl, 0, none⟩) 5 5] w fun R w' => R = .returned (.int .i64 1) ∧ Below w.heap.size w w' := by
  have HX := Lib.hid (And.intro h1 (And.intro h2 h3))
  have HC := Lib.hid hc
  obtain ⟨Q, hQ⟩ : ∃ Q : Ending → World → Prop, Q = fun R w' => R = .returned (.int .i64 1) ∧ Below w.heap.size w w' := ⟨_, rfl⟩
  rw [← hQ]
  have HQ := Lib.hid hQ
  clear hQ h1 h2 h3 hc
  go_enter Tryz.func47, Tryz.ntmps47
  go_wp2
  go_loopw [8] (fun iv wr => ∃ j : Nat, j ≤ 1 ∧ iv = .int .i64 (j : Int) ∧ Hid (Below w.heap.size w wr)) (fun iv _ => 5 - (intOf iv).toNat)
  case atStart => exact ⟨0, by omega, rfl, Below.refl _ _⟩
  case round =>
    obtain ⟨j, hj, rfl, HB⟩ := hrel
    have hj4 : j = 0 ∨ j = 1 := by omega
    rcases hj4 with rfl | rfl
    · have c1 := (HC.out.below HB.out HC.out.lt).cell 0
      have hin := @enters Tryz.prog 48 _ _ Tryz.func48 (by kernel_rfl) rfl
      simp only [List.getElem?_toArray, List.getElem?_cons_zero, List.getElem?_cons_succ] at c1
      go_wp2_with fail
      refine (kst1_nil _ (HX.out.1.below HB.out HX.out.1.lt) (HX.out.2.1.below HB.out HX.out.2.1.lt)).mono ?_
      rintro R w1 ⟨rfl, rfl⟩
      clear c1 hin
      go_wp2
      go_roundw
      case rel => exact ⟨0 + 1, by omega, by go_num, HB.out⟩
      case measure => simp [intOf]
    · have c1 := (HC.out.below HB.out HC.out.lt).cell 1
      have hin := @enters Tryz.prog 50 _ _ Tryz.func50 (by kernel_rfl) rfl
      simp only [List.getElem?_toArray, List.getElem?_cons_zero, List.getElem?_cons_succ] at c1
      go_wp2_with fail
      refine (kst2_nil _ (HX.out.2.2.below HB.out HX.out.2.2.lt) (HX.out.2.1.below HB.out HX.out.2.1.lt)).mono ?_
      rintro R w1 ⟨rfl, hb1⟩
      have HB1 := Lib.hid (HB.out.trans (hb1.mono HB.out.size))
      clear hb1 c1 hin
      go_wp2
      rw [HQ.out]
      exact ⟨rfl, HB1.out⟩
attribute [local go_sem ↓] ld_state ld_u64 st_str18 st_strs18 ld_str18 ld_strs18 ld_pp18
set_option maxHeartbeats 8000000 in
theorem kwrite_nil (s : St) (ao : Option Addr) (cap : Nat) (w : World) (hs : Shs w ao s.ss) (hf : s.fit) (hg : s.good = true) (ht : Tab w) (hb : BTab w) :
    Calls Tryz.prog 11 #[.pointer none, sv s ao cap] w fun R w' => R = .returned (.int .i64 1) ∧ Below w.heap.size w w' := by
  have hmf : ∀ (fn : Fn) (first cap : Array Value) (w : World), (Instr.makeFunc fn first cap).run Tryz.prog w = .ok (.func fn first cap) w := fun _ _ _ _ => rfl
  have HT := Lib.hid ht
  have HB := Lib.hid hb
  have HSH := Lib.hid hs
  have HF := Lib.hid hf
  have H0 := Lib.hid (Loc.two w 38 34 #[.pointer none] (stc s ao cap))
  obtain ⟨Q, hQ⟩ : ∃ Q : Ending → World → Prop, Q = fun R w' => R = .returned (.int .i64 1) ∧ Below w.heap.size w w' := ⟨_, rfl⟩
  rw [← hQ]
  have HQ := Lib.hid hQ
  clear ht hb hs hf hQ
  have HE := Lib.hid (kt_yes hg)
  have KN : Hid (∀ W, Calls Tryz.prog 34 #[.int .u64 (s.fr : Int)] W fun R w' => R = .returned (.string (str (cN s.fr))) ∧ Below W.heap.size W w') := fun W => chk_c s.fr W HF.out.1
  have KF : Hid (∀ W, Calls Tryz.prog 38 #[.string (str (cN s.fr))] W fun R w' => R = .returned (.string (str (cF s.fr))) ∧ W = w') := fun W => nnew_c (cN s.fr) W (by rw [cN_len]; decide)
  obtain ⟨m, hm⟩ : ∃ m, m = cN s.fr := ⟨_, rfl⟩
  obtain ⟨n, hn⟩ : ∃ n, n = cF s.fr := ⟨_, rfl⟩
  obtain ⟨t, ht⟩ : ∃ t, t = ktxt s := ⟨_, rfl⟩
  rw [← hm] at KN KF
  rw [← hn] at KF
  rw [← ht] at HE
  clear hg hm hn ht
  go_enter Tryz.func11, Tryz.ntmps11
  go_upto_region 1 with fail
  generalize (w.alloc (.cells #[.pointer none] 38)).alloc (.cells (stc s ao cap) 34) = wa at *
  have l0 := H0.out.ldA ty_state 1 rfl 0 (vs := stc s ao cap) rfl (Nat.le_of_ble_eq_true rfl)
  go_wp2_with fail
  refine (kput_c s ao cap wa (Shs_grown HSH.out (grown_of_below (r := none) H0.out.be) (by simp)) HF.out (HT.out.lo H0.out.be) (btab_lo HB.out H0.out.be)).mono ?_
  rintro E w1 ⟨rfl, hb1⟩
  rw [HE.out.1, HE.out.2]
  have h1 := H0.out.to hb1
  obtain ⟨g5, w5, z5, s5, h5, q5⟩ := h1.newO ty_str18 (.string ⟨#[]⟩) (.string (str t)) rfl rfl
  have H5 : Hid (Loc w.heap.size w w5 [(w.heap.size, 38, #[.pointer none]), (w.heap.size + 1, 34, stc s ao cap), (g5, 9, #[.string (str t)])]) := h5
  clear hb1 l0 H0 h1 h5 q5
  have l5 := H5.out.ldO ty_u64 1 rfl 0 (v := .int .u64 (s.fr : Int)) rfl
  go_wp2_with fail
  clear s5 z5 l5
  refine (KN.out _).mono ?_
  rintro E w6 ⟨rfl, hb6⟩
  have h6 := H5.out.to hb6
  obtain ⟨g7, w7, z7, s7, h7, q7⟩ := h6.newO ty_str18 (.string ⟨#[]⟩) (.string (str m)) rfl rfl
  have H7 : Hid (Loc w.heap.size w w7 [(w.heap.size, 38, #[.pointer none]), (w.heap.size + 1, 34, stc s ao cap), (g5, 9, #[.string (str t)]), (g7, 9, #[.string (str m)])]) := h7
  clear hb6 h6 h7 q7 H5
  have l7 := H7.out.ldO ty_str18 3 rfl 0 (v := .string (str m)) rfl
  go_wp2_with fail
  clear s7 z7 l7
  refine (KF.out _).mono ?_
  rintro E w' ⟨rfl, rfl⟩
  obtain ⟨g8, w8, z8, s8, h8, q8⟩ := H7.out.newO ty_str18 (.string ⟨#[]⟩) (.string (str n)) rfl rfl
  have H8 : Hid (Loc w.heap.size w w8 [(w.heap.size, 38, #[.pointer none]), (w.heap.size + 1, 34, stc s ao cap), (g5, 9, #[.string (str t)]), (g7, 9, #[.string (str m)]), (g8, 9, #[.string (str n)])]) := h8
  clear h8 q8 H7
  have l8 := H8.out.ldO ty_pp18 0 rfl 0 (v := .pointer none) rfl
  go_wp2_with fail
  clear s8 z8 l8
  refine (slist_nil _).mono ?_
  rintro E w9 ⟨rfl, rfl⟩
  obtain ⟨g10, w10, z10, s10, h10, q10⟩ := H8.out.newO ty_strs18 (.slice none 0 0) (.slice none 0 0) rfl rfl
  have H10 : Hid (Loc w.heap.size w w10 [(w.heap.size, 38, #[.pointer none]), (w.heap.size + 1, 34, stc s ao cap), (g5, 9, #[.string (str t)]), (g7, 9, #[.string (str m)]), (g8, 9, #[.string (str n)]), (g10, 47, #[.slice none 0 0])]) := h10
  have KC := Lib.hid (contains_c [] m (B := 0) w10 (World.ownsRow_nil _ _ _ _) (by simp))
  rw [decide_eq_false (by simp)] at KC
  clear h10 q10 H8
  have l10 := H10.out.ldO ty_strs18 5 rfl 0 (v := .slice none 0 0) rfl
  have l11 := H10.out.ldO ty_str18 3 rfl 0 (v := .string (str m)) rfl
  go_wp2_with fail
  clear s10 z10
  refine KC.out.mono ?_
  rintro E w' ⟨rfl, rfl⟩
  clear l10 l11
  have HW11 := Lib.hid (kb_alloc w10 (.cells #[.func (.func 48) #[] #[.pointer (some ⟨g10, 0, none⟩), .pointer (some ⟨g8, 0, none⟩), .pointer (some ⟨w.heap.size, 0, none⟩)], .func (.func 50) #[] #[.pointer (some ⟨w.heap.size, 0, none⟩), .pointer (some ⟨g8, 0, none⟩)], .func (.func 52) #[] #[.pointer (some ⟨w.heap.size, 0, none⟩), .pointer (some ⟨g8, 0, none⟩), .pointer (some ⟨g5, 0, none⟩)], .func (.func 54) #[] #[.pointer (some ⟨w.heap.size, 0, none⟩), .pointer (some ⟨g8, 0, none⟩)], .func (.func 56) #[] #[.pointer (some ⟨w.heap.size, 0, none⟩), .pointer (some ⟨g8, 0, none⟩), .pointer (some ⟨g7, 0, none⟩)]] 93))
  have HC11 := Lib.hid (Cells.made w10 93 #[.func (.func 48) #[] #[.pointer (some ⟨g10, 0, none⟩), .pointer (some ⟨g8, 0, none⟩), .pointer (some ⟨w.heap.size, 0, none⟩)], .func (.func 50) #[] #[.pointer (some ⟨w.heap.size, 0, none⟩), .pointer (some ⟨g8, 0, none⟩)], .func (.func 52) #[] #[.pointer (some ⟨w.heap.size, 0, none⟩), .pointer (some ⟨g8, 0, none⟩), .pointer (some ⟨g5, 0, none⟩)], .func (.func 54) #[] #[.pointer (some ⟨w.heap.size, 0, none⟩), .pointer (some ⟨g8, 0, none⟩)], .func (.func 56) #[] #[.pointer (some ⟨w.heap.size, 0, none⟩), .pointer (some ⟨g8, 0, none⟩), .pointer (some ⟨g7, 0, none⟩)]])
  go_wp2_with fail
  generalize w10.alloc (.cells #[.func (.func 48) #[] #[.pointer (some ⟨g10, 0, none⟩), .pointer (some ⟨g8, 0, none⟩), .pointer (some ⟨w.heap.size, 0, none⟩)], .func (.func 50) #[] #[.pointer (some ⟨w.heap.size, 0, none⟩), .pointer (some ⟨g8, 0, none⟩)], .func (.func 52) #[] #[.pointer (some ⟨w.heap.size, 0, none⟩), .pointer (some ⟨g8, 0, none⟩), .pointer (some ⟨g5, 0, none⟩)], .func (.func 54) #[] #[.pointer (some ⟨w.heap.size, 0, none⟩), .pointer (some ⟨g8, 0, none⟩)], .func (.func 56) #[] #[.pointer (some ⟨w.heap.size, 0, none⟩), .pointer (some ⟨g8, 0, none⟩), .pointer (some ⟨g7, 0, none⟩)]] 93) = w11 at *
  have h11 := H10.out.to HW11.out
  refine (kturn_nil w11 (h11.get 5 rfl) (h11.get 4 rfl) (h11.get 0 rfl) HC11.out).mono ?_
  rintro E w12 ⟨rfl, hb9⟩
  have H9 := Lib.hid (h11.to hb9).be
  clear hb9 h11 hmf
  go_wp2
  rw [HQ.out]
  exact ⟨rfl, H9.out⟩
end Go.Proofs.YtacgmadgkmcmoaaGreatDoor
