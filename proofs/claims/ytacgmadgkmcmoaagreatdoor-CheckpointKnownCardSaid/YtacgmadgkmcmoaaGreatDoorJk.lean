/- The statements' own first state, loads, fails and works: one contract each. -/
import Derived.Test.YtacgmadgkmcmoaaGreatDoorJd
import Derived.Test.YtacgmadgkmcmoaaGreatDoorJf
import Derived.Test.YtacgmadgkmcmoaaGreatDoorJl
import Derived.LaidEqlPtr
namespace Go.Proofs.YtacgmadgkmcmoaaGreatDoor
open Go.RowKit
set_option linter.unusedVariables false
set_option linter.unusedSimpArgs false
set_option maxRecDepth 20000
attribute [local go_sem ↓] ld_state st_state st_u64
theorem at18_c (f : Nat) (w : World) : Calls Tryz.prog 33 #[.int .u64 (f : Int)] w fun E w' => E = .returned (sv (stf f) none 0) ∧ Below w.heap.size w w' := by
  have H0 := Loc.one w 34 (stc .zero none 0)
  go_enter Tryz.func33, Tryz.ntmps33
  go_upto_region 1 with fail
  rw [show (#[.int .u64 0, .int .u64 0, .int .i32 0, .int .i32 0, .int .i32 0, .int .i32 0, .int .u8 0, .int .u8 0, .int .u8 0, .int .i32 0, .int .i32 0, .int .i32 0, .int .i32 0, .int .u8 0, .int .u8 0, .int .u8 0, .slice none 0 0, .int .u16 0, .int .u16 0] : Array Value) = stc .zero none 0 from rfl]
  generalize w.alloc (.cells (stc .zero none 0) 34) = wa at *
  have KS : Hid (Calls Tryz.prog 79 #[.int .u64 1] wa fun E w' => E = .returned (sv (start 1) none 0) ∧ wa.grownBy w' none) := start_c 1 wa
  go_wp2_with fail
  refine KS.out.mono ?_
  rintro R w1 ⟨rfl, hb1⟩
  have H1 := H0.grown hb1
  clear hb1 KS H0
  obtain ⟨g3, w3, z3, s3, H3, -⟩ := H1.newA ty_state #[.int .u64 0, .int .u64 0, .int .i32 0, .int .i32 0, .int .i32 0, .int .i32 0, .int .u8 0, .int .u8 0, .int .u8 0, .int .i32 0, .int .i32 0, .int .i32 0, .int .i32 0, .int .u8 0, .int .u8 0, .int .u8 0, .slice none 0 0, .int .u16 0, .int .u16 0] (stc (start 1) none 0) rfl rfl rfl
  replace H3 : Loc _ _ _ [(w.heap.size, 34, stc .zero none 0), (g3, 34, stc (start 1) none 0)] := H3
  obtain ⟨w4, s4, H4, -⟩ := H3.stO ty_u64 1 rfl 0 (.int .u64 (f : Int)) (cs' := stc (stf f) none 0) rfl (L' := [(w.heap.size, 34, stc .zero none 0), (g3, 34, stc (stf f) none 0)]) rfl (Nat.le_of_ble_eq_true rfl) rfl rfl
  have l4 := H4.ldA ty_state 1 rfl 0 (vs := stc (stf f) none 0) rfl (Nat.le_of_ble_eq_true rfl)
  obtain ⟨w5, s5, H5, -⟩ := H4.stA ty_state 0 rfl 0 (stc (stf f) none 0) (cs' := stc (stf f) none 0) rfl (L' := [(w.heap.size, 34, stc (stf f) none 0), (g3, 34, stc (stf f) none 0)]) rfl (Nat.le_of_ble_eq_true rfl) rfl rfl
  have H5' := Lib.hid H5
  clear H1 H3 H4 H5
  go_wp2
  refine bodyPost_ret (ret_state _ 2 _ Tryz.results33 (H5'.out.get 0 rfl) rfl rfl) rfl ?_
  exact ⟨rfl, H5'.out.be⟩
set_option maxHeartbeats 2000000 in
theorem loads_c {S : Nat → Prop} {g q : Nat} {dv : Value} {kc : Nat} {ko : Option Addr} {p : Pw} (f : Nat) (t : St) (ao : Option Addr) (cap : Nat) (w : World) (h : PwC S w g dv q ko kc p) (hf : f < 18446744073709551616) (hs : Shs w ao t.ss) (hl : t.ss.length ≤ maxLen) (ht : Tab w) (hb : BTab w) :
    Calls Tryz.prog 31 #[.pointer (some ⟨g, 0, none⟩), .int .u64 (f : Int), sv t ao cap] w fun R w' => R = .returned (.bool (decide (klE p f = 0) && same (klS p f) t)) ∧ Below w.heap.size w w' := by
  have H0 := Loc.one w 34 (stc t ao cap)
  have KL := Lib.hid (fun W (hW : Below w.heap.size w W) => kload_c f W (h.new hW) hf (ht.lo hW) (btab_lo hb hW))
  have HS := Lib.hid hs
  have HL := Lib.hid hl
  obtain ⟨e, he⟩ : ∃ e, e = klE p f := ⟨_, rfl⟩
  obtain ⟨s, hs2⟩ : ∃ s, s = klS p f := ⟨_, rfl⟩
  rw [← he, ← hs2] at KL ⊢
  obtain ⟨b, hb2⟩ : ∃ b, b = (decide (e = 0) && same s t) := ⟨_, rfl⟩
  rw [← hb2]
  have HB := Lib.hid hb2
  clear h hf hs hl ht hb he hs2 hb2
  go_enter Tryz.func31, Tryz.ntmps31
  go_upto_region 1 with fail
  generalize w.alloc (.cells (stc t ao cap) 34) = wa at *
  go_wp2_with fail
  refine (KL.out wa H0.be).mono ?_
  rintro R w1 ⟨ao2, cap2, rfl, hsh, hft, h8, hao, hb1⟩
  have H1 := H0.to hb1
  obtain ⟨g3, w3, z3, s3, H3, q3⟩ := H1.newA ty_state #[.int .u64 0, .int .u64 0, .int .i32 0, .int .i32 0, .int .i32 0, .int .i32 0, .int .u8 0, .int .u8 0, .int .u8 0, .int .i32 0, .int .i32 0, .int .i32 0, .int .i32 0, .int .u8 0, .int .u8 0, .int .u8 0, .slice none 0 0, .int .u16 0, .int .u16 0] (stc s ao2 cap2) rfl rfl rfl
  replace H3 : Loc _ _ _ [(w.heap.size, 34, stc t ao cap), (g3, 34, stc s ao2 cap2)] := H3
  have HS2 := Lib.hid (shs_to hsh (below_of_grown q3))
  have H8 := Lib.hid h8
  have l1 := H3.ldA ty_state 0 rfl 0 (vs := stc t ao cap) rfl (Nat.le_of_ble_eq_true rfl)
  have l2 := H3.ldA ty_state 1 rfl 0 (vs := stc s ao2 cap2) rfl (Nat.le_of_ble_eq_true rfl)
  have HB3 := Lib.hid H3.be
  clear hsh hft h8 hao hb1 q3 H1 H0 KL H3
  by_cases h0 : e = 0
  · have hq : (e == 0) = true := by rw [h0]; rfl
    rw [decide_eq_true h0, Bool.true_and] at HB
    clear h0
    have KS := Lib.hid (same_c s t ao2 ao cap2 cap w3 HS2.out (shs_to HS.out HB3.out) (by have := H8.out; simp only [maxLen]; omega) HL.out)
    rw [← HB.out] at KS
    go_wp2_with fail
    refine KS.out.mono ?_
    rintro R w4 ⟨rfl, hb4⟩
    clear l1 l2 KS
    go_wp2
    go_ret
    exact ⟨rfl, HB3.out.trans ((below_of_grown hb4).mono HB3.out.size)⟩
  · have hq : (e == 0) = false := beq_eq_false_iff_ne.2 h0
    rw [decide_eq_false h0, Bool.false_and] at HB
    clear h0
    go_wp2_with fail
    go_ret
    exact ⟨by rw [HB.out]; rfl, HB3.out⟩
set_option maxHeartbeats 2000000 in
theorem fails_c {S : Nat → Prop} {g q : Nat} {dv : Value} {kc : Nat} {ko : Option Addr} {p : Pw} (f : Nat) (c : Int) (w : World) (h : PwC S w g dv q ko kc p) (hf : f < 18446744073709551616) (ht : Tab w) (hb : BTab w) :
    Calls Tryz.prog 32 #[.pointer (some ⟨g, 0, none⟩), .int .u64 (f : Int), .int .i64 c] w fun R w' => R = .returned (.bool (decide (klE p f = c) && same (klS p f) .zero)) ∧ Below w.heap.size w w' := by
  have H0 := Loc.nil (B := w.heap.size) (w := w) (Nat.le_refl _)
  have KL := Lib.hid (fun W (hW : Below w.heap.size w W) => kload_c f W (h.new hW) hf (ht.lo hW) (btab_lo hb hW))
  obtain ⟨e, he⟩ : ∃ e, e = klE p f := ⟨_, rfl⟩
  obtain ⟨s, hs2⟩ : ∃ s, s = klS p f := ⟨_, rfl⟩
  rw [← he, ← hs2] at KL ⊢
  obtain ⟨b, hb2⟩ : ∃ b, b = (decide (e = c) && same s .zero) := ⟨_, rfl⟩
  rw [← hb2]
  have HB := Lib.hid hb2
  clear h hf ht hb he hs2 hb2
  go_enter Tryz.func32, Tryz.ntmps32
  go_wp2_with fail
  refine (KL.out w (Below.refl _ _)).mono ?_
  rintro R w1 ⟨ao2, cap2, rfl, hsh, hft, h8, hao, hb1⟩
  have H1 := H0.to hb1
  obtain ⟨g3, w3, z3, s3, H3, q3⟩ := H1.newA ty_state #[.int .u64 0, .int .u64 0, .int .i32 0, .int .i32 0, .int .i32 0, .int .i32 0, .int .u8 0, .int .u8 0, .int .u8 0, .int .i32 0, .int .i32 0, .int .i32 0, .int .i32 0, .int .u8 0, .int .u8 0, .int .u8 0, .slice none 0 0, .int .u16 0, .int .u16 0] (stc s ao2 cap2) rfl rfl rfl
  replace H3 : Loc _ _ _ [(g3, 34, stc s ao2 cap2)] := H3
  have HS2 := Lib.hid (shs_to hsh (below_of_grown q3))
  have H8 := Lib.hid h8
  have l2 := H3.ldA ty_state 0 rfl 0 (vs := stc s ao2 cap2) rfl (Nat.le_of_ble_eq_true rfl)
  have HB3 := Lib.hid H3.be
  clear hsh hft h8 hao hb1 q3 H1 H0 KL H3
  by_cases h0 : e = c
  · have hq : (e == c) = true := by rw [h0]; exact beq_self_eq_true _
    rw [decide_eq_true h0, Bool.true_and] at HB
    clear h0
    have KS : Hid (Calls Tryz.prog 35 #[sv s ao2 cap2, .agg #[.int .u64 0, .int .u64 0, .int .i32 0, .int .i32 0, .int .i32 0, .int .i32 0, .int .u8 0, .int .u8 0, .int .u8 0, .int .i32 0, .int .i32 0, .int .i32 0, .int .i32 0, .int .u8 0, .int .u8 0, .int .u8 0, .slice none 0 0, .int .u16 0, .int .u16 0]] w3 fun E w' => E = .returned (.bool b) ∧ w3.grownBy w' none) := by
      have := same_c s .zero ao2 none cap2 0 w3 HS2.out (shs_none _ _) (by have := H8.out; simp only [maxLen]; omega) (by decide)
      rw [← HB.out] at this
      exact this
    go_wp2_with fail
    refine KS.out.mono ?_
    rintro R w4 ⟨rfl, hb4⟩
    clear l2 KS
    go_wp2
    go_ret
    exact ⟨rfl, HB3.out.trans ((below_of_grown hb4).mono HB3.out.size)⟩
  · have hq : (e == c) = false := beq_eq_false_iff_ne.2 h0
    rw [decide_eq_false h0, Bool.false_and] at HB
    clear h0
    go_wp2_with fail
    go_ret
    exact ⟨by rw [HB.out]; rfl, HB3.out⟩
theorem sm_self (s : St) : same s s = true := by simp [same]
theorem nil_kl {f : Nat} (k : Nat) : klE (pon k []) f = 5 ∧ klS (pon k []) f = .zero := kl_no (p := pon k []) rfl rfl
theorem one_kl {k f : Nat} (hf : f < 18446744073709551616) : klE (pon k [⟨cN (stf f).fr, ktxt (stf f), (ktxt (stf f)).length⟩]) f = 0 ∧ klS (pon k [⟨cN (stf f).fr, ktxt (stf f), (ktxt (stf f)).length⟩]) f = stf f := by
  obtain ⟨h1, h2⟩ := kl_of (p := pon k [⟨cN f, ktxt (stf f), (ktxt (stf f)).length⟩]) (f := f) (c := ktxt (stf f)) (k := (ktxt (stf f)).length) rfl (by show fnd _ [_] = _; simp [fndK])
  have h3 : kld (ktxt (stf f)) f = (0, stf f) := kld_own (stf_fit hf) (stf_good f)
  rw [h3] at h1 h2
  exact ⟨h1, h2⟩
theorem works18_c (w : World) (ht : Tab w) (hb : BTab w) : Calls Tryz.prog 8 #[] w fun R w' => R = .returned (.bool true) ∧ Below w.heap.size w w' := by
  have HT := Lib.hid (fun W (hW : Below w.heap.size w W) => ht.lo hW)
  have HBT := Lib.hid (fun W (hW : Below w.heap.size w W) => btab_lo hb hW)
  have KN : Hid (Calls Tryz.prog 28 #[.int .i64 1000] w (NewPost 1000 w)) := new_c 1000 w
  clear ht hb
  go_enter Tryz.func8, Tryz.ntmps8
  go_wp2_with fail
  refine KN.out.mono ?_
  rintro R w1 ⟨hb1, (⟨_, _, v, rfl, hd1⟩ | ⟨h1, _⟩)⟩
  rotate_left
  · omega
  obtain ⟨gd, rfl⟩ := hd1.ptr1
  have HB1 := Lib.hid hb1
  have KP : Hid (Calls Tryz.prog 29 #[.pointer (some ⟨gd, 0, none⟩), .int .i64 (-1), .slice none 0 0] w1 (NewPw (fun x => w.heap.size ≤ x) w1 (.pointer (some ⟨gd, 0, none⟩)) 1000 (-1) [] [])) := pnew_c (-1) none [] 0 w1 hd1 (fun j hj => by cases hj) (by simp)
  clear hd1 hb1 KN
  go_wp2_with fail
  refine KP.out.mono ?_
  rintro R w2 ⟨g, ko, kc, rfl, hg, hko, hp2, hb2⟩
  have HB2 := Lib.hid (HB1.out.trans (hb2.mono HB1.out.size))
  have HP2 := Lib.hid (show PwC (fun x => (w.heap.size ≤ x ∧ x < w1.heap.size) ∨ w2.heap.size ≤ x) w2 g (.pointer (some ⟨gd, 0, none⟩)) 1000 ko kc (pon 0 []) from hp2.mono fun x hx => ⟨.inl, fun h => h.elim id (fun h => by omega)⟩)
  have HG := Lib.hid (show w.heap.size ≤ g from Nat.le_trans HB1.out.size hg)
  have HSW := Lib.hid (show ∀ x, ((w.heap.size ≤ x ∧ x < w1.heap.size) ∨ w2.heap.size ≤ x) → w.heap.size ≤ x from fun x hx => by have := HB2.out.size; rcases hx with h | h <;> omega)
  clear hp2 hb2 hg hko KP HB1
  have K5 : Hid (Calls Tryz.prog 32 #[.pointer (some ⟨g, 0, none⟩), .int .u64 5, .int .i64 5] w2 fun R w' => R = .returned (.bool true) ∧ Below w2.heap.size w2 w') := by
    have := fails_c 5 5 w2 HP2.out (by decide) (HT.out _ HB2.out) (HBT.out _ HB2.out)
    rw [(nil_kl 0).1, (nil_kl 0).2, sm_self] at this
    exact this
  go_wp2_with fail
  refine K5.out.mono ?_
  rintro R w3 ⟨rfl, hb3⟩
  have HB3 := Lib.hid (HB2.out.trans (hb3.mono HB2.out.size))
  have HP3 := Lib.hid (HP2.out.new hb3)
  have HS3 := Lib.hid (show w2.heap.size ≤ w3.heap.size from hb3.size)
  clear hb3 K5 HP2
  have KA : Hid (∀ W, Calls Tryz.prog 33 #[.int .u64 5] W fun E w' => E = .returned (sv (stf 5) none 0) ∧ Below W.heap.size W w') := fun W => at18_c 5 W
  go_wp2_with fail
  refine (KA.out w3).mono ?_
  rintro R w4 ⟨rfl, hb4⟩
  have HB4 := Lib.hid (HB3.out.trans (hb4.mono HB3.out.size))
  have HP4 := Lib.hid (HP3.out.new hb4)
  have KW : Hid (Calls Tryz.prog 11 #[.pointer (some ⟨g, 0, none⟩), sv (stf 5) none 0] w4 fun R w' => R = .returned (.int .i64 0) ∧ PwC (fun x => (w.heap.size ≤ x ∧ x < w1.heap.size) ∨ w2.heap.size ≤ x) w' g (.pointer (some ⟨gd, 0, none⟩)) 1000 ko kc (pon 4 [⟨cN (stf 5).fr, ktxt (stf 5), (ktxt (stf 5)).length⟩]) ∧ Tu (fun x => x = g ∨ ((w.heap.size ≤ x ∧ x < w1.heap.size) ∨ w2.heap.size ≤ x)) w4 w') := by
    have := kwrite_c (stf 5) none 0 w4 HP4.out (fun x hx => .inr (by have h1 := HS3.out; have h2 := hb4.size; omega)) (shs_none _ _) (stf_fit (by decide)) (by decide) (HT.out _ HB4.out) (HBT.out _ HB4.out)
    unfold KwPost at this
    obtain ⟨e1, e2⟩ := on_first (q := 1000) (k := 0) (stf_good 5) (by decide)
    rw [e1, e2] at this
    exact this
  clear hb4 HP3 HB3 HS3
  go_wp2_with fail
  refine KW.out.mono ?_
  rintro R w5 ⟨rfl, hp5, ht5⟩
  have HB5 := Lib.hid (show Below w.heap.size w w5 from HB4.out.trans (ht5.below (fun x hx hn => by
    rcases hn with rfl | hn
    · have := HG.out; omega
    · have := HSW.out x hn; omega) HB4.out.size))
  have HP5 := Lib.hid hp5
  clear hp5 ht5 KW HP4 HB4
  go_wp2_with fail
  refine (KA.out w5).mono ?_
  rintro R w6 ⟨rfl, hb6⟩
  have HB6 := Lib.hid (HB5.out.trans (hb6.mono HB5.out.size))
  have HP6 := Lib.hid (HP5.out.new hb6)
  have KL : Hid (Calls Tryz.prog 31 #[.pointer (some ⟨g, 0, none⟩), .int .u64 5, sv (stf 5) none 0] w6 fun R w' => R = .returned (.bool true) ∧ Below w6.heap.size w6 w') := by
    have := loads_c 5 (stf 5) none 0 w6 HP6.out (by decide) (shs_none _ _) (by decide) (HT.out _ HB6.out) (HBT.out _ HB6.out)
    obtain ⟨e1, e2⟩ := one_kl (k := 4) (f := 5) (by decide)
    rw [e1, e2, sm_self] at this
    exact this
  clear hb6 HP5 HB5 KA
  go_wp2_with fail
  refine KL.out.mono ?_
  rintro R w7 ⟨rfl, hb7⟩
  have HB7 := Lib.hid (HB6.out.trans (hb7.mono HB6.out.size))
  have KR : Hid (Calls Tryz.prog 19 #[.pointer (some ⟨g, 0, none⟩)] w7 fun R w' => R = .returned (.int .i64 4) ∧ w7 = w') := pwrites_c w7 (HP6.out.new hb7)
  clear hb7 HP6 HB6 KL
  go_wp2_with fail
  refine KR.out.mono ?_
  rintro R w8 ⟨rfl, rfl⟩
  clear KR
  go_wp2
  go_ret
  exact ⟨rfl, HB7.out⟩
end Go.Proofs.YtacgmadgkmcmoaaGreatDoor
