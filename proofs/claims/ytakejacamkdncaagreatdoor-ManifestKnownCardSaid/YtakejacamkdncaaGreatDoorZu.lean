/- Swap at a power that is none: nil. -/
import Derived.Test.YtakejacamkdncaaGreatDoorZp
namespace Go.Proofs.YtakejacamkdncaaGreatDoor
open Go.RowKit
set_option linter.unusedVariables false
set_option linter.unusedSimpArgs false
set_option maxRecDepth 20000

theorem swrite_nil (fv : Value) (w : World) : Calls Tryz.prog 92 #[.pointer none, fv] w fun R w' => R = .returned (.int .i64 1) ∧ w = w' := by
  go_enter Tryz.func92, Tryz.ntmps92
  go_wp2_with fail
  refine (pcheck_nil w).mono ?_
  rintro R w1 ⟨rfl, rfl⟩
  go_wp2
  go_ret
  exact ⟨rfl, rfl⟩
theorem screate_nil (n : List UInt8) (w : World) : Calls Tryz.prog 59 #[.pointer none, .string (str n)] w fun R w' => R = .returned (.int .i64 1) ∧ Below w.heap.size w w' := by
  have hmf : ∀ (fn : Fn) (first cap : Array Value) (w : World), (Instr.makeFunc fn first cap).run Tryz.prog w = .ok (.func fn first cap) w := fun _ _ _ _ => rfl
  have A := Lib.hid (below_alloc w (.cells #[.string (str n)] 9))
  go_enter Tryz.func59, Tryz.ntmps59
  go_wp2_with fail
  refine (swrite_nil _ _).mono ?_
  rintro R w1 ⟨rfl, rfl⟩
  go_wp2
  go_ret
  exact ⟨rfl, A.out⟩
theorem slist_nil (w : World) : Calls Tryz.prog 57 #[.pointer none] w fun R w' => R = .returned (.slice none 0 0) ∧ w = w' := by
  go_enter Tryz.func57, Tryz.ntmps57
  go_wp2_with fail
  refine (pcheck_nil w).mono ?_
  rintro R w1 ⟨rfl, rfl⟩
  go_wp2
  go_ret
  exact ⟨rfl, rfl⟩
theorem mclear_nil (gs : Nat) (t : List UInt8) (w : World) (hx : Cells w gs 95 #[.pointer none, .string (str nN), .string (str t)]) :
    Calls Tryz.prog 31 #[.pointer (some ⟨gs, 0, none⟩)] w fun R w' => R = .returned (.int .i64 0) ∧ Below w.heap.size w w' := by
  have c0 : ∀ W, Below w.heap.size w W → W.cell? ⟨gs, 0, none⟩ = some (.pointer none) := fun W hW => (hx.below hW hx.lt).cell 0
  have c1 : ∀ W, Below w.heap.size w W → W.cell? ⟨gs, 1, none⟩ = some (.string (str nN)) := fun W hW => (hx.below hW hx.lt).cell 1
  have o0 : Below w.heap.size w w.drew := (Below.refl _ w).drew
  go_enter Tryz.func31, Tryz.ntmps31
  go_upto_region 1 with fail
  refine wp_region_till (S := fun W => Below w.heap.size w W) (by kernel_rfl) ?_
  refine wpTill_take (i := 0) (v := ?vq1) rfl (by kernel_rfl) (fun _ _ _ h => h) (Or.inl ⟨by rfl, ?hq1⟩) o0 ?rq1
  case hq1 => (intro W hW; (try dsimp only at hW); go_simp; try with_reducible rfl)
  simp only [Act.put, List.setIfInBounds_toArray, List.set_cons_zero, List.set_cons_succ, List.getElem_toArray, List.getElem_cons_succ, List.getElem_cons_zero]
  refine wpTill_take (i := 1) (v := ?vq2) rfl (by kernel_rfl) (fun _ _ _ h => h) (Or.inl ⟨by rfl, ?hq2⟩) o0 ?rq2
  case hq2 => (intro W hW; (try dsimp only at hW); go_simp; try with_reducible rfl)
  simp only [Act.put, List.setIfInBounds_toArray, List.set_cons_zero, List.set_cons_succ, List.getElem_toArray, List.getElem_cons_succ, List.getElem_cons_zero]
  refine wpTill_take (i := 2) (v := ?vq3) rfl (by kernel_rfl) (fun _ _ _ h => h) (Or.inl ⟨by rfl, ?hq3⟩) o0 ?rq3
  case hq3 => (intro W hW; (try dsimp only at hW); go_simp; try with_reducible rfl)
  simp only [Act.put, List.setIfInBounds_toArray, List.set_cons_zero, List.set_cons_succ, List.getElem_toArray, List.getElem_cons_succ, List.getElem_cons_zero]
  refine wpTill_take (i := 3) (v := ?vq4) rfl (by kernel_rfl) (fun _ _ _ h => h) (Or.inl ⟨by rfl, ?hq4⟩) o0 ?rq4
  case hq4 => (intro W hW; (try dsimp only at hW); go_simp; try with_reducible rfl)
  simp only [Act.put, List.setIfInBounds_toArray, List.set_cons_zero, List.set_cons_succ, List.getElem_toArray, List.getElem_cons_succ, List.getElem_cons_zero]
  refine wpTill_take (i := 5) (v := ?vq5) rfl (by kernel_rfl) (fun _ _ _ h => h) (Or.inl ⟨by rfl, ?hq5⟩) o0 ?rq5
  case hq5 => (intro W hW; (try dsimp only at hW); go_simp; try with_reducible rfl)
  simp only [Act.put, List.setIfInBounds_toArray, List.set_cons_zero, List.set_cons_succ, List.getElem_toArray, List.getElem_cons_succ, List.getElem_cons_zero]
  refine wpTill_take (i := 6) (v := ?vq6) rfl (by kernel_rfl) (fun _ _ _ h => h) (Or.inl ⟨by rfl, ?hq6⟩) o0 ?rq6
  case hq6 => (intro W hW; (try dsimp only at hW); go_simp; try with_reducible rfl)
  simp only [Act.put, List.setIfInBounds_toArray, List.set_cons_zero, List.set_cons_succ, List.getElem_toArray, List.getElem_cons_succ, List.getElem_cons_zero]
  refine wpTill_take (i := 7) (v := ?vq7) rfl (by kernel_rfl) (fun _ _ _ h => h) (Or.inl ⟨by rfl, ?hq7⟩) o0 ?rq7
  case hq7 => (intro W hW; (try dsimp only at hW); go_simp; try with_reducible rfl)
  simp only [Act.put, List.setIfInBounds_toArray, List.set_cons_zero, List.set_cons_succ, List.getElem_toArray, List.getElem_cons_succ, List.getElem_cons_zero]
  refine wpTill_take (i := 8) (v := ?vq8) rfl (by kernel_rfl) (fun _ _ _ h => h) (Or.inl ⟨by rfl, ?hq8⟩) o0 ?rq8
  case hq8 => (intro W hW; (try dsimp only at hW); go_simp; try with_reducible rfl)
  simp only [Act.put, List.setIfInBounds_toArray, List.set_cons_zero, List.set_cons_succ, List.getElem_toArray, List.getElem_cons_succ, List.getElem_cons_zero]
  refine wpTill_run (i := 4) (by kernel_rfl) rfl o0 (fun K hK => ?_)
  go_simp
  go_at_call 57
  refine (slist_nil _).mono ?_
  rintro R w1 ⟨rfl, rfl⟩
  refine hK _ _ ?_
  clear hK K
  refine wpTill_run (i := 9) (by kernel_rfl) rfl o0 (fun K hK => ?_)
  go_simp
  go_at_call 56
  refine (contains_c [] nN (B := 0) _ (World.ownsRow_nil _ _ _ _) (by simp)).mono ?_
  rintro R w2 ⟨rfl, rfl⟩
  rw [decide_eq_false (by simp)]
  refine hK _ _ ?_
  clear hK K
  refine wpTill_run (i := 10) (by kernel_rfl) rfl o0 (fun K hK => ?_)
  go_simp
  refine hK _ _ ?_
  clear hK K
  refine wpTill_done (by kernel_rfl) ?_
  have O0 := Lib.hid o0
  clear c0 c1 o0
  go_wp2
  go_ret
  exact ⟨rfl, O0.out⟩
theorem mcreate_nil (gs : Nat) (t : List UInt8) (w : World) (hx : Cells w gs 95 #[.pointer none, .string (str nN), .string (str t)]) :
    Calls Tryz.prog 32 #[.pointer (some ⟨gs, 0, none⟩)] w fun R w' => R = .returned (.int .i64 1) ∧ Below w.heap.size w w' := by
  have c0 : ({ w with drawn := w.drawn + 1 } : World).cell? ⟨gs, 0, none⟩ = some (.pointer none) := hx.cell 0
  have c1 : ({ w with drawn := w.drawn + 1 } : World).cell? ⟨gs, 1, none⟩ = some (.string (str nN)) := hx.cell 1
  have HK : Hid (∀ w', Below ({ w with drawn := w.drawn + 1 } : World).heap.size ({ w with drawn := w.drawn + 1 } : World) w' → Below w.heap.size w w') := fun w' k => (Below.refl _ w).drew.trans k
  clear hx
  go_enter Tryz.func32, Tryz.ntmps32
  go_upto_region 1 with fail
  obtain ⟨wd, hwd⟩ : ∃ wd, ({ w with drawn := w.drawn + 1 } : World) = wd := ⟨_, rfl⟩
  rw [hwd] at c0 c1 HK
  refine wp_region_still_tail 8 (by kernel_rfl) (by kernel_rfl) ?_
  simp only [List.take_succ_cons, List.take_zero, List.drop_succ_cons, List.drop_zero]
  rw [hwd]
  clear hwd
  repeat still_step
  refine wpStill_nil ?_
  go_wp2_with fail
  refine (screate_nil nN wd).mono ?_
  rintro R w1 ⟨rfl, hb1⟩
  have H9 := Lib.hid (HK.out _ hb1)
  clear hb1
  go_wp2
  go_ret
  exact ⟨rfl, H9.out⟩
set_option maxHeartbeats 4000000 in
theorem mturn_nil (gs gl : Nat) (t : List UInt8) (w : World) (hx : Cells w gs 95 #[.pointer none, .string (str nN), .string (str t)]) (hc : Cells w gl 97 #[.func (.func 31) #[.pointer (some ⟨gs, 0, none⟩)] #[], .func (.func 32) #[.pointer (some ⟨gs, 0, none⟩)] #[], .func (.func 33) #[.pointer (some ⟨gs, 0, none⟩)] #[], .func (.func 34) #[.pointer (some ⟨gs, 0, none⟩)] #[], .func (.func 35) #[.pointer (some ⟨gs, 0, none⟩)] #[]]) :
    Calls Tryz.prog 30 #[.slice (some ⟨gl, 0, none⟩) 5 5] w fun R w' => R = .returned (.int .i64 1) ∧ Below w.heap.size w w' := by
  have HX := Lib.hid hx
  have HC := Lib.hid hc
  obtain ⟨Q, hQ⟩ : ∃ Q : Ending → World → Prop, Q = fun R w' => R = .returned (.int .i64 1) ∧ Below w.heap.size w w' := ⟨_, rfl⟩
  rw [← hQ]
  have HQ := Lib.hid hQ
  clear hQ hx hc
  go_enter Tryz.func30, Tryz.ntmps30
  go_wp2
  go_step3
  go_wp2
  go_step3
  go_wp2
  go_loopg [3, 8] 5 (fun n ev iv wr => ∃ j : Nat, j + n = 5 ∧ j ≤ 1 ∧ ev = .int .i64 0 ∧ iv = .int .i64 (j : Int) ∧ Hid (Below w.heap.size w wr))
  case atStart => exact ⟨0, by omega, by omega, rfl, rfl, Below.refl _ _⟩
  case round =>
    obtain ⟨j, hj, hj1, rfl, rfl, HB⟩ := hrel
    have hj4 : j = 0 ∨ j = 1 := by omega
    rcases hj4 with rfl | rfl
    · have c1 := (HC.out.below HB.out HC.out.lt).cell 0
      have hin := @enters Tryz.prog 31 _ _ Tryz.func31 (by kernel_rfl) rfl
      simp only [List.getElem?_toArray, List.getElem?_cons_zero, List.getElem?_cons_succ] at c1
      go_wp2_with fail
      refine (mclear_nil gs t _ (HX.out.below HB.out HX.out.lt)).mono ?_
      rintro R w1 ⟨rfl, hb1⟩
      have HB1 := Lib.hid (HB.out.trans (hb1.mono HB.out.size))
      clear hb1 c1 hin
      go_wp2
      go_roundg 4
      case rel => exact ⟨0 + 1, by omega, by omega, rfl, by go_num, HB1.out⟩
      case measure => omega
    · have c1 := (HC.out.below HB.out HC.out.lt).cell 1
      have hin := @enters Tryz.prog 32 _ _ Tryz.func32 (by kernel_rfl) rfl
      simp only [List.getElem?_toArray, List.getElem?_cons_zero, List.getElem?_cons_succ] at c1
      go_wp2_with fail
      refine (mcreate_nil gs t _ (HX.out.below HB.out HX.out.lt)).mono ?_
      rintro R w1 ⟨rfl, hb1⟩
      have HB1 := Lib.hid (HB.out.trans (hb1.mono HB.out.size))
      clear hb1 c1 hin
      go_wp2
      rw [HQ.out]
      exact ⟨rfl, HB1.out⟩
attribute [local go_sem ↓] ld_man st_sw
set_option maxHeartbeats 4000000 in
theorem swap_nil (m : Mf) (so : Option Addr) (sc : Nat) (co : Option Addr) (cc : Nat) (w : World) (hm : MfAt w m so co) (hok : m.ok = true) (ht : Tab w) :
    Calls Tryz.prog 11 #[.pointer none, .agg (mcs m so sc co cc)] w fun R w' => R = .returned (.int .i64 1) ∧ Below w.heap.size w w' := by
  have hmf : ∀ (fn : Fn) (first cap : Array Value) (w : World), (Instr.makeFunc fn first cap).run Tryz.prog w = .ok (.func fn first cap) w := fun _ _ _ _ => rfl
  have HT := Lib.hid ht
  have HM := Lib.hid hm
  have H0 := Loc.one w 34 (mcs m so sc co cc)
  have HE := Lib.hid (pt_yes hok)
  have HLN := Lib.hid (enc_len hok)
  clear hok hm ht
  obtain ⟨t, ht⟩ : ∃ t, t = enc m := ⟨_, rfl⟩
  rw [← ht] at HE HLN
  clear ht
  go_enter Tryz.func11, Tryz.ntmps11
  go_upto_region 1 with fail
  generalize w.alloc (.cells (mcs m so sc co cc) 34) = wa at *
  have l0 := H0.ldA ty_man 0 rfl 0 (vs := mcs m so sc co cc) rfl (Nat.le_of_ble_eq_true rfl)
  go_wp2_with fail
  refine (mput_c m so sc co cc wa (HM.out.to H0.be) (tab_below HT.out H0.be)).mono ?_
  rintro E w1 ⟨rfl, hb1⟩
  rw [HE.out.1, HE.out.2]
  have H1 := H0.to hb1
  obtain ⟨gs, w2, z2, s2, H2, q2⟩ := H1.newA ty_sw #[.pointer none, .string ⟨#[]⟩, .string ⟨#[]⟩] #[.pointer none, .string (str nN), .string (str t)] rfl rfl rfl
  replace H2 : Hid (Loc w.heap.size w w2 [(w.heap.size, 34, mcs m so sc co cc), (gs, 95, #[.pointer none, .string (str nN), .string (str t)])]) := H2
  have hnn : Hid (nM ++ nw = nN) := by show _ = _; decide
  clear hb1 l0 H0 H1 q2
  go_wp2_with fail
  refine (nnew_c nM _ (by decide)).mono ?_
  rintro E w' ⟨rfl, rfl⟩
  rw [hnn.out]
  have HW8 := Lib.hid (mb_alloc w2 (.cells #[.func (.func 31) #[.pointer (some ⟨gs, 0, none⟩)] #[], .func (.func 32) #[.pointer (some ⟨gs, 0, none⟩)] #[], .func (.func 33) #[.pointer (some ⟨gs, 0, none⟩)] #[], .func (.func 34) #[.pointer (some ⟨gs, 0, none⟩)] #[], .func (.func 35) #[.pointer (some ⟨gs, 0, none⟩)] #[]] 97))
  have HC8 := Lib.hid (Cells.made w2 97 #[.func (.func 31) #[.pointer (some ⟨gs, 0, none⟩)] #[], .func (.func 32) #[.pointer (some ⟨gs, 0, none⟩)] #[], .func (.func 33) #[.pointer (some ⟨gs, 0, none⟩)] #[], .func (.func 34) #[.pointer (some ⟨gs, 0, none⟩)] #[], .func (.func 35) #[.pointer (some ⟨gs, 0, none⟩)] #[]])
  go_wp2_with fail
  clear s2 z2
  generalize w2.alloc (.cells #[.func (.func 31) #[.pointer (some ⟨gs, 0, none⟩)] #[], .func (.func 32) #[.pointer (some ⟨gs, 0, none⟩)] #[], .func (.func 33) #[.pointer (some ⟨gs, 0, none⟩)] #[], .func (.func 34) #[.pointer (some ⟨gs, 0, none⟩)] #[], .func (.func 35) #[.pointer (some ⟨gs, 0, none⟩)] #[]] 97) = w8 at *
  have h8 := H2.out.to HW8.out
  refine (mturn_nil gs w2.heap.size t w8 (h8.get 1 rfl) HC8.out).mono ?_
  rintro E w9 ⟨rfl, hb9⟩
  have H9 := Lib.hid (h8.to hb9).be
  clear hb9 h8 hmf
  go_wp2
  go_ret
  exact ⟨rfl, H9.out⟩
end Go.Proofs.YtakejacamkdncaaGreatDoor
