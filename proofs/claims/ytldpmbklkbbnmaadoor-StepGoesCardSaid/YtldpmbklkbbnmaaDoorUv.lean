/- StepKnown: the walk. -/
import Derived.Test.YtldpmbklkbbnmaaDoorUt
namespace Go.Proofs.YtldpmbklkbbnmaaDoor
open Go.RowKit
set_option linter.unusedVariables false
set_option linter.unusedSimpArgs false
set_option maxRecDepth 20000

def kA : St := ⟨1, 7, ⟨8192, 14336, 0, 0, 100, 0, 0⟩, ⟨53248, 14336, 0, 0, 100, 0, 1⟩, [], 0, 0⟩
def kB : St := ⟨1, 7, ⟨8320, 14336, 128, 0, 100, 30, 0⟩, ⟨53248, 14336, 0, 0, 100, 0, 1⟩, [], 0, 0⟩
def kX : Sh := ⟨12032, 16128, 2048, 0, 0, 39⟩
def kC : St := ⟨1, 7, ⟨8192, 14336, 0, 0, 100, 10, 0⟩, ⟨53248, 14336, 0, 0, 100, 0, 1⟩, [kX], 0, 0⟩
def kD : St := ⟨0, 7, ⟨8192, 14336, 0, 0, 101, 0, 0⟩, ⟨53248, 14336, 0, 0, 100, 0, 1⟩, [], 0, 0⟩
theorem stpA : stp (start 7) 0 0 = kA := by decide +kernel
theorem stpB : stp (start 7) 34 0 = kB := by decide +kernel
theorem stpC : stp (start 7) 16 0 = kC := by decide +kernel
theorem stpD : stp kD 0 0 = kD := by decide +kernel
theorem stpE : stp (start 7) 0 255 = start 7 := by decide +kernel
theorem fitD : kD.fit := ⟨by decide, by decide, ⟨⟨by decide, by decide⟩, ⟨by decide, by decide⟩, ⟨by decide, by decide⟩, ⟨by decide, by decide⟩, by decide, by decide, by decide⟩, ⟨⟨by decide, by decide⟩, ⟨by decide, by decide⟩, ⟨by decide, by decide⟩, ⟨by decide, by decide⟩, by decide, by decide, by decide⟩, fun x hx => by simp [kD] at hx, by decide, by decide⟩
theorem fitX : ∀ x ∈ kC.ss, x.fit := fun x hx => by
  obtain rfl : x = kX := by simpa [kC] using hx
  exact ⟨⟨by decide, by decide⟩, ⟨by decide, by decide⟩, ⟨by decide, by decide⟩, ⟨by decide, by decide⟩, by decide, by decide⟩
theorem arr_neq (a b c e : Pl) (w : World) : (binOp .neq 25 (.agg (pps a b)) (.agg (pps c e))).run Tryd.prog w = .ok (.bool (!(decide (a = c) && decide (b = e)))) w := by
  have h := arr_eql a b c e w
  rw [run_eql_struct] at h
  rw [run_neq_struct]
  cases hq : ((Op.equalIn 10000 25 (.agg (pps a b)) (.agg (pps c e))).run Tryd.prog w) <;> simp_all
theorem ty_scores : TyA 28 2 := tya_array Tryd.underlying28 (by kernel_rfl)
theorem ld_scores (v : Value) : Instr.loadAt 28 v = ldT 28 v := rfl
theorem same_self' (a : St) (ao bo : Option Addr) (c1 c2 : Nat) (w : World) (h : a.ss = []) : Calls Tryd.prog 15 #[.agg (stc a ao c1), .agg (stc a bo c2)] w fun E w' => E = .returned (.bool true) ∧ Below w.heap.size w w' :=
  (same_c a a ao bo c1 c2 w (by rw [h]; exact shs_nil _ _) (by rw [h]; exact shs_nil _ _) (by rw [h]; exact Nat.zero_le _) (by rw [h]; exact Nat.zero_le _)).mono fun E w' ⟨e, hb⟩ => ⟨by rw [e]; simp [same], below_of_grown hb⟩
attribute [local go_sem ↓] arr_neq sc_neq ld_i32 ld_u8 ld_u64 ld_player ld_players ld_scores ld_shot ld_shots ld_state st_state st_u8 st_shot
set_option maxHeartbeats 4000000 in
theorem law_known (w : World) (hL : Laid w) :
    Calls Tryd.prog 5 #[] w fun E w' => E = .returned (.bool true) ∧ Below w.heap.size w w' := by
  have HL := Lib.hid hL
  have H0 := Lib.hid (Loc.nil (B := w.heap.size) (w := w) (Nat.le_refl _))
  clear hL
  go_enter Tryd.func5, Tryd.ntmps5
  go_wp2_with fail
  refine (still_c _).mono ?_
  rintro E w1 ⟨rfl, hb1⟩
  have Ha1 := H0.out.to hb1
  obtain ⟨g1, wa2, za5, sa3, Ha4, _⟩ := Ha1.newA ty_state zsc (stc (start 7) none 0) rfl rfl rfl
  replace Ha4 : Loc _ _ _ [(g1, 30, #[.int .u64 0, .int .u64 7, .int .i32 8192, .int .i32 14336, .int .i32 0, .int .i32 0, .int .u8 100, .int .u8 0, .int .u8 0, .int .i32 53248, .int .i32 14336, .int .i32 0, .int .i32 0, .int .u8 100, .int .u8 0, .int .u8 1, .slice none 0 0, .int .u16 0, .int .u16 0])] := Ha4
  have la6 := Ha4.ldA ty_state 0 rfl 0 (vs := (stc (start 7) none 0)) rfl (Nat.le_of_ble_eq_true rfl)
  have C2 : Hid (Calls Tryd.prog 10 #[.agg (stc (start 7) none 0), .agg #[.int .u8 0, .int .u8 0]] wa2 (StPost wa2.heap.size wa2 kA)) := stepAt (start 7) none 0 0 0 wa2 (shs_nil _ _) (fun _ => rfl) (by decide) (fit_start (by decide)) (by decide) (by decide) (HL.out.to Ha4.be) stpA
  go_wp2_with fail
  refine C2.out.mono ?_
  rintro E v2 ⟨ao2, cap2, rfl, hR2, hb2⟩
  have HB2 := Lib.hid hb2
  clear C2 hb2
  clear la6 za5 sa3
  have Ha7 := Ha4.to HB2.out
  clear hR2
  obtain ⟨g2, wa8, za11, sa9, Ha10, _⟩ := Ha7.newA ty_state zsc (stc kA ao2 cap2) rfl rfl rfl
  replace Ha10 : Loc _ _ _ [(g1, 30, #[.int .u64 0, .int .u64 7, .int .i32 8192, .int .i32 14336, .int .i32 0, .int .i32 0, .int .u8 100, .int .u8 0, .int .u8 0, .int .i32 53248, .int .i32 14336, .int .i32 0, .int .i32 0, .int .u8 100, .int .u8 0, .int .u8 1, .slice none 0 0, .int .u16 0, .int .u16 0]), (g2, 30, #[.int .u64 1, .int .u64 7, .int .i32 8192, .int .i32 14336, .int .i32 0, .int .i32 0, .int .u8 100, .int .u8 0, .int .u8 0, .int .i32 53248, .int .i32 14336, .int .i32 0, .int .i32 0, .int .u8 100, .int .u8 0, .int .u8 1, .slice ao2 0 cap2, .int .u16 0, .int .u16 0])] := Ha10
  go_upto_region 3 with fail
  clear za11 sa9
  have la12 := Ha10.ldO ty_u64 1 rfl 0 (v := .int .u64 1) rfl
  have la13 := Ha10.ldA ty_players 1 rfl 2 (vs := (pps ⟨8192, 14336, 0, 0, 100, 0, 0⟩ ⟨53248, 14336, 0, 0, 100, 0, 1⟩)) rfl (Nat.le_of_ble_eq_true rfl)
  have la14 := Ha10.ldA ty_players 0 rfl 2 (vs := (pps ⟨8192, 14336, 0, 0, 100, 0, 0⟩ ⟨53248, 14336, 0, 0, 100, 0, 1⟩)) rfl (Nat.le_of_ble_eq_true rfl)
  have la15 := Ha10.ldO ty_shots 1 rfl 16 (v := .slice ao2 0 cap2) rfl
  have la16 := Ha10.ldO ty_u64 1 rfl 1 (v := .int .u64 7) rfl
  have la17 := Ha10.ldO ty_u64 0 rfl 1 (v := .int .u64 7) rfl
  have la18 := Ha10.ldA ty_scores 1 rfl 17 (vs := #[.int .u16 0, .int .u16 0]) rfl (Nat.le_of_ble_eq_true rfl)
  have la19 := Ha10.ldA ty_scores 0 rfl 17 (vs := #[.int .u16 0, .int .u16 0]) rfl (Nat.le_of_ble_eq_true rfl)
  go_upto_region 5 with fail
  clear la19 la18 la17 la16 la15 la14 la13 la12
  have la20 := Ha10.ldA ty_state 0 rfl 0 (vs := (stc (start 7) none 0)) rfl (Nat.le_of_ble_eq_true rfl)
  have C3 : Hid (Calls Tryd.prog 10 #[.agg (stc (start 7) none 0), .agg #[.int .u8 34, .int .u8 0]] wa8 (StPost wa8.heap.size wa8 kB)) := stepAt (start 7) none 0 34 0 wa8 (shs_nil _ _) (fun _ => rfl) (by decide) (fit_start (by decide)) (by decide) (by decide) (HL.out.to Ha10.be) stpB
  go_wp2_with fail
  refine C3.out.mono ?_
  rintro E v3 ⟨ao3, cap3, rfl, hR3, hb3⟩
  have HB3 := Lib.hid hb3
  clear C3 hb3
  clear la20
  have Ha21 := Ha10.to HB3.out
  clear hR3
  obtain ⟨g3, wa22, za25, sa23, Ha24, _⟩ := Ha21.newA ty_state zsc (stc kB ao3 cap3) rfl rfl rfl
  replace Ha24 : Loc _ _ _ [(g1, 30, #[.int .u64 0, .int .u64 7, .int .i32 8192, .int .i32 14336, .int .i32 0, .int .i32 0, .int .u8 100, .int .u8 0, .int .u8 0, .int .i32 53248, .int .i32 14336, .int .i32 0, .int .i32 0, .int .u8 100, .int .u8 0, .int .u8 1, .slice none 0 0, .int .u16 0, .int .u16 0]), (g2, 30, #[.int .u64 1, .int .u64 7, .int .i32 8192, .int .i32 14336, .int .i32 0, .int .i32 0, .int .u8 100, .int .u8 0, .int .u8 0, .int .i32 53248, .int .i32 14336, .int .i32 0, .int .i32 0, .int .u8 100, .int .u8 0, .int .u8 1, .slice ao2 0 cap2, .int .u16 0, .int .u16 0]), (g3, 30, #[.int .u64 1, .int .u64 7, .int .i32 8320, .int .i32 14336, .int .i32 128, .int .i32 0, .int .u8 100, .int .u8 30, .int .u8 0, .int .i32 53248, .int .i32 14336, .int .i32 0, .int .i32 0, .int .u8 100, .int .u8 0, .int .u8 1, .slice ao3 0 cap3, .int .u16 0, .int .u16 0])] := Ha24
  have la26 := Ha24.ldA ty_state 0 rfl 0 (vs := (stc (start 7) none 0)) rfl (Nat.le_of_ble_eq_true rfl)
  have C4 : Hid (Calls Tryd.prog 10 #[.agg (stc (start 7) none 0), .agg #[.int .u8 16, .int .u8 0]] wa22 (StPost wa22.heap.size wa22 kC)) := stepAt (start 7) none 0 16 0 wa22 (shs_nil _ _) (fun _ => rfl) (by decide) (fit_start (by decide)) (by decide) (by decide) (HL.out.to Ha24.be) stpC
  go_wp2_with fail
  refine C4.out.mono ?_
  rintro E v4 ⟨ao4, cap4, rfl, hR4, hb4⟩
  have HB4 := Lib.hid hb4
  clear C4 hb4
  clear la26 za25 sa23
  have Ha27 := Ha24.to HB4.out
  obtain ⟨gr, csr, rfl, hBr, _⟩ := live_of hR4 (by decide)
  have HS4 : Hid (Shs v4 (some ⟨gr, 0, none⟩) kC.ss) := hR4.shs fitX
  clear hR4 hBr
  obtain ⟨g4, wa28, za31, sa29, Ha30, hq4⟩ := Ha27.newA ty_state zsc (stc kC (some ⟨gr, 0, none⟩) cap4) rfl rfl rfl
  replace Ha30 : Loc _ _ _ [(g1, 30, #[.int .u64 0, .int .u64 7, .int .i32 8192, .int .i32 14336, .int .i32 0, .int .i32 0, .int .u8 100, .int .u8 0, .int .u8 0, .int .i32 53248, .int .i32 14336, .int .i32 0, .int .i32 0, .int .u8 100, .int .u8 0, .int .u8 1, .slice none 0 0, .int .u16 0, .int .u16 0]), (g2, 30, #[.int .u64 1, .int .u64 7, .int .i32 8192, .int .i32 14336, .int .i32 0, .int .i32 0, .int .u8 100, .int .u8 0, .int .u8 0, .int .i32 53248, .int .i32 14336, .int .i32 0, .int .i32 0, .int .u8 100, .int .u8 0, .int .u8 1, .slice ao2 0 cap2, .int .u16 0, .int .u16 0]), (g3, 30, #[.int .u64 1, .int .u64 7, .int .i32 8320, .int .i32 14336, .int .i32 128, .int .i32 0, .int .u8 100, .int .u8 30, .int .u8 0, .int .i32 53248, .int .i32 14336, .int .i32 0, .int .i32 0, .int .u8 100, .int .u8 0, .int .u8 1, .slice ao3 0 cap3, .int .u16 0, .int .u16 0]), (g4, 30, #[.int .u64 1, .int .u64 7, .int .i32 8192, .int .i32 14336, .int .i32 0, .int .i32 0, .int .u8 100, .int .u8 10, .int .u8 0, .int .i32 53248, .int .i32 14336, .int .i32 0, .int .i32 0, .int .u8 100, .int .u8 0, .int .u8 1, .slice (some ⟨gr, 0, none⟩) 1 cap4, .int .u16 0, .int .u16 0])] := Ha30
  have HS5 : Hid (Shs wa28 (some ⟨gr, 0, none⟩) kC.ss) := Shs_grown HS4.out hq4 (by simp)
  clear HS4 hq4
  go_upto_region 7 with fail
  clear za31 sa29
  have la32 := Ha30.ldO ty_i32 2 rfl 2 (v := .int .i32 8320) rfl
  have la33 := Ha30.ldO ty_i32 0 rfl 2 (v := .int .i32 8192) rfl
  have la34 := Ha30.ldO ty_i32 2 rfl 4 (v := .int .i32 128) rfl
  have la35 := Ha30.ldO ty_u8 2 rfl 7 (v := .int .u8 30) rfl
  have la36 := Ha30.ldO ty_u8 2 rfl 8 (v := .int .u8 0) rfl
  have la37 := Ha30.ldO ty_shots 3 rfl 16 (v := .slice (some ⟨gr, 0, none⟩) 1 cap4) rfl
  have la38 := Ha30.ldO ty_u8 3 rfl 7 (v := .int .u8 10) rfl
  go_upto_region 9 with fail
  clear la38 la37 la36 la35 la34 la33 la32
  have la39 := Ha30.ldO ty_shots 3 rfl 16 (v := .slice (some ⟨gr, 0, none⟩) 1 cap4) rfl
  have lsh : (ldT 39 (.pointer (some ⟨gr, 0, none⟩))).run Tryd.prog wa28 = .ok (.agg #[.int .i32 12032, .int .i32 16128, .int .i32 2048, .int .i32 0, .int .u8 0, .int .u8 39]) wa28 := shs_ld (l := kC.ss) (o := 0) HS5.out 0 (by decide) (x := kX) rfl
  obtain ⟨g5, wa40, za43, sa41, Ha42, _⟩ := Ha30.newA ty_shot #[.int .i32 0, .int .i32 0, .int .i32 0, .int .i32 0, .int .u8 0, .int .u8 0] (#[.int .i32 12032, .int .i32 16128, .int .i32 2048, .int .i32 0, .int .u8 0, .int .u8 39]) rfl rfl rfl
  replace Ha42 : Loc _ _ _ [(g1, 30, #[.int .u64 0, .int .u64 7, .int .i32 8192, .int .i32 14336, .int .i32 0, .int .i32 0, .int .u8 100, .int .u8 0, .int .u8 0, .int .i32 53248, .int .i32 14336, .int .i32 0, .int .i32 0, .int .u8 100, .int .u8 0, .int .u8 1, .slice none 0 0, .int .u16 0, .int .u16 0]), (g2, 30, #[.int .u64 1, .int .u64 7, .int .i32 8192, .int .i32 14336, .int .i32 0, .int .i32 0, .int .u8 100, .int .u8 0, .int .u8 0, .int .i32 53248, .int .i32 14336, .int .i32 0, .int .i32 0, .int .u8 100, .int .u8 0, .int .u8 1, .slice ao2 0 cap2, .int .u16 0, .int .u16 0]), (g3, 30, #[.int .u64 1, .int .u64 7, .int .i32 8320, .int .i32 14336, .int .i32 128, .int .i32 0, .int .u8 100, .int .u8 30, .int .u8 0, .int .i32 53248, .int .i32 14336, .int .i32 0, .int .i32 0, .int .u8 100, .int .u8 0, .int .u8 1, .slice ao3 0 cap3, .int .u16 0, .int .u16 0]), (g4, 30, #[.int .u64 1, .int .u64 7, .int .i32 8192, .int .i32 14336, .int .i32 0, .int .i32 0, .int .u8 100, .int .u8 10, .int .u8 0, .int .i32 53248, .int .i32 14336, .int .i32 0, .int .i32 0, .int .u8 100, .int .u8 0, .int .u8 1, .slice (some ⟨gr, 0, none⟩) 1 cap4, .int .u16 0, .int .u16 0]), (g5, 39, #[.int .i32 12032, .int .i32 16128, .int .i32 2048, .int .i32 0, .int .u8 0, .int .u8 39])] := Ha42
  go_upto_region 10 with fail
  clear lsh HS5
  clear za43 sa41 la39
  have la44 := Ha42.ldO ty_i32 4 rfl 0 (v := .int .i32 12032) rfl
  have la45 := Ha42.ldO ty_i32 4 rfl 1 (v := .int .i32 16128) rfl
  have la46 := Ha42.ldO ty_i32 0 rfl 2 (v := .int .i32 8192) rfl
  have la47 := Ha42.ldO ty_i32 0 rfl 3 (v := .int .i32 14336) rfl
  have hmx : max (2048 : Int) (-2048) = 2048 := by decide
  go_upto_region 11 with fail
  clear hmx
  clear la47 la46 la45 la44
  have la48 := Ha42.ldA ty_state 0 rfl 0 (vs := (stc (start 7) none 0)) rfl (Nat.le_of_ble_eq_true rfl)
  obtain ⟨g6, wa49, za52, sa50, Ha51, _⟩ := Ha42.newA ty_state zsc (stc (start 7) none 0) rfl rfl rfl
  replace Ha51 : Loc _ _ _ [(g1, 30, #[.int .u64 0, .int .u64 7, .int .i32 8192, .int .i32 14336, .int .i32 0, .int .i32 0, .int .u8 100, .int .u8 0, .int .u8 0, .int .i32 53248, .int .i32 14336, .int .i32 0, .int .i32 0, .int .u8 100, .int .u8 0, .int .u8 1, .slice none 0 0, .int .u16 0, .int .u16 0]), (g2, 30, #[.int .u64 1, .int .u64 7, .int .i32 8192, .int .i32 14336, .int .i32 0, .int .i32 0, .int .u8 100, .int .u8 0, .int .u8 0, .int .i32 53248, .int .i32 14336, .int .i32 0, .int .i32 0, .int .u8 100, .int .u8 0, .int .u8 1, .slice ao2 0 cap2, .int .u16 0, .int .u16 0]), (g3, 30, #[.int .u64 1, .int .u64 7, .int .i32 8320, .int .i32 14336, .int .i32 128, .int .i32 0, .int .u8 100, .int .u8 30, .int .u8 0, .int .i32 53248, .int .i32 14336, .int .i32 0, .int .i32 0, .int .u8 100, .int .u8 0, .int .u8 1, .slice ao3 0 cap3, .int .u16 0, .int .u16 0]), (g4, 30, #[.int .u64 1, .int .u64 7, .int .i32 8192, .int .i32 14336, .int .i32 0, .int .i32 0, .int .u8 100, .int .u8 10, .int .u8 0, .int .i32 53248, .int .i32 14336, .int .i32 0, .int .i32 0, .int .u8 100, .int .u8 0, .int .u8 1, .slice (some ⟨gr, 0, none⟩) 1 cap4, .int .u16 0, .int .u16 0]), (g5, 39, #[.int .i32 12032, .int .i32 16128, .int .i32 2048, .int .i32 0, .int .u8 0, .int .u8 39]), (g6, 30, #[.int .u64 0, .int .u64 7, .int .i32 8192, .int .i32 14336, .int .i32 0, .int .i32 0, .int .u8 100, .int .u8 0, .int .u8 0, .int .i32 53248, .int .i32 14336, .int .i32 0, .int .i32 0, .int .u8 100, .int .u8 0, .int .u8 1, .slice none 0 0, .int .u16 0, .int .u16 0])] := Ha51
  obtain ⟨wa53, sa54, Ha55, _⟩ := Ha51.stO ty_u8 5 rfl 6 (.int .u8 101) (cs' := stc kD none 0) rfl (L' := [(g1, 30, #[.int .u64 0, .int .u64 7, .int .i32 8192, .int .i32 14336, .int .i32 0, .int .i32 0, .int .u8 100, .int .u8 0, .int .u8 0, .int .i32 53248, .int .i32 14336, .int .i32 0, .int .i32 0, .int .u8 100, .int .u8 0, .int .u8 1, .slice none 0 0, .int .u16 0, .int .u16 0]), (g2, 30, #[.int .u64 1, .int .u64 7, .int .i32 8192, .int .i32 14336, .int .i32 0, .int .i32 0, .int .u8 100, .int .u8 0, .int .u8 0, .int .i32 53248, .int .i32 14336, .int .i32 0, .int .i32 0, .int .u8 100, .int .u8 0, .int .u8 1, .slice ao2 0 cap2, .int .u16 0, .int .u16 0]), (g3, 30, #[.int .u64 1, .int .u64 7, .int .i32 8320, .int .i32 14336, .int .i32 128, .int .i32 0, .int .u8 100, .int .u8 30, .int .u8 0, .int .i32 53248, .int .i32 14336, .int .i32 0, .int .i32 0, .int .u8 100, .int .u8 0, .int .u8 1, .slice ao3 0 cap3, .int .u16 0, .int .u16 0]), (g4, 30, #[.int .u64 1, .int .u64 7, .int .i32 8192, .int .i32 14336, .int .i32 0, .int .i32 0, .int .u8 100, .int .u8 10, .int .u8 0, .int .i32 53248, .int .i32 14336, .int .i32 0, .int .i32 0, .int .u8 100, .int .u8 0, .int .u8 1, .slice (some ⟨gr, 0, none⟩) 1 cap4, .int .u16 0, .int .u16 0]), (g5, 39, #[.int .i32 12032, .int .i32 16128, .int .i32 2048, .int .i32 0, .int .u8 0, .int .u8 39]), (g6, 30, stc kD none 0)]) rfl (Nat.le_of_ble_eq_true rfl) rfl rfl
  go_upto_region 13 with fail
  clear sa54 za52 sa50 la48
  have HZ := Lib.hid Ha55
  have aa56 := HZ.out.onO ty_u8 4 rfl 4 (v := .int .u8 0) rfl
  have aa57 := HZ.out.onO ty_u8 4 rfl 5 (v := .int .u8 39) rfl
  have aa58 := HZ.out.onA ty_state 5 rfl 0 (vs := (stc kD none 0)) rfl (Nat.le_of_ble_eq_true rfl)
  have aa59 := HZ.out.onA ty_state 0 rfl 0 (vs := (stc (start 7) none 0)) rfl (Nat.le_of_ble_eq_true rfl)
  have CD : Hid (∀ W, G.On wa53.heap.size wa53 W → Calls Tryd.prog 10 #[.agg (stc kD none 0), .agg #[.int .u8 0, .int .u8 0]] W (StPost W.heap.size W kD)) := fun W hW => stepAt kD none 0 0 0 W (shs_nil _ _) (fun _ => rfl) (by decide) fitD (by decide) (by decide) (HL.out.to (HZ.out.to hW).be) stpD
  have CE : Hid (∀ W, G.On wa53.heap.size wa53 W → Calls Tryd.prog 10 #[.agg (stc (start 7) none 0), .agg #[.int .u8 0, .int .u8 255]] W (StPost W.heap.size W (start 7))) := fun W hW => stepAt (start 7) none 0 0 255 W (shs_nil _ _) (fun _ => rfl) (by decide) (fit_start (by decide)) (by decide) (by decide) (HL.out.to (HZ.out.to hW).be) stpE
  have CA : Hid (∀ W, G.On wa53.heap.size wa53 W → Calls Tryd.prog 8 #[] W fun E w' => E = .returned (.bool true) ∧ Below W.heap.size W w') := fun W hW => awake_c W (HL.out.to (HZ.out.to hW).be)
  have CSD : Hid (∀ (ao : Option Addr) (cap : Nat) W, Calls Tryd.prog 15 #[.agg (stc kD ao cap), .agg (stc kD none 0)] W fun E w' => E = .returned (.bool true) ∧ Below W.heap.size W w') := fun ao cap W => same_self' kD ao none cap 0 W rfl
  have CSE : Hid (∀ (ao : Option Addr) (cap : Nat) W, Calls Tryd.prog 15 #[.agg (stc (start 7) ao cap), .agg (stc (start 7) none 0)] W fun E w' => E = .returned (.bool true) ∧ Below W.heap.size W w') := fun ao cap W => same_self' (start 7) ao none cap 0 W rfl
  have o0 := G.On.drew wa53.heap.size wa53
  go_region_held3 (fun w' => G.On wa53.heap.size wa53 w') (first | with_reducible assumption) (first
    | (go_at_call 10; (with_reducible refine (CD.out _ (by assumption)).mono ?_); rintro E w7 ⟨ao7, cap7, rfl, hR7, hb7⟩; have o7 := G.on_step (wd := wa53) (by assumption) hb7)
    | (go_at_call 10; (with_reducible refine (CE.out _ (by assumption)).mono ?_); rintro E w7 ⟨ao7, cap7, rfl, hR7, hb7⟩; have o7 := G.on_step (wd := wa53) (by assumption) hb7)
    | (go_at_call 15; (with_reducible refine (CSD.out _ _ _).mono ?_); rintro E w7 ⟨rfl, hb7⟩; have o7 := G.on_step (wd := wa53) (by assumption) hb7)
    | (go_at_call 15; (with_reducible refine (CSE.out _ _ _).mono ?_); rintro E w7 ⟨rfl, hb7⟩; have o7 := G.on_step (wd := wa53) (by assumption) hb7)
    | (go_at_call 8; (with_reducible refine (CA.out _ (by assumption)).mono ?_); rintro E w7 ⟨rfl, hb7⟩; have o7 := G.on_step (wd := wa53) (by assumption) hb7))
  go_wp2
  go_ret
  exact ⟨rfl, (HZ.out.to (by assumption)).be⟩
end Go.Proofs.YtldpmbklkbbnmaaDoor
