/- The program's frame: one who is steered: contract. -/
import Derived.Test.YtgmbdadkahcpcaaDoorUf
import Derived.StillTactics
namespace Go.Proofs.YtgmbdadkahcpcaaDoor
open Go.RowKit
set_option linter.unusedVariables false
set_option linter.unusedSimpArgs false
set_option maxRecDepth 20000

theorem coolSub (c : Nat) (h : c < 256) : IntKind.u8.wrap ((c : Int) - min (c : Int) 1) = (coolOf c : Int) := by
  unfold coolOf
  split
  · rw [Int.min_eq_right (by omega)]; simp [IntKind.wrap, IntKind.bits, IntKind.signed]; omega
  · rw [Int.min_eq_left (by omega)]; simp [IntKind.wrap, IntKind.bits, IntKind.signed]; omega
attribute [local go_sem ↓] ld_i32 ld_u8 ld_bool ld_way ld_player st_i32 st_u8 st_bool st_player
set_option maxHeartbeats 2000000 in
theorem steered_c (p : Pl) (i : Nat) (w : World) (hi : i < 256) (hp : p.ok) (hF : Fac w) :
    Calls Tryd.prog 42 #[pv p, .int .u8 (i : Int)] w fun E w' => E = .returned (pv (one p (inp i))) ∧ Below w.heap.size w w' := by
  have hmf : ∀ (fn : Fn) (first cap : Array Value) (w : World), (Instr.makeFunc fn first cap).run Tryd.prog w = .ok (.func fn first cap) w := fun _ _ _ _ => rfl
  have HP := Lib.hid hp
  have hin := inp_ok i
  obtain ⟨z, hz⟩ : ∃ z, z = inp i := ⟨_, rfl⟩
  have HD : Hid (∀ W, Calls Tryd.prog 54 #[.int .u8 (i : Int)] W fun E w' => E = .returned (.tuple #[.int .i32 z.x, .int .i32 z.y]) ∧ W = w') := fun W => by
    have hs := I.bits_same ⟨i, hi⟩
    dsimp only at hs
    rw [hz]; have := I.dir_c i W hi; rw [hs.1, hs.2.1] at this; exact this
  have HA : Hid (∀ W, Calls Tryd.prog 56 #[.int .u8 (i : Int)] W fun E w' => E = .returned (.bool z.d) ∧ W = w') := fun W => by
    have hs := I.bits_same ⟨i, hi⟩
    dsimp only at hs
    rw [hz]; have := I.dash_c i W hi; rw [hs.2.2.2] at this; exact this
  rw [← hz] at hin ⊢
  have HIN := Lib.hid hin
  clear hin hz hi
  obtain ⟨Q, hQ⟩ : ∃ Q : Ending → World → Prop, Q = fun E w' => E = .returned (pv (one p z)) ∧ Below w.heap.size w w' := ⟨_, rfl⟩
  rw [← hQ]
  have HQ : Hid (∀ w', Below w.heap.size w w' → Q (.returned (pv (one p z))) w') := fun w' h => by rw [hQ]; exact ⟨rfl, h⟩
  clear hQ
  have H0 := Lib.hid (Loc.two w 24 24 (pcs p) zpl)
  have HF := Lib.hid hF
  have hF0 := hF.1
  clear hF hp
  unfold pv
  go_enter Tryd.func42, Tryd.ntmps42
  go_upto_region 1 with fail
  generalize (w.alloc (.cells (pcs p) 24)).alloc (.cells zpl 24) = wa at *
  obtain ⟨g2, za3⟩ : ∃ g, wa.heap.size = g := ⟨_, rfl⟩
  have Ha1 := H0.out.more 89 #[.int .i32 0, .int .i32 0]
  rw [za3] at Ha1
  go_upto_region 2 with fail
  generalize wa.alloc (.cells #[.int .i32 0, .int .i32 0] 89) = wa2 at *
  clear za3
  replace Ha1 : Loc _ _ wa2 [(w.heap.size, 24, #[.int .i32 p.x, .int .i32 p.y, .int .i32 p.vx, .int .i32 p.vy, .int .u8 (p.h : Int), .int .u8 (p.c : Int), .int .u8 (p.f : Int)]), (w.heap.size + 1, 24, zpl), (g2, 89, #[.int .i32 0, .int .i32 0])] := Ha1
  go_wp2_with fail
  refine (HD.out _).mono ?_
  rintro E w4 ⟨rfl, rfl⟩
  obtain ⟨wa4, sa5, Ha6, _⟩ := Ha1.stO ty_i32 2 rfl 0 (.int .i32 z.x) (cs' := #[.int .i32 z.x, .int .i32 0]) rfl (L' := [(w.heap.size, 24, #[.int .i32 p.x, .int .i32 p.y, .int .i32 p.vx, .int .i32 p.vy, .int .u8 (p.h : Int), .int .u8 (p.c : Int), .int .u8 (p.f : Int)]), (w.heap.size + 1, 24, zpl), (g2, 89, #[.int .i32 z.x, .int .i32 0])]) rfl (Nat.le_of_ble_eq_true rfl) rfl rfl
  obtain ⟨wa7, sa8, Ha9, _⟩ := Ha6.stO ty_i32 2 rfl 1 (.int .i32 z.y) (cs' := #[.int .i32 z.x, .int .i32 z.y]) rfl (L' := [(w.heap.size, 24, #[.int .i32 p.x, .int .i32 p.y, .int .i32 p.vx, .int .i32 p.vy, .int .u8 (p.h : Int), .int .u8 (p.c : Int), .int .u8 (p.f : Int)]), (w.heap.size + 1, 24, zpl), (g2, 89, #[.int .i32 z.x, .int .i32 z.y])]) rfl (Nat.le_of_ble_eq_true rfl) rfl rfl
  have la10 := Ha9.ldO ty_u8 0 rfl 5 (v := .int .u8 (p.c : Int)) rfl
  have hcs := coolSub p.c (by have := HP.out.c; omega)
  obtain ⟨cc, hcc⟩ : ∃ cc, cc = coolOf p.c := ⟨_, rfl⟩
  rw [← hcc] at hcs
  have HCC := Lib.hid hcc
  clear hcc
  obtain ⟨wa11, sa12, Ha13, _⟩ := Ha9.stO ty_u8 0 rfl 5 (.int .u8 (cc : Int)) (cs' := #[.int .i32 p.x, .int .i32 p.y, .int .i32 p.vx, .int .i32 p.vy, .int .u8 (p.h : Int), .int .u8 (cc : Int), .int .u8 (p.f : Int)]) rfl (L' := [(w.heap.size, 24, #[.int .i32 p.x, .int .i32 p.y, .int .i32 p.vx, .int .i32 p.vy, .int .u8 (p.h : Int), .int .u8 (cc : Int), .int .u8 (p.f : Int)]), (w.heap.size + 1, 24, zpl), (g2, 89, #[.int .i32 z.x, .int .i32 z.y])]) rfl (Nat.le_of_ble_eq_true rfl) rfl rfl
  have la14 := Ha13.ldO ty_u8 0 rfl 6 (v := .int .u8 (p.f : Int)) rfl
  have la15 := Ha13.ldA ty_way 2 rfl 0 (vs := #[.int .i32 z.x, .int .i32 z.y]) rfl (Nat.le_of_ble_eq_true rfl)
  have HFC := Lib.hid (faced_c p.f z HIN.out wa11 (fac_below HF.out Ha13.be hF0))
  go_wp2_with fail
  refine HFC.out.mono ?_
  rintro E w5 ⟨rfl, hb5⟩
  clear la15 la14 sa12 la10 sa8 sa5
  have Ha16 := Ha13.to hb5
  obtain ⟨fc, hfc⟩ : ∃ fc, fc = faceOf z p.f := ⟨_, rfl⟩
  rw [← hfc]
  have HFV := Lib.hid hfc
  clear hfc HFC hcs
  obtain ⟨wa17, sa18, Ha19, _⟩ := Ha16.stO ty_u8 0 rfl 6 (.int .u8 (fc : Int)) (cs' := #[.int .i32 p.x, .int .i32 p.y, .int .i32 p.vx, .int .i32 p.vy, .int .u8 (p.h : Int), .int .u8 (cc : Int), .int .u8 (fc : Int)]) rfl (L' := [(w.heap.size, 24, #[.int .i32 p.x, .int .i32 p.y, .int .i32 p.vx, .int .i32 p.vy, .int .u8 (p.h : Int), .int .u8 (cc : Int), .int .u8 (fc : Int)]), (w.heap.size + 1, 24, zpl), (g2, 89, #[.int .i32 z.x, .int .i32 z.y])]) rfl (Nat.le_of_ble_eq_true rfl) rfl rfl
  go_upto_region 5 with fail
  clear sa18
  obtain ⟨b, hb⟩ : ∃ b, b = (z.d && decide (cc = 0)) := ⟨_, rfl⟩
  have HBB := Lib.hid hb
  clear hb
  go_cut [6] (fun s6 wx => ∃ g, s6 = .pointer (some ⟨g, 0, none⟩) ∧ Hid (Loc w.heap.size w wx ([(w.heap.size, 24, #[.int .i32 p.x, .int .i32 p.y, .int .i32 p.vx, .int .i32 p.vy, .int .u8 (p.h : Int), .int .u8 (cc : Int), .int .u8 (fc : Int)]), (w.heap.size + 1, 24, zpl), (g2, 89, #[.int .i32 z.x, .int .i32 z.y]), (g, 4, #[.bool b])])))
  case first =>
    have la20 := Ha19.ldO ty_u8 0 rfl 5 (v := .int .u8 (cc : Int)) rfl
    go_wp2_with fail
    refine (HA.out _).mono ?_
    rintro E w6 ⟨rfl, rfl⟩
    obtain ⟨g3, wa21, za24, sa22, Ha23, _⟩ := Ha19.newO ty_bool (.bool false) (.bool b) rfl rfl
    replace Ha23 : Loc _ _ _ [(w.heap.size, 24, #[.int .i32 p.x, .int .i32 p.y, .int .i32 p.vx, .int .i32 p.vy, .int .u8 (p.h : Int), .int .u8 (cc : Int), .int .u8 (fc : Int)]), (w.heap.size + 1, 24, zpl), (g2, 89, #[.int .i32 z.x, .int .i32 z.y]), (g3, 4, #[.bool b])] := Ha23
    cases hzd : z.d
    · have hbf : b = false := by rw [HBB.out, hzd]; rfl
      subst hbf
      go_wp2_with fail
      all_goals go_meet
      all_goals exact ⟨_, rfl, Ha23⟩
    · by_cases hc : cc = 0
      · have hbt : b = true := by rw [HBB.out, hzd, hc]; rfl
        have hcb : ((cc : Int) == 0) = true := beq_iff_eq.2 (by omega)
        subst hbt
        go_wp2_with fail
        all_goals go_meet
        all_goals exact ⟨_, rfl, Ha23⟩
      · have hbf : b = false := by rw [HBB.out, hzd]; simp [hc]
        have hcb : ((cc : Int) == 0) = false := beq_eq_false_iff_ne.2 (by omega)
        subst hbf
        go_wp2_with fail
        all_goals go_meet
        all_goals exact ⟨_, rfl, Ha23⟩
  case rest =>
  obtain ⟨g3, rfl, HR⟩ := hcut
  clear Ha19 HA HD HF hb5 hF0
  obtain ⟨x1, x2⟩ := HIN.out.1
  obtain ⟨y1, y2⟩ := HIN.out.2
  have hvx := HP.out.vx
  have hvy := HP.out.vy
  go_upto_region 7 with fail
  obtain ⟨wd, hwd⟩ : ∃ wd, ({ wc with drawn := wc.drawn + 1 } : World) = wd := ⟨_, rfl⟩
  have Ha20 : Loc (w.heap.size) w wd [(w.heap.size, 24, #[.int .i32 p.x, .int .i32 p.y, .int .i32 p.vx, .int .i32 p.vy, .int .u8 (p.h : Int), .int .u8 (cc : Int), .int .u8 (fc : Int)]), (w.heap.size + 1, 24, zpl), (g2, 89, #[.int .i32 z.x, .int .i32 z.y]), (g3, 4, #[.bool b])] := by rw [← hwd]; exact HR.out.drew
  have la21 := Ha20.ldO ty_bool 3 rfl 0 (v := .bool b) rfl
  have S1 := Lib.hid (spd1_c p.vx z.x b g3 wd hvx ⟨x1, x2⟩ la21)
  have S2 := Lib.hid (spd1_c p.vy z.y b g3 wd hvy ⟨y1, y2⟩ la21)
  have HONE : Hid (one p z = ⟨p.x, p.y, spd p.vx z.x b, spd p.vy z.y b, p.h, if b = true then 30 else cc, fc⟩) := by show _ = _; rw [HBB.out, HCC.out, HFV.out]; rfl
  rw [HONE.out] at HQ
  clear HONE HBB HCC HFV HP HIN x1 x2 y1 y2 hvx hvy HR
  generalize spd p.vx z.x b = v1 at *
  generalize spd p.vy z.y b = v2 at *
  have la22 := Ha20.ldO ty_i32 0 rfl 2 (v := .int .i32 p.vx) rfl
  have la23 := Ha20.ldO ty_i32 2 rfl 0 (v := .int .i32 z.x) rfl
  have la24 := Ha20.ldO ty_i32 0 rfl 3 (v := .int .i32 p.vy) rfl
  have la25 := Ha20.ldO ty_i32 2 rfl 1 (v := .int .i32 z.y) rfl
  obtain ⟨wa26, sa27, Ha28, _⟩ := Ha20.stO ty_i32 0 rfl 2 (.int .i32 v1) (cs' := #[.int .i32 p.x, .int .i32 p.y, .int .i32 v1, .int .i32 p.vy, .int .u8 (p.h : Int), .int .u8 (cc : Int), .int .u8 (fc : Int)]) rfl (L' := [(w.heap.size, 24, #[.int .i32 p.x, .int .i32 p.y, .int .i32 v1, .int .i32 p.vy, .int .u8 (p.h : Int), .int .u8 (cc : Int), .int .u8 (fc : Int)]), (w.heap.size + 1, 24, zpl), (g2, 89, #[.int .i32 z.x, .int .i32 z.y]), (g3, 4, #[.bool b])]) rfl (Nat.le_of_ble_eq_true rfl) rfl rfl
  obtain ⟨wa29, sa30, Ha31, _⟩ := Ha28.stO ty_i32 0 rfl 3 (.int .i32 v2) (cs' := #[.int .i32 p.x, .int .i32 p.y, .int .i32 v1, .int .i32 v2, .int .u8 (p.h : Int), .int .u8 (cc : Int), .int .u8 (fc : Int)]) rfl (L' := [(w.heap.size, 24, #[.int .i32 p.x, .int .i32 p.y, .int .i32 v1, .int .i32 v2, .int .u8 (p.h : Int), .int .u8 (cc : Int), .int .u8 (fc : Int)]), (w.heap.size + 1, 24, zpl), (g2, 89, #[.int .i32 z.x, .int .i32 z.y]), (g3, 4, #[.bool b])]) rfl (Nat.le_of_ble_eq_true rfl) rfl rfl
  refine wp_region_still_tail 13 (by kernel_rfl) (by kernel_rfl) ?_
  simp only [List.take_succ_cons, List.take_zero, List.drop_succ_cons, List.drop_zero]
  rw [hwd]
  clear hwd
  repeat still_step
  still_call (S1.out.mono fun _ _ ⟨h1, h2⟩ => ⟨h1, h2.symm⟩)
  repeat still_step
  still_call (S2.out.mono fun _ _ ⟨h1, h2⟩ => ⟨h1, h2.symm⟩)
  repeat still_step
  refine wpStill_nil ?_
  go_upto_region 8 with fail
  clear sa30 sa27 la25 la24 la23 la22 la21
  cases b
  · have la32 := Ha31.ldO ty_bool 3 rfl 0 (v := .bool false) rfl
    have la33 := Ha31.ldA ty_player 0 rfl 0 (vs := (pcs ⟨p.x, p.y, v1, v2, p.h, cc, fc⟩)) rfl (Nat.le_of_ble_eq_true rfl)
    obtain ⟨wa34, sa35, Ha36, _⟩ := Ha31.stA ty_player 1 rfl 0 (pcs ⟨p.x, p.y, v1, v2, p.h, cc, fc⟩) (cs' := pcs ⟨p.x, p.y, v1, v2, p.h, cc, fc⟩) rfl (L' := [(w.heap.size, 24, #[.int .i32 p.x, .int .i32 p.y, .int .i32 v1, .int .i32 v2, .int .u8 (p.h : Int), .int .u8 (cc : Int), .int .u8 (fc : Int)]), (w.heap.size + 1, 24, pcs ⟨p.x, p.y, v1, v2, p.h, cc, fc⟩), (g2, 89, #[.int .i32 z.x, .int .i32 z.y]), (g3, 4, #[.bool false])]) rfl (Nat.le_of_ble_eq_true rfl) rfl rfl
    go_wp2
    refine bodyPost_ret (v := .agg (pcs ⟨p.x, p.y, v1, v2, p.h, cc, fc⟩)) (ret_struct Tryd.underlying24 ty_player _ 4 _ Tryd.results42 (Ha36.get 1 rfl) rfl rfl) rfl ?_
    exact HQ.out _ Ha36.be
  · have la32 := Ha31.ldO ty_bool 3 rfl 0 (v := .bool true) rfl
    obtain ⟨wa33, sa34, Ha35, _⟩ := Ha31.stO ty_u8 0 rfl 5 (.int .u8 30) (cs' := #[.int .i32 p.x, .int .i32 p.y, .int .i32 v1, .int .i32 v2, .int .u8 (p.h : Int), .int .u8 30, .int .u8 (fc : Int)]) rfl (L' := [(w.heap.size, 24, #[.int .i32 p.x, .int .i32 p.y, .int .i32 v1, .int .i32 v2, .int .u8 (p.h : Int), .int .u8 30, .int .u8 (fc : Int)]), (w.heap.size + 1, 24, zpl), (g2, 89, #[.int .i32 z.x, .int .i32 z.y]), (g3, 4, #[.bool true])]) rfl (Nat.le_of_ble_eq_true rfl) rfl rfl
    have la36 := Ha35.ldA ty_player 0 rfl 0 (vs := (pcs ⟨p.x, p.y, v1, v2, p.h, 30, fc⟩)) rfl (Nat.le_of_ble_eq_true rfl)
    obtain ⟨wa37, sa38, Ha39, _⟩ := Ha35.stA ty_player 1 rfl 0 (pcs ⟨p.x, p.y, v1, v2, p.h, 30, fc⟩) (cs' := pcs ⟨p.x, p.y, v1, v2, p.h, 30, fc⟩) rfl (L' := [(w.heap.size, 24, #[.int .i32 p.x, .int .i32 p.y, .int .i32 v1, .int .i32 v2, .int .u8 (p.h : Int), .int .u8 30, .int .u8 (fc : Int)]), (w.heap.size + 1, 24, pcs ⟨p.x, p.y, v1, v2, p.h, 30, fc⟩), (g2, 89, #[.int .i32 z.x, .int .i32 z.y]), (g3, 4, #[.bool true])]) rfl (Nat.le_of_ble_eq_true rfl) rfl rfl
    go_wp2
    refine bodyPost_ret (v := .agg (pcs ⟨p.x, p.y, v1, v2, p.h, 30, fc⟩)) (ret_struct Tryd.underlying24 ty_player _ 4 _ Tryd.results42 (Ha39.get 1 rfl) rfl rfl) rfl ?_
    exact HQ.out _ Ha39.be
end Go.Proofs.YtgmbdadkahcpcaaDoor
