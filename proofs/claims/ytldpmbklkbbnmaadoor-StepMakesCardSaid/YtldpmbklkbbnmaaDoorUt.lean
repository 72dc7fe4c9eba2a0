/- StepRests: the walk. -/
import Derived.Test.YtldpmbklkbbnmaaDoorUs
import Derived.BigQuiet
namespace Go.Proofs.YtldpmbklkbbnmaaDoor
open Go.RowKit
set_option linter.unusedVariables false
set_option linter.unusedSimpArgs false
set_option maxRecDepth 20000

theorem inp_none : inp 0 = .none := rfl
theorem stp_none {s : St} (h : s.good = true) : stp s 0 0 = frame src s .none .none := by unfold stp; rw [if_pos ⟨h, by decide, by decide⟩, inp_none]
theorem fr_sixty (n : Nat) : IntKind.u64.wrap ((n : Int) + 60) = (((n + 60) % 18446744073709551616 : Nat) : Int) := by
  have : ((n : Int) + 60) = ((n + 60 : Nat) : Int) := rfl
  rw [this]; exact R.wrap_u64 (n + 60)
/-- A state of players who rest. -/
def rest (fr sd s0 s1 : Nat) (px py qx qy : Int) (ph pf qh qf : Nat) : St := ⟨fr, sd, ⟨px, py, 0, 0, ph, 0, pf⟩, ⟨qx, qy, 0, 0, qh, 0, qf⟩, [], s0, s1⟩
theorem rests {s : St} (h : s.good = true) (hf : s.fit) (hn : s.ss = []) : ∃ sd s0 s1 px py qx qy, frames src s 60 = rest ((s.fr + 60) % 18446744073709551616) sd s0 s1 px py qx qy s.p.h s.p.f s.q.h s.q.f ∧
    (frame src (frames src s 60) .none .none).p = ⟨px, py, 0, 0, s.p.h, 0, s.p.f⟩ ∧ (frame src (frames src s 60) .none .none).q = ⟨qx, qy, 0, 0, s.q.h, 0, s.q.f⟩ := by
  obtain ⟨a1, a2, a3, b1, b2, b3, c1, c2⟩ := frames_rest src_ok h hf hn
  obtain ⟨_, _, n, fr, ph, qh, pf, qf, _, _⟩ := frames_says src_ok h hf hn 60
  generalize frame src (frames src s 60) .none .none = u at *
  generalize frames src s 60 = t at *
  obtain ⟨f', sd, ⟨px, py, pvx, pvy, h', c', pf'⟩, ⟨qx, qy, qvx, qvy, qh', qc', qf'⟩, ss, s0, s1⟩ := t
  dsimp only at *
  subst a1 a2 a3 b1 b2 b3 n fr ph qh pf qf
  exact ⟨sd, s0, s1, px, py, qx, qy, rfl, c1, c2⟩
theorem step_none (s : St) (ao : Option Addr) (cap : Nat) (w : World) (h : s.good = true) (hs : s.ss = []) (hn : ao = none → cap = 0) (hf : s.fit) (hL : Laid w) :
    Calls Tryd.prog 10 #[.agg (stc s ao cap), .agg #[.int .u8 0, .int .u8 0]] w (StPost w.heap.size w (frame src s .none .none)) :=
  stepAt s ao cap 0 0 w (by rw [hs]; exact shs_nil _ _) hn (by rw [hs]; decide) hf (by decide) (by decide) hL (stp_none h)
theorem frames_next (s : St) (k : Nat) : frames src s (k + 1) = frame src (frames src s k) .none .none := rfl
attribute [local go_sem ↓] arr_eql ld_i32 ld_u8 ld_u64 ld_player ld_players ld_state st_shots st_player st_state
set_option maxHeartbeats 4000000 in
theorem law_rests (s : St) (ao : Option Addr) (cap : Nat) (w : World) (hf : s.fit) (hL : Laid w) :
    Calls Tryd.prog 7 #[sv s ao cap] w fun E w' => E = .returned (.bool true) ∧ Below w.heap.size w w' := by
  have HL := Lib.hid hL
  have H0 := Lib.hid (Loc.one w 30 (stc s ao cap))
  have HFT : Hid ({ s with ss := [] } : St).fit := ⟨hf.1, hf.2.1, hf.2.2.1, hf.2.2.2.1, fun x hx => (by simp at hx), hf.2.2.2.2.2.1, hf.2.2.2.2.2.2⟩
  clear hL hf
  go_enter Tryd.func7, Tryd.ntmps7
  go_upto_region 1 with fail
  generalize w.alloc (.cells (stc s ao cap) 30) = wa at *
  obtain ⟨wa1, sa2, Ha3, _⟩ := H0.out.stO ty_shots 0 rfl 16 (.slice none 0 0) (cs' := stc { s with ss := [] } none 0) rfl (L' := [(w.heap.size, 30, stc { s with ss := [] } none 0)]) rfl (Nat.le_of_ble_eq_true rfl) rfl rfl
  have la4 := Ha3.ldA ty_state 0 rfl 0 (vs := (stc { s with ss := [] } none 0)) rfl (Nat.le_of_ble_eq_true rfl)
  have hck : chk { s with ss := [] } = if ({ s with ss := [] } : St).good = true then 0 else 4 := rfl
  have CC := Lib.hid (check_c { s with ss := [] } none 0 wa1 (shs_nil _ _) HFT.out (HL.out.to Ha3.be).t)
  cases hgd : ({ s with ss := [] } : St).good
  · rw [hgd] at hck
    rw [hck] at CC
    clear hck
    have hcz : (if false = true then (0 : Int) else 4) = 4 := rfl
    rw [hcz] at CC
    clear hcz hgd
    go_wp2_with fail
    refine CC.out.mono ?_
    rintro E w2 ⟨rfl, hb2⟩
    clear la4 sa2
    have Ha5 := Ha3.to (below_of_grown hb2)
    go_wp2_with fail
    refine (awake_c w2 (HL.out.to Ha5.be)).mono ?_
    rintro E w3 ⟨rfl, hb3⟩
    go_wp2
    go_ret
    exact ⟨rfl, (Ha5.to hb3).be⟩
  · rw [hgd] at hck
    rw [hck] at CC
    clear hck
    have hcz : (if true = true then (0 : Int) else 4) = 0 := rfl
    rw [hcz] at CC
    clear hcz
    have HG := Lib.hid hgd
    clear hgd
    go_wp2_with fail
    refine CC.out.mono ?_
    rintro E w2 ⟨rfl, hb2⟩
    have HB2 := Lib.hid (below_of_grown hb2)
    clear hb2 CC
    clear la4 sa2
    have Ha5 := Ha3.to HB2.out
    obtain ⟨s0, hs0⟩ : ∃ z : St, z = { s with ss := [] } := ⟨_, rfl⟩
    replace Ha5 : Loc w.heap.size w w2 [(w.heap.size, 30, stc s0 none 0)] := by rw [hs0]; exact Ha5
    rw [← hs0] at HG HFT
    have HSS : Hid (s0.ss = []) := by show _ = _; rw [hs0]
    clear hs0
    have la6 := Ha5.ldA ty_state 0 rfl 0 (vs := (stc s0 none 0)) rfl (Nat.le_of_ble_eq_true rfl)
    obtain ⟨g1, wa7, za10, sa8, Ha9, _⟩ := Ha5.newA ty_state zsc (stc s0 none 0) rfl rfl rfl
    replace Ha9 : Loc _ _ _ [(w.heap.size, 30, #[.int .u64 (s0.fr : Int), .int .u64 (s0.sd : Int), .int .i32 s0.p.x, .int .i32 s0.p.y, .int .i32 s0.p.vx, .int .i32 s0.p.vy, .int .u8 (s0.p.h : Int), .int .u8 (s0.p.c : Int), .int .u8 (s0.p.f : Int), .int .i32 s0.q.x, .int .i32 s0.q.y, .int .i32 s0.q.vx, .int .i32 s0.q.vy, .int .u8 (s0.q.h : Int), .int .u8 (s0.q.c : Int), .int .u8 (s0.q.f : Int), .slice none s0.ss.length 0, .int .u16 (s0.s0 : Int), .int .u16 (s0.s1 : Int)]), (g1, 30, (stc s0 none 0))] := Ha9
    go_upto_region 6 with fail
    go_loopw [4] (fun v wr => ∃ (k : Nat) (ao1 : Option Addr) (cap1 : Nat), k ≤ 60 ∧ v = .int .i64 k ∧ Hid (ao1 = none → cap1 = 0) ∧ Hid (Loc w.heap.size w wr [(w.heap.size, 30, stc s0 none 0), (g1, 30, stc (frames src s0 k) ao1 cap1)])) (fun v _ => 60 - (intOf v).toNat)
    case atStart => exact ⟨0, none, 0, by omega, rfl, fun _ => rfl, Ha9⟩
    case round =>
      clear za10 sa8 la6 Ha9 HB2 H0
      obtain ⟨k, ao1, cap1, hk, rfl, HN, HR⟩ := hrel
      by_cases hlt : k < 60
      · obtain ⟨hg, hff, hss, _⟩ := frames_says src_ok HG.out HFT.out HSS.out k
        have CS := Lib.hid (step_none (frames src s0 k) ao1 cap1 wr hg hss HN.out hff (HL.out.to HR.out.be))
        rw [← frames_next] at CS
        clear hg hff hss
        have lr1 := HR.out.ldA ty_state 1 rfl 0 (vs := (stc (frames src s0 k) ao1 cap1)) rfl (Nat.le_of_ble_eq_true rfl)
        go_wp2_with fail
        refine CS.out.mono ?_
        rintro E w4 ⟨ao4, cap4, rfl, hR4, hb4⟩
        clear lr1
        have Hr2 := HR.out.to hb4
        obtain ⟨wr3, sr4, Hr5, _⟩ := Hr2.stA ty_state 1 rfl 0 (stc (frames src s0 (k + 1)) ao4 cap4) (cs' := stc (frames src s0 (k + 1)) ao4 cap4) rfl (L' := [(w.heap.size, 30, #[.int .u64 (s0.fr : Int), .int .u64 (s0.sd : Int), .int .i32 s0.p.x, .int .i32 s0.p.y, .int .i32 s0.p.vx, .int .i32 s0.p.vy, .int .u8 (s0.p.h : Int), .int .u8 (s0.p.c : Int), .int .u8 (s0.p.f : Int), .int .i32 s0.q.x, .int .i32 s0.q.y, .int .i32 s0.q.vx, .int .i32 s0.q.vy, .int .u8 (s0.q.h : Int), .int .u8 (s0.q.c : Int), .int .u8 (s0.q.f : Int), .slice none s0.ss.length 0, .int .u16 (s0.s0 : Int), .int .u16 (s0.s1 : Int)]), (g1, 30, stc (frames src s0 (k + 1)) ao4 cap4)]) rfl (Nat.le_of_ble_eq_true rfl) rfl rfl
        have HN4 := Lib.hid hR4.nil
        clear hR4 CS
        go_wp2
        go_roundw
        case rel => exact ⟨k + 1, ao4, cap4, by omega, by go_num, HN4.out, Hr5⟩
        case measure => simp [intOf]; omega
      · obtain rfl : k = 60 := by omega
        obtain ⟨sd, c0, c1, px, py, qx, qy, hfr, hup, huq⟩ := rests HG.out HFT.out HSS.out
        obtain ⟨hg, hff, hss, _⟩ := frames_says src_ok HG.out HFT.out HSS.out 60
        obtain ⟨fr, hfn⟩ : ∃ n : Nat, n = (s0.fr + 60) % 18446744073709551616 := ⟨_, rfl⟩
        have h60 := fr_sixty s0.fr
        rw [← hfn] at h60 hfr
        have HR2 : Loc w.heap.size w wr [(w.heap.size, 30, stc s0 none 0), (g1, 30, stc (rest fr sd c0 c1 px py qx qy s0.p.h s0.p.f s0.q.h s0.q.f) ao1 cap1)] := by rw [← hfr]; exact HR.out
        obtain ⟨U, hU⟩ : ∃ U, U = frame src (frames src s0 60) .none .none := ⟨_, rfl⟩
        rw [← hU] at hup huq
        have CU : ∀ W, Laid W → Calls Tryd.prog 10 #[.agg (stc (rest fr sd c0 c1 px py qx qy s0.p.h s0.p.f s0.q.h s0.q.f) ao1 cap1), .agg #[.int .u8 0, .int .u8 0]] W (StPost W.heap.size W U) := fun W hW => by rw [← hfr, hU]; exact step_none (frames src s0 60) ao1 cap1 W hg hss HN.out hff hW
        have HCU := Lib.hid CU
        have HUP := Lib.hid hup
        have HUQ := Lib.hid huq
        clear hfr hU hup huq hg hff hss hfn CU HR HN
        rw [show ((60 : Nat) : Int) = 60 from rfl]
        go_wp2
        go_loopw [5] (fun v wr => ∃ k : Nat, k ≤ 2 ∧ v = .int .i64 k ∧ Hid (Loc w.heap.size w wr [(w.heap.size, 30, stc s0 none 0), (g1, 30, stc (rest fr sd c0 c1 px py qx qy s0.p.h s0.p.f s0.q.h s0.q.f) ao1 cap1)])) (fun v _ => 2 - (intOf v).toNat)
        case atStart => exact ⟨0, by omega, rfl, HR2⟩
        case round =>
          clear HR2
          obtain ⟨k, hk2, rfl, HR⟩ := hrel
          match k, hk2 with
          | 0, _ =>
            rw [show ((0 : Nat) : Int) = 0 from rfl]
            have lu01 := HR.out.ldA ty_player 1 rfl 2 (vs := (pcs ⟨px, py, 0, 0, s0.p.h, 0, s0.p.f⟩)) rfl (Nat.le_of_ble_eq_true rfl)
            obtain ⟨g3, wu02, zu05, su03, Hu04, _⟩ := HR.out.newA ty_player zpl (pcs ⟨px, py, 0, 0, s0.p.h, 0, s0.p.f⟩) rfl rfl rfl
            replace Hu04 : Loc _ _ _ [(w.heap.size, 30, #[.int .u64 (s0.fr : Int), .int .u64 (s0.sd : Int), .int .i32 s0.p.x, .int .i32 s0.p.y, .int .i32 s0.p.vx, .int .i32 s0.p.vy, .int .u8 (s0.p.h : Int), .int .u8 (s0.p.c : Int), .int .u8 (s0.p.f : Int), .int .i32 s0.q.x, .int .i32 s0.q.y, .int .i32 s0.q.vx, .int .i32 s0.q.vy, .int .u8 (s0.q.h : Int), .int .u8 (s0.q.c : Int), .int .u8 (s0.q.f : Int), .slice none s0.ss.length 0, .int .u16 (s0.s0 : Int), .int .u16 (s0.s1 : Int)]), (g1, 30, #[.int .u64 (fr : Int), .int .u64 (sd : Int), .int .i32 px, .int .i32 py, .int .i32 0, .int .i32 0, .int .u8 (s0.p.h : Int), .int .u8 0, .int .u8 (s0.p.f : Int), .int .i32 qx, .int .i32 qy, .int .i32 0, .int .i32 0, .int .u8 (s0.q.h : Int), .int .u8 0, .int .u8 (s0.q.f : Int), .slice ao1 0 cap1, .int .u16 (c0 : Int), .int .u16 (c1 : Int)]), (g3, 24, #[.int .i32 px, .int .i32 py, .int .i32 0, .int .i32 0, .int .u8 (s0.p.h : Int), .int .u8 0, .int .u8 (s0.p.f : Int)])] := Hu04
            go_upto_region 13 with fail
            clear zu05 su03 lu01
            have du06 := fun n => (Hu04.to (below_drewN (Below.refl _ _) n)).ldO ty_i32 2 rfl 2 (v := .int .i32 0) rfl
            have du07 := fun n => (Hu04.to (below_drewN (Below.refl _ _) n)).ldO ty_i32 2 rfl 3 (v := .int .i32 0) rfl
            have du08 := fun n => (Hu04.to (below_drewN (Below.refl _ _) n)).ldO ty_u8 2 rfl 4 (v := .int .u8 (s0.p.h : Int)) rfl
            have du09 := fun n => (Hu04.to (below_drewN (Below.refl _ _) n)).ldO ty_u8 2 rfl 5 (v := .int .u8 0) rfl
            have du010 := fun n => (Hu04.to (below_drewN (Below.refl _ _) n)).ldO ty_u8 2 rfl 6 (v := .int .u8 (s0.p.f : Int)) rfl
            have du011 := fun n => (Hu04.to (below_drewN (Below.refl _ _) n)).ldO ty_u8 0 rfl 6 (v := .int .u8 (s0.p.h : Int)) rfl
            have du012 := fun n => (Hu04.to (below_drewN (Below.refl _ _) n)).ldO ty_u8 0 rfl 8 (v := .int .u8 (s0.p.f : Int)) rfl
            go_quiet (fail)
            go_wp2
            go_roundw
            case rel => exact ⟨1, by omega, by go_num, (Hu04.to (below_drewN (Below.refl _ _) _)).drop 2 rfl⟩
            case measure => simp [intOf]
          | 1, _ =>
            rw [show ((1 : Nat) : Int) = 1 from rfl]
            have lu11 := HR.out.ldA ty_player 1 rfl 9 (vs := (pcs ⟨qx, qy, 0, 0, s0.q.h, 0, s0.q.f⟩)) rfl (Nat.le_of_ble_eq_true rfl)
            obtain ⟨g3, wu12, zu15, su13, Hu14, _⟩ := HR.out.newA ty_player zpl (pcs ⟨qx, qy, 0, 0, s0.q.h, 0, s0.q.f⟩) rfl rfl rfl
            replace Hu14 : Loc _ _ _ [(w.heap.size, 30, #[.int .u64 (s0.fr : Int), .int .u64 (s0.sd : Int), .int .i32 s0.p.x, .int .i32 s0.p.y, .int .i32 s0.p.vx, .int .i32 s0.p.vy, .int .u8 (s0.p.h : Int), .int .u8 (s0.p.c : Int), .int .u8 (s0.p.f : Int), .int .i32 s0.q.x, .int .i32 s0.q.y, .int .i32 s0.q.vx, .int .i32 s0.q.vy, .int .u8 (s0.q.h : Int), .int .u8 (s0.q.c : Int), .int .u8 (s0.q.f : Int), .slice none s0.ss.length 0, .int .u16 (s0.s0 : Int), .int .u16 (s0.s1 : Int)]), (g1, 30, #[.int .u64 (fr : Int), .int .u64 (sd : Int), .int .i32 px, .int .i32 py, .int .i32 0, .int .i32 0, .int .u8 (s0.p.h : Int), .int .u8 0, .int .u8 (s0.p.f : Int), .int .i32 qx, .int .i32 qy, .int .i32 0, .int .i32 0, .int .u8 (s0.q.h : Int), .int .u8 0, .int .u8 (s0.q.f : Int), .slice ao1 0 cap1, .int .u16 (c0 : Int), .int .u16 (c1 : Int)]), (g3, 24, #[.int .i32 qx, .int .i32 qy, .int .i32 0, .int .i32 0, .int .u8 (s0.q.h : Int), .int .u8 0, .int .u8 (s0.q.f : Int)])] := Hu14
            go_upto_region 13 with fail
            clear zu15 su13 lu11
            have du16 := fun n => (Hu14.to (below_drewN (Below.refl _ _) n)).ldO ty_i32 2 rfl 2 (v := .int .i32 0) rfl
            have du17 := fun n => (Hu14.to (below_drewN (Below.refl _ _) n)).ldO ty_i32 2 rfl 3 (v := .int .i32 0) rfl
            have du18 := fun n => (Hu14.to (below_drewN (Below.refl _ _) n)).ldO ty_u8 2 rfl 4 (v := .int .u8 (s0.q.h : Int)) rfl
            have du19 := fun n => (Hu14.to (below_drewN (Below.refl _ _) n)).ldO ty_u8 2 rfl 5 (v := .int .u8 0) rfl
            have du110 := fun n => (Hu14.to (below_drewN (Below.refl _ _) n)).ldO ty_u8 2 rfl 6 (v := .int .u8 (s0.q.f : Int)) rfl
            have du111 := fun n => (Hu14.to (below_drewN (Below.refl _ _) n)).ldO ty_u8 0 rfl 13 (v := .int .u8 (s0.q.h : Int)) rfl
            have du112 := fun n => (Hu14.to (below_drewN (Below.refl _ _) n)).ldO ty_u8 0 rfl 15 (v := .int .u8 (s0.q.f : Int)) rfl
            go_quiet (fail)
            go_wp2
            go_roundw
            case rel => exact ⟨2, by omega, by go_num, (Hu14.to (below_drewN (Below.refl _ _) _)).drop 2 rfl⟩
            case measure => simp [intOf]
          | 2, _ =>
            rw [show ((2 : Nat) : Int) = 2 from rfl]
            have lf1 := HR.out.ldA ty_state 1 rfl 0 (vs := (stc (rest fr sd c0 c1 px py qx qy s0.p.h s0.p.f s0.q.h s0.q.f) ao1 cap1)) rfl (Nat.le_of_ble_eq_true rfl)
            go_wp2_with fail
            refine (HCU.out wr (HL.out.to HR.out.be)).mono ?_
            rintro E w5 ⟨ao5, cap5, rfl, hR5, hb5⟩
            clear lf1
            have Hf2 := HR.out.to hb5
            obtain ⟨g4, wf3, zf6, sf4, Hf5, _⟩ := Hf2.newA ty_state zsc (stc U ao5 cap5) rfl rfl rfl
            replace Hf5 : Loc _ _ _ [(w.heap.size, 30, #[.int .u64 (s0.fr : Int), .int .u64 (s0.sd : Int), .int .i32 s0.p.x, .int .i32 s0.p.y, .int .i32 s0.p.vx, .int .i32 s0.p.vy, .int .u8 (s0.p.h : Int), .int .u8 (s0.p.c : Int), .int .u8 (s0.p.f : Int), .int .i32 s0.q.x, .int .i32 s0.q.y, .int .i32 s0.q.vx, .int .i32 s0.q.vy, .int .u8 (s0.q.h : Int), .int .u8 (s0.q.c : Int), .int .u8 (s0.q.f : Int), .slice none s0.ss.length 0, .int .u16 (s0.s0 : Int), .int .u16 (s0.s1 : Int)]), (g1, 30, #[.int .u64 (fr : Int), .int .u64 (sd : Int), .int .i32 px, .int .i32 py, .int .i32 0, .int .i32 0, .int .u8 (s0.p.h : Int), .int .u8 0, .int .u8 (s0.p.f : Int), .int .i32 qx, .int .i32 qy, .int .i32 0, .int .i32 0, .int .u8 (s0.q.h : Int), .int .u8 0, .int .u8 (s0.q.f : Int), .slice ao1 0 cap1, .int .u16 (c0 : Int), .int .u16 (c1 : Int)]), (g4, 30, #[.int .u64 (U.fr : Int), .int .u64 (U.sd : Int), .int .i32 U.p.x, .int .i32 U.p.y, .int .i32 U.p.vx, .int .i32 U.p.vy, .int .u8 (U.p.h : Int), .int .u8 (U.p.c : Int), .int .u8 (U.p.f : Int), .int .i32 U.q.x, .int .i32 U.q.y, .int .i32 U.q.vx, .int .i32 U.q.vy, .int .u8 (U.q.h : Int), .int .u8 (U.q.c : Int), .int .u8 (U.q.f : Int), .slice ao5 U.ss.length cap5, .int .u16 (U.s0 : Int), .int .u16 (U.s1 : Int)])] := Hf5
            go_upto_region 16 with fail
            clear zf6 sf4
            have lf7 := Hf5.ldO ty_u64 1 rfl 0 (v := .int .u64 (fr : Int)) rfl
            have lf8 := Hf5.ldO ty_u64 0 rfl 0 (v := .int .u64 (s0.fr : Int)) rfl
            have lup := Hf5.ldA ty_players 2 rfl 2 (vs := pps U.p U.q) rfl (Nat.le_of_ble_eq_true rfl)
            rw [HUP.out, HUQ.out] at lup
            have lf9 := Hf5.ldA ty_players 1 rfl 2 (vs := (pps ⟨px, py, 0, 0, s0.p.h, 0, s0.p.f⟩ ⟨qx, qy, 0, 0, s0.q.h, 0, s0.q.f⟩)) rfl (Nat.le_of_ble_eq_true rfl)
            have hpe := arr_eql ⟨px, py, 0, 0, s0.p.h, 0, s0.p.f⟩ ⟨qx, qy, 0, 0, s0.q.h, 0, s0.q.f⟩ ⟨px, py, 0, 0, s0.p.h, 0, s0.p.f⟩ ⟨qx, qy, 0, 0, s0.q.h, 0, s0.q.f⟩ wf3
            go_wp2_with fail
            refine (awake_c wf3 (HL.out.to Hf5.be)).mono ?_
            rintro E w7 ⟨rfl, hb7⟩
            go_wp2
            go_ret
            exact ⟨rfl, (Hf5.to hb7).be⟩
end Go.Proofs.YtldpmbklkbbnmaaDoor
