/- The document's frame: 2, both fire: contract. -/
import Derived.Test.YtgmbdadkahcpcaaDoorUl
namespace Go.Proofs.YtgmbdadkahcpcaaDoor
open Go.RowKit
set_option linter.unusedVariables false
set_option linter.unusedSimpArgs false
set_option maxRecDepth 20000

theorem lit_x (f : Nat) (h : f ≤ 3) : (#[Value.int .i32 2048, .int .i32 (-2048), .int .i32 0, .int .i32 0] : Array Value)[f]? = some (.int .i32 ([2048, -2048, 0, 0].getD f 0)) := by
  have h4 : f = 0 ∨ f = 1 ∨ f = 2 ∨ f = 3 := by omega
  rcases h4 with rfl | rfl | rfl | rfl <;> rfl
theorem lit_y (f : Nat) (h : f ≤ 3) : (#[Value.int .i32 0, .int .i32 0, .int .i32 (-2048), .int .i32 2048] : Array Value)[f]? = some (.int .i32 ([0, 0, -2048, 2048].getD f 0)) := by
  have h4 : f = 0 ∨ f = 1 ∨ f = 2 ∨ f = 3 := by omega
  rcases h4 with rfl | rfl | rfl | rfl <;> rfl
theorem Shr.three {B : Nat} {w : World} {ao : Option Addr} {n cap : Nat} {l : List Sh} (h : Shr B w [] ao n cap l) (o o' o'' : Obj) : Shr B (((w.alloc o).alloc o').alloc o'') [w.heap.size, w.heap.size + 1, w.heap.size + 2] ao n cap l :=
  (h.two o o').fresh (grown_alloc _ _) (by simp) (by simp)
attribute [local go_sem ↓] ld_i32 ld_u8 ld_input ld_player ld_state ld_shot ld_shots st_i32 st_u8 st_player st_state st_shot st_shots
set_option maxHeartbeats 4000000 in
theorem two_c (s : St) (ao : Option Addr) (cap B i j : Nat) (w : World) (hi : i < 256) (hj : j < 256) (hok : s.ok) (hB : B ≤ w.heap.size) (hR : Shr B w [] ao s.ss.length cap s.ss) :
    Calls Tryd.prog 50 #[sv s ao cap, .agg #[.int .u8 (i : Int), .int .u8 (j : Int)]] w (StPost B w (fire (fire s 0 (inp i).f) 1 (inp j).f)) := by
  have HOK := Lib.hid hok
  obtain ⟨z0, hz0⟩ : ∃ z, z = inp i := ⟨_, rfl⟩
  obtain ⟨z1, hz1⟩ : ∃ z, z = inp j := ⟨_, rfl⟩
  have HA0 : Hid (∀ W, Calls Tryd.prog 75 #[.int .u8 (i : Int)] W fun E w' => E = .returned (.bool z0.f) ∧ W = w') := fun W => by rw [hz0]; exact I.refFire i W hi
  have HA1 : Hid (∀ W, Calls Tryd.prog 75 #[.int .u8 (j : Int)] W fun E w' => E = .returned (.bool z1.f) ∧ W = w') := fun W => by rw [hz1]; exact I.refFire j W hj
  rw [← hz0, ← hz1]
  clear hz0 hz1 hi hj hok
  have H0 := Lib.hid ((Loc.three w 30 47 30 (stc s ao cap) #[.int .u8 (i : Int), .int .u8 (j : Int)] zsc).mono hB)
  have HR := Lib.hid (hR.three (.cells (stc s ao cap) 30) (.cells #[.int .u8 (i : Int), .int .u8 (j : Int)] 47) (.cells zsc 30))
  obtain ⟨Q, hQ⟩ : ∃ Q : Ending → World → Prop, Q = StPost B w (fire (fire s 0 z0.f) 1 z1.f) := ⟨_, rfl⟩
  rw [← hQ]
  have HQ : Hid (∀ E w', StPost B w (fire (fire s 0 z0.f) 1 z1.f) E w' → Q E w') := fun E w' h => by rw [hQ]; exact h
  clear hQ hR
  go_enter Tryd.func50, Tryd.ntmps50
  go_upto_region 2 with fail
  generalize ((w.alloc (.cells (stc s ao cap) 30)).alloc (.cells #[.int .u8 (i : Int), .int .u8 (j : Int)] 47)).alloc (.cells zsc 30) = wa at *
  go_loopw [5] (fun v wr => ∃ (k : Nat) (X : St) (ao2 : Option Addr) (cap2 : Nat), k ≤ 2 ∧ v = .int .i64 k ∧ Hid (X = fir s z0 z1 k ∧ X.ok) ∧ Hid (Loc B w wr [(w.heap.size, 30, stc X ao2 cap2), (w.heap.size + 1, 47, #[.int .u8 (i : Int), .int .u8 (j : Int)]), (w.heap.size + 2, 30, zsc)]) ∧ Hid (Shr B wr [w.heap.size, w.heap.size + 1, w.heap.size + 2] ao2 X.ss.length cap2 X.ss)) (fun v _ => 2 - (intOf v).toNat)
  case atStart => exact ⟨0, s, ao, cap, by omega, rfl, ⟨rfl, HOK.out⟩, H0.out, HR.out⟩
  case round =>
    clear H0 HR
    obtain ⟨k, X, ao2, cap2, hk, rfl, HX, HR, HSR⟩ := hrel
    match k, hk with
    | 0, _ =>
      rw [show ((0 : Nat) : Int) = 0 from rfl]
      have lr01 := HR.out.ldA ty_player 0 rfl 2 (vs := (pcs X.p)) rfl (Nat.le_of_ble_eq_true rfl)
      obtain ⟨g3, wr02, zr05, sr03, Hr04, qr06⟩ := HR.out.newA ty_player zpl (pcs X.p) rfl rfl rfl
      replace Hr04 : Loc _ _ _ [(w.heap.size, 30, #[.int .u64 (X.fr : Int), .int .u64 (X.sd : Int), .int .i32 X.p.x, .int .i32 X.p.y, .int .i32 X.p.vx, .int .i32 X.p.vy, .int .u8 (X.p.h : Int), .int .u8 (X.p.c : Int), .int .u8 (X.p.f : Int), .int .i32 X.q.x, .int .i32 X.q.y, .int .i32 X.q.vx, .int .i32 X.q.vy, .int .u8 (X.q.h : Int), .int .u8 (X.q.c : Int), .int .u8 (X.q.f : Int), .slice ao2 X.ss.length cap2, .int .u16 (X.s0 : Int), .int .u16 (X.s1 : Int)]), (w.heap.size + 1, 47, #[.int .u8 (i : Int), .int .u8 (j : Int)]), (w.heap.size + 2, 30, zsc), (g3, 24, #[.int .i32 X.p.x, .int .i32 X.p.y, .int .i32 X.p.vx, .int .i32 X.p.vy, .int .u8 (X.p.h : Int), .int .u8 (X.p.c : Int), .int .u8 (X.p.f : Int)])] := Hr04
      have Sr07 := Lib.hid (HSR.out.fresh qr06 zr05 (Hr04.get 3 rfl).lt)
      clear qr06 HSR
      go_upto_region 5 with fail
      clear zr05 sr03 lr01
      obtain ⟨b, hb⟩ : ∃ b, b = decide (z0.f = true ∧ X.p.c = 0 ∧ X.ss.length < 8) := ⟨_, rfl⟩
      have HB := Lib.hid hb
      clear hb
      obtain ⟨ci, hci⟩ : ∃ ci : Int, ci = (X.p.c : Int) := ⟨_, rfl⟩
      have lr08 := Hr04.ldO ty_u8 3 rfl 5 (v := .int .u8 ci) (by rw [hci]; rfl)
      have HCI := Lib.hid hci
      clear hci
      have lr09 := Hr04.ldO ty_shots 0 rfl 16 (v := .slice ao2 X.ss.length cap2) rfl
      have lr010 := Hr04.ldO ty_input 1 rfl 0 (v := .int .u8 (i : Int)) rfl
      obtain ⟨f, hf⟩ : ∃ f, f = z0.f := ⟨_, rfl⟩
      have HFF := Lib.hid hf
      have HAk := HA0
      rw [← hf] at HAk
      clear hf
      obtain ⟨n, hn⟩ : ∃ n, n = X.ss.length := ⟨_, rfl⟩
      have HNN := Lib.hid hn
      rw [← hn] at lr09
      clear hn
      go_cut [31] (fun s31 wx => s31 = .bool (!b) ∧ wx = wr02)
      case first =>
        go_wp2_with fail
        refine (HAk.out _).mono ?_
        rintro E w6 ⟨rfl, rfl⟩
        cases hf : f
        · have hbf : b = false := by rw [HB.out, ← HFF.out, hf]; simp
          subst hbf
          go_wp2_with fail
          all_goals go_meet
          all_goals exact ⟨rfl, rfl⟩
        · by_cases hc : X.p.c = 0
          · have hcb : (ci != 0) = false := by rw [HCI.out, hc]; rfl
            have HC := Lib.hid hc
            clear hc
            by_cases h8 : n < 8
            · have hbt : b = true := by rw [HB.out, ← HFF.out, hf, ← HNN.out]; exact decide_eq_true ⟨rfl, HC.out, h8⟩
              have h8i : ¬ (8 : Int) ≤ (n : Int) := by omega
              subst hbt
              go_wp2_with fail
              all_goals go_meet
              all_goals exact ⟨by simp [h8i] <;> omega, rfl⟩
            · have hbt : b = false := by rw [HB.out, ← HNN.out]; exact decide_eq_false (fun h => h8 h.2.2)
              have h8i : (8 : Int) ≤ (n : Int) := by omega
              subst hbt
              go_wp2_with fail
              all_goals go_meet
              all_goals exact ⟨by simp [h8i] <;> omega, rfl⟩
          · have hcb : (ci != 0) = true := by rw [HCI.out]; simp; omega
            have hbt : b = false := by rw [HB.out]; exact decide_eq_false (fun h => hc h.2.1)
            clear hc
            subst hbt
            go_wp2_with fail
            all_goals go_meet
            all_goals exact ⟨rfl, rfl⟩
      case rest =>
      obtain ⟨rfl, rfl⟩ := hcut
      clear HAk
      clear lr010 lr09 lr08
      cases b
      · have hfi : X = fir s z0 z1 1 := by
          have : fire X 0 z0.f = X := by unfold fire; rw [if_neg]; exact of_decide_eq_false HB.out.symm
          rw [← this]; rw [HX.out.1]; rfl
        have HFI := Lib.hid hfi
        clear hfi
        go_wp2
        go_roundw
        case rel => exact ⟨1, X, ao2, cap2, by omega, by go_num, ⟨HFI.out, HX.out.2⟩, Hr04.drop 3 rfl, Sr07.out.less (by simp)⟩
        case measure => simp [intOf]
      · have hpk := HX.out.2.p
        obtain ⟨px1, px2⟩ := hpk.x
        obtain ⟨py1, py2⟩ := hpk.y
        have hf3 : (X.p.f : Int) < 4 := by have := hpk.f; omega
        obtain ⟨tx, htx⟩ : ∃ tx : Int, tx = [2048, -2048, 0, 0].getD X.p.f 0 := ⟨_, rfl⟩
        obtain ⟨ty, hty⟩ : ∃ ty : Int, ty = [0, 0, -2048, 2048].getD X.p.f 0 := ⟨_, rfl⟩
        have hlx := lit_x X.p.f hpk.f
        have hly := lit_y X.p.f hpk.f
        rw [← htx] at hlx
        rw [← hty] at hly
        have HSH : Hid (shotOf X.p 0 = ⟨X.p.x + 1792, X.p.y + 1792, tx, ty, 0, 40⟩) := by show _ = _; unfold shotOf; rw [htx, hty]
        have HLX := Lib.hid hlx
        have HLY := Lib.hid hly
        clear htx hty hlx hly hpk
        have lr011 := Hr04.ldO ty_i32 3 rfl 0 (v := .int .i32 X.p.x) rfl
        have lr012 := Hr04.ldO ty_i32 3 rfl 1 (v := .int .i32 X.p.y) rfl
        obtain ⟨g4, wr013, zr016, sr014, Hr015, qr017⟩ := Hr04.newA ty_shot #[.int .i32 0, .int .i32 0, .int .i32 0, .int .i32 0, .int .u8 0, .int .u8 0] #[.int .i32 (X.p.x + 1792), .int .i32 (X.p.y + 1792), .int .i32 0, .int .i32 0, .int .u8 0, .int .u8 40] rfl rfl rfl
        replace Hr015 : Loc _ _ _ [(w.heap.size, 30, #[.int .u64 (X.fr : Int), .int .u64 (X.sd : Int), .int .i32 X.p.x, .int .i32 X.p.y, .int .i32 X.p.vx, .int .i32 X.p.vy, .int .u8 (X.p.h : Int), .int .u8 (X.p.c : Int), .int .u8 (X.p.f : Int), .int .i32 X.q.x, .int .i32 X.q.y, .int .i32 X.q.vx, .int .i32 X.q.vy, .int .u8 (X.q.h : Int), .int .u8 (X.q.c : Int), .int .u8 (X.q.f : Int), .slice ao2 X.ss.length cap2, .int .u16 (X.s0 : Int), .int .u16 (X.s1 : Int)]), (w.heap.size + 1, 47, #[.int .u8 (i : Int), .int .u8 (j : Int)]), (w.heap.size + 2, 30, zsc), (g3, 24, #[.int .i32 X.p.x, .int .i32 X.p.y, .int .i32 X.p.vx, .int .i32 X.p.vy, .int .u8 (X.p.h : Int), .int .u8 (X.p.c : Int), .int .u8 (X.p.f : Int)]), (g4, 66, #[.int .i32 (X.p.x + 1792), .int .i32 (X.p.y + 1792), .int .i32 0, .int .i32 0, .int .u8 0, .int .u8 40])] := Hr015
        have Sr018 := Lib.hid (Sr07.out.fresh qr017 zr016 (Hr015.get 4 rfl).lt)
        clear qr017 Sr07
        go_upto_region 7 with fail
        clear zr016 sr014 lr012 lr011
        obtain ⟨g5, zr020⟩ : ∃ g, wr013.heap.size = g := ⟨_, rfl⟩
        have Hr019 := Hr015.more 21 #[.int .i32 2048, .int .i32 (-2048), .int .i32 0, .int .i32 0]
        rw [zr020] at Hr019
        have hRg5 := Lib.hid (Sr018.out.fresh (w' := wr013.alloc (.cells #[.int .i32 2048, .int .i32 (-2048), .int .i32 0, .int .i32 0] 21)) (grown_alloc _ _) zr020 (by rw [← zr020]; simp))
        clear Sr018
        replace Hr019 : Loc B w (wr013.alloc (.cells #[.int .i32 2048, .int .i32 (-2048), .int .i32 0, .int .i32 0] 21)) [(w.heap.size, 30, #[.int .u64 (X.fr : Int), .int .u64 (X.sd : Int), .int .i32 X.p.x, .int .i32 X.p.y, .int .i32 X.p.vx, .int .i32 X.p.vy, .int .u8 (X.p.h : Int), .int .u8 (X.p.c : Int), .int .u8 (X.p.f : Int), .int .i32 X.q.x, .int .i32 X.q.y, .int .i32 X.q.vx, .int .i32 X.q.vy, .int .u8 (X.q.h : Int), .int .u8 (X.q.c : Int), .int .u8 (X.q.f : Int), .slice ao2 X.ss.length cap2, .int .u16 (X.s0 : Int), .int .u16 (X.s1 : Int)]), (w.heap.size + 1, 47, #[.int .u8 (i : Int), .int .u8 (j : Int)]), (w.heap.size + 2, 30, zsc), (g3, 24, #[.int .i32 X.p.x, .int .i32 X.p.y, .int .i32 X.p.vx, .int .i32 X.p.vy, .int .u8 (X.p.h : Int), .int .u8 (X.p.c : Int), .int .u8 (X.p.f : Int)]), (g4, 66, #[.int .i32 (X.p.x + 1792), .int .i32 (X.p.y + 1792), .int .i32 0, .int .i32 0, .int .u8 0, .int .u8 40]), (g5, 21, #[.int .i32 2048, .int .i32 (-2048), .int .i32 0, .int .i32 0])] := Hr019
        have lr021 := Hr019.ldO ty_u8 3 rfl 6 (v := .int .u8 (X.p.f : Int)) rfl
        have la := Hr019.ldO ty_i32 5 rfl X.p.f HLX.out
        obtain ⟨wr023, sr024, Hr025, qr022⟩ := Hr019.stO ty_i32 4 rfl 2 (.int .i32 tx) (cs' := #[.int .i32 (X.p.x + 1792), .int .i32 (X.p.y + 1792), .int .i32 tx, .int .i32 0, .int .u8 0, .int .u8 40]) rfl (L' := [(w.heap.size, 30, #[.int .u64 (X.fr : Int), .int .u64 (X.sd : Int), .int .i32 X.p.x, .int .i32 X.p.y, .int .i32 X.p.vx, .int .i32 X.p.vy, .int .u8 (X.p.h : Int), .int .u8 (X.p.c : Int), .int .u8 (X.p.f : Int), .int .i32 X.q.x, .int .i32 X.q.y, .int .i32 X.q.vx, .int .i32 X.q.vy, .int .u8 (X.q.h : Int), .int .u8 (X.q.c : Int), .int .u8 (X.q.f : Int), .slice ao2 X.ss.length cap2, .int .u16 (X.s0 : Int), .int .u16 (X.s1 : Int)]), (w.heap.size + 1, 47, #[.int .u8 (i : Int), .int .u8 (j : Int)]), (w.heap.size + 2, 30, zsc), (g3, 24, #[.int .i32 X.p.x, .int .i32 X.p.y, .int .i32 X.p.vx, .int .i32 X.p.vy, .int .u8 (X.p.h : Int), .int .u8 (X.p.c : Int), .int .u8 (X.p.f : Int)]), (g4, 66, #[.int .i32 (X.p.x + 1792), .int .i32 (X.p.y + 1792), .int .i32 tx, .int .i32 0, .int .u8 0, .int .u8 40]), (g5, 21, #[.int .i32 2048, .int .i32 (-2048), .int .i32 0, .int .i32 0])]) rfl (Nat.le_of_ble_eq_true rfl) rfl rfl
        have Sr026 := Lib.hid (hRg5.out.turn (by simp) qr022)
        clear qr022 hRg5
        go_upto_region 8 with fail
        clear la zr020
        clear sr024 lr021
        obtain ⟨g6, zr028⟩ : ∃ g, wr023.heap.size = g := ⟨_, rfl⟩
        have Hr027 := Hr025.more 21 #[.int .i32 0, .int .i32 0, .int .i32 (-2048), .int .i32 2048]
        rw [zr028] at Hr027
        have hRg6 := Lib.hid (Sr026.out.fresh (w' := wr023.alloc (.cells #[.int .i32 0, .int .i32 0, .int .i32 (-2048), .int .i32 2048] 21)) (grown_alloc _ _) zr028 (by rw [← zr028]; simp))
        clear Sr026
        replace Hr027 : Loc B w (wr023.alloc (.cells #[.int .i32 0, .int .i32 0, .int .i32 (-2048), .int .i32 2048] 21)) [(w.heap.size, 30, #[.int .u64 (X.fr : Int), .int .u64 (X.sd : Int), .int .i32 X.p.x, .int .i32 X.p.y, .int .i32 X.p.vx, .int .i32 X.p.vy, .int .u8 (X.p.h : Int), .int .u8 (X.p.c : Int), .int .u8 (X.p.f : Int), .int .i32 X.q.x, .int .i32 X.q.y, .int .i32 X.q.vx, .int .i32 X.q.vy, .int .u8 (X.q.h : Int), .int .u8 (X.q.c : Int), .int .u8 (X.q.f : Int), .slice ao2 X.ss.length cap2, .int .u16 (X.s0 : Int), .int .u16 (X.s1 : Int)]), (w.heap.size + 1, 47, #[.int .u8 (i : Int), .int .u8 (j : Int)]), (w.heap.size + 2, 30, zsc), (g3, 24, #[.int .i32 X.p.x, .int .i32 X.p.y, .int .i32 X.p.vx, .int .i32 X.p.vy, .int .u8 (X.p.h : Int), .int .u8 (X.p.c : Int), .int .u8 (X.p.f : Int)]), (g4, 66, #[.int .i32 (X.p.x + 1792), .int .i32 (X.p.y + 1792), .int .i32 tx, .int .i32 0, .int .u8 0, .int .u8 40]), (g5, 21, #[.int .i32 2048, .int .i32 (-2048), .int .i32 0, .int .i32 0]), (g6, 21, #[.int .i32 0, .int .i32 0, .int .i32 (-2048), .int .i32 2048])] := Hr027
        have lr029 := Hr027.ldO ty_u8 3 rfl 6 (v := .int .u8 (X.p.f : Int)) rfl
        have la := Hr027.ldO ty_i32 6 rfl X.p.f HLY.out
        obtain ⟨wr031, sr032, Hr033, qr030⟩ := Hr027.stO ty_i32 4 rfl 3 (.int .i32 ty) (cs' := #[.int .i32 (X.p.x + 1792), .int .i32 (X.p.y + 1792), .int .i32 tx, .int .i32 ty, .int .u8 0, .int .u8 40]) rfl (L' := [(w.heap.size, 30, #[.int .u64 (X.fr : Int), .int .u64 (X.sd : Int), .int .i32 X.p.x, .int .i32 X.p.y, .int .i32 X.p.vx, .int .i32 X.p.vy, .int .u8 (X.p.h : Int), .int .u8 (X.p.c : Int), .int .u8 (X.p.f : Int), .int .i32 X.q.x, .int .i32 X.q.y, .int .i32 X.q.vx, .int .i32 X.q.vy, .int .u8 (X.q.h : Int), .int .u8 (X.q.c : Int), .int .u8 (X.q.f : Int), .slice ao2 X.ss.length cap2, .int .u16 (X.s0 : Int), .int .u16 (X.s1 : Int)]), (w.heap.size + 1, 47, #[.int .u8 (i : Int), .int .u8 (j : Int)]), (w.heap.size + 2, 30, zsc), (g3, 24, #[.int .i32 X.p.x, .int .i32 X.p.y, .int .i32 X.p.vx, .int .i32 X.p.vy, .int .u8 (X.p.h : Int), .int .u8 (X.p.c : Int), .int .u8 (X.p.f : Int)]), (g4, 66, #[.int .i32 (X.p.x + 1792), .int .i32 (X.p.y + 1792), .int .i32 tx, .int .i32 ty, .int .u8 0, .int .u8 40]), (g5, 21, #[.int .i32 2048, .int .i32 (-2048), .int .i32 0, .int .i32 0]), (g6, 21, #[.int .i32 0, .int .i32 0, .int .i32 (-2048), .int .i32 2048])]) rfl (Nat.le_of_ble_eq_true rfl) rfl rfl
        have Sr034 := Lib.hid (hRg6.out.turn (by simp) qr030)
        clear qr030 hRg6
        go_upto_region 9 with fail
        clear la zr028
        clear sr032 lr029
        have lr035 := Hr033.ldO ty_shots 0 rfl 16 (v := .slice ao2 X.ss.length cap2) rfl
        have lr036 := Hr033.ldA ty_shot 4 rfl 0 (vs := #[.int .i32 (X.p.x + 1792), .int .i32 (X.p.y + 1792), .int .i32 tx, .int .i32 ty, .int .u8 0, .int .u8 40]) rfl (Nat.le_of_ble_eq_true rfl)
        go_upto_region 10 with (at_builtin; refine wpList_append_new rfl _ _ rfl (by simp [Act.eval]) (shotOf X.p 0) _ (by rw [HSH.out]; rfl) (by simp [Act.eval]) Sr034.out Hr033 (by simp) (by have := HX.out.2.n; omega) ?_; intro r cap5 w5 hR5 hL5; have HR5 := Lib.hid hR5; clear hR5; obtain ⟨wr038, sr039, Hr040, qr037⟩ := hL5.stO ty_shots 0 rfl 16 (.slice (some ⟨r, 0, none⟩) (X.ss.length + 1) cap5) (cs' := #[.int .u64 (X.fr : Int), .int .u64 (X.sd : Int), .int .i32 X.p.x, .int .i32 X.p.y, .int .i32 X.p.vx, .int .i32 X.p.vy, .int .u8 (X.p.h : Int), .int .u8 (X.p.c : Int), .int .u8 (X.p.f : Int), .int .i32 X.q.x, .int .i32 X.q.y, .int .i32 X.q.vx, .int .i32 X.q.vy, .int .u8 (X.q.h : Int), .int .u8 (X.q.c : Int), .int .u8 (X.q.f : Int), .slice (some ⟨r, 0, none⟩) (X.ss.length + 1) cap5, .int .u16 (X.s0 : Int), .int .u16 (X.s1 : Int)]) rfl (L' := [(w.heap.size, 30, #[.int .u64 (X.fr : Int), .int .u64 (X.sd : Int), .int .i32 X.p.x, .int .i32 X.p.y, .int .i32 X.p.vx, .int .i32 X.p.vy, .int .u8 (X.p.h : Int), .int .u8 (X.p.c : Int), .int .u8 (X.p.f : Int), .int .i32 X.q.x, .int .i32 X.q.y, .int .i32 X.q.vx, .int .i32 X.q.vy, .int .u8 (X.q.h : Int), .int .u8 (X.q.c : Int), .int .u8 (X.q.f : Int), .slice (some ⟨r, 0, none⟩) (X.ss.length + 1) cap5, .int .u16 (X.s0 : Int), .int .u16 (X.s1 : Int)]), (w.heap.size + 1, 47, #[.int .u8 (i : Int), .int .u8 (j : Int)]), (w.heap.size + 2, 30, zsc), (g3, 24, #[.int .i32 X.p.x, .int .i32 X.p.y, .int .i32 X.p.vx, .int .i32 X.p.vy, .int .u8 (X.p.h : Int), .int .u8 (X.p.c : Int), .int .u8 (X.p.f : Int)]), (g4, 66, #[.int .i32 (X.p.x + 1792), .int .i32 (X.p.y + 1792), .int .i32 tx, .int .i32 ty, .int .u8 0, .int .u8 40]), (g5, 21, #[.int .i32 2048, .int .i32 (-2048), .int .i32 0, .int .i32 0]), (g6, 21, #[.int .i32 0, .int .i32 0, .int .i32 (-2048), .int .i32 2048])]) rfl (Nat.le_of_ble_eq_true rfl) rfl rfl; have Sr041 := Lib.hid (HR5.out.turn (by simp) qr037); clear qr037 HR5)
        clear Sr034 sr039
        clear lr036 lr035
        obtain ⟨wr043, sr044, Hr045, qr042⟩ := Hr040.stO ty_u8 0 rfl 7 (.int .u8 10) (cs' := #[.int .u64 (X.fr : Int), .int .u64 (X.sd : Int), .int .i32 X.p.x, .int .i32 X.p.y, .int .i32 X.p.vx, .int .i32 X.p.vy, .int .u8 (X.p.h : Int), .int .u8 10, .int .u8 (X.p.f : Int), .int .i32 X.q.x, .int .i32 X.q.y, .int .i32 X.q.vx, .int .i32 X.q.vy, .int .u8 (X.q.h : Int), .int .u8 (X.q.c : Int), .int .u8 (X.q.f : Int), .slice (some ⟨r, 0, none⟩) (X.ss.length + 1) cap5, .int .u16 (X.s0 : Int), .int .u16 (X.s1 : Int)]) rfl (L' := [(w.heap.size, 30, #[.int .u64 (X.fr : Int), .int .u64 (X.sd : Int), .int .i32 X.p.x, .int .i32 X.p.y, .int .i32 X.p.vx, .int .i32 X.p.vy, .int .u8 (X.p.h : Int), .int .u8 10, .int .u8 (X.p.f : Int), .int .i32 X.q.x, .int .i32 X.q.y, .int .i32 X.q.vx, .int .i32 X.q.vy, .int .u8 (X.q.h : Int), .int .u8 (X.q.c : Int), .int .u8 (X.q.f : Int), .slice (some ⟨r, 0, none⟩) (X.ss.length + 1) cap5, .int .u16 (X.s0 : Int), .int .u16 (X.s1 : Int)]), (w.heap.size + 1, 47, #[.int .u8 (i : Int), .int .u8 (j : Int)]), (w.heap.size + 2, 30, zsc), (g3, 24, #[.int .i32 X.p.x, .int .i32 X.p.y, .int .i32 X.p.vx, .int .i32 X.p.vy, .int .u8 (X.p.h : Int), .int .u8 (X.p.c : Int), .int .u8 (X.p.f : Int)]), (g4, 66, #[.int .i32 (X.p.x + 1792), .int .i32 (X.p.y + 1792), .int .i32 tx, .int .i32 ty, .int .u8 0, .int .u8 40]), (g5, 21, #[.int .i32 2048, .int .i32 (-2048), .int .i32 0, .int .i32 0]), (g6, 21, #[.int .i32 0, .int .i32 0, .int .i32 (-2048), .int .i32 2048])]) rfl (Nat.le_of_ble_eq_true rfl) rfl rfl
        have Sr046 := Lib.hid (Sr041.out.turn (by simp) qr042)
        clear qr042 Sr041
        have hd := of_decide_eq_true HB.out.symm
        have hfi : fire X 0 z0.f = { X with p := { X.p with c := 10 }, ss := X.ss ++ [shotOf X.p 0] } := by unfold fire; exact if_pos hd
        have hl2 : (X.ss ++ [shotOf X.p 0]).length = X.ss.length + 1 := by rw [List.length_append]; rfl
        have hXN : { X with p := { X.p with c := 10 }, ss := X.ss ++ [shotOf X.p 0] } = fir s z0 z1 1 := by rw [← hfi, HX.out.1]; rfl
        have hoN : ({ X with p := { X.p with c := 10 }, ss := X.ss ++ [shotOf X.p 0] } : St).ok := by rw [← hfi]; exact fire_ok HX.out.2 (by decide) _
        have HXN := Lib.hid hXN
        have HON := Lib.hid hoN
        have HL2 := Lib.hid hl2
        clear hd hfi hl2 hXN hoN hf3 px1 px2 py1 py2
        go_wp2
        go_roundw
        case rel => exact ⟨1, { X with p := { X.p with c := 10 }, ss := X.ss ++ [shotOf X.p 0] }, some ⟨r, 0, none⟩, cap5, by omega, by go_num, ⟨HXN.out, HON.out⟩, (by show Hid (Loc B w _ [(w.heap.size, 30, stc _ _ _), _, _]); unfold stc; dsimp only; rw [HL2.out]; exact Hr045.drop 3 rfl), (by show Hid (Shr _ _ _ _ (X.ss ++ [shotOf X.p 0]).length _ _); rw [HL2.out]; exact Sr046.out.less (by simp))⟩
        case measure => simp [intOf]
    | 1, _ =>
      rw [show ((1 : Nat) : Int) = 1 from rfl]
      have lr11 := HR.out.ldA ty_player 0 rfl 9 (vs := (pcs X.q)) rfl (Nat.le_of_ble_eq_true rfl)
      obtain ⟨g3, wr12, zr15, sr13, Hr14, qr16⟩ := HR.out.newA ty_player zpl (pcs X.q) rfl rfl rfl
      replace Hr14 : Loc _ _ _ [(w.heap.size, 30, #[.int .u64 (X.fr : Int), .int .u64 (X.sd : Int), .int .i32 X.p.x, .int .i32 X.p.y, .int .i32 X.p.vx, .int .i32 X.p.vy, .int .u8 (X.p.h : Int), .int .u8 (X.p.c : Int), .int .u8 (X.p.f : Int), .int .i32 X.q.x, .int .i32 X.q.y, .int .i32 X.q.vx, .int .i32 X.q.vy, .int .u8 (X.q.h : Int), .int .u8 (X.q.c : Int), .int .u8 (X.q.f : Int), .slice ao2 X.ss.length cap2, .int .u16 (X.s0 : Int), .int .u16 (X.s1 : Int)]), (w.heap.size + 1, 47, #[.int .u8 (i : Int), .int .u8 (j : Int)]), (w.heap.size + 2, 30, zsc), (g3, 24, #[.int .i32 X.q.x, .int .i32 X.q.y, .int .i32 X.q.vx, .int .i32 X.q.vy, .int .u8 (X.q.h : Int), .int .u8 (X.q.c : Int), .int .u8 (X.q.f : Int)])] := Hr14
      have Sr17 := Lib.hid (HSR.out.fresh qr16 zr15 (Hr14.get 3 rfl).lt)
      clear qr16 HSR
      go_upto_region 5 with fail
      clear zr15 sr13 lr11
      obtain ⟨b, hb⟩ : ∃ b, b = decide (z1.f = true ∧ X.q.c = 0 ∧ X.ss.length < 8) := ⟨_, rfl⟩
      have HB := Lib.hid hb
      clear hb
      obtain ⟨ci, hci⟩ : ∃ ci : Int, ci = (X.q.c : Int) := ⟨_, rfl⟩
      have lr18 := Hr14.ldO ty_u8 3 rfl 5 (v := .int .u8 ci) (by rw [hci]; rfl)
      have HCI := Lib.hid hci
      clear hci
      have lr19 := Hr14.ldO ty_shots 0 rfl 16 (v := .slice ao2 X.ss.length cap2) rfl
      have lr110 := Hr14.ldO ty_input 1 rfl 1 (v := .int .u8 (j : Int)) rfl
      obtain ⟨f, hf⟩ : ∃ f, f = z1.f := ⟨_, rfl⟩
      have HFF := Lib.hid hf
      have HAk := HA1
      rw [← hf] at HAk
      clear hf
      obtain ⟨n, hn⟩ : ∃ n, n = X.ss.length := ⟨_, rfl⟩
      have HNN := Lib.hid hn
      rw [← hn] at lr19
      clear hn
      go_cut [31] (fun s31 wx => s31 = .bool (!b) ∧ wx = wr12)
      case first =>
        go_wp2_with fail
        refine (HAk.out _).mono ?_
        rintro E w6 ⟨rfl, rfl⟩
        cases hf : f
        · have hbf : b = false := by rw [HB.out, ← HFF.out, hf]; simp
          subst hbf
          go_wp2_with fail
          all_goals go_meet
          all_goals exact ⟨rfl, rfl⟩
        · by_cases hc : X.q.c = 0
          · have hcb : (ci != 0) = false := by rw [HCI.out, hc]; rfl
            have HC := Lib.hid hc
            clear hc
            by_cases h8 : n < 8
            · have hbt : b = true := by rw [HB.out, ← HFF.out, hf, ← HNN.out]; exact decide_eq_true ⟨rfl, HC.out, h8⟩
              have h8i : ¬ (8 : Int) ≤ (n : Int) := by omega
              subst hbt
              go_wp2_with fail
              all_goals go_meet
              all_goals exact ⟨by simp [h8i] <;> omega, rfl⟩
            · have hbt : b = false := by rw [HB.out, ← HNN.out]; exact decide_eq_false (fun h => h8 h.2.2)
              have h8i : (8 : Int) ≤ (n : Int) := by omega
              subst hbt
              go_wp2_with fail
              all_goals go_meet
              all_goals exact ⟨by simp [h8i] <;> omega, rfl⟩
          · have hcb : (ci != 0) = true := by rw [HCI.out]; simp; omega
            have hbt : b = false := by rw [HB.out]; exact decide_eq_false (fun h => hc h.2.1)
            clear hc
            subst hbt
            go_wp2_with fail
            all_goals go_meet
            all_goals exact ⟨rfl, rfl⟩
      case rest =>
      obtain ⟨rfl, rfl⟩ := hcut
      clear HAk
      clear lr110 lr19 lr18
      cases b
      · have hfi : X = fir s z0 z1 2 := by
          have : fire X 1 z1.f = X := by unfold fire; rw [if_neg]; exact of_decide_eq_false HB.out.symm
          rw [← this]; rw [HX.out.1]; rfl
        have HFI := Lib.hid hfi
        clear hfi
        go_wp2
        go_roundw
        case rel => exact ⟨2, X, ao2, cap2, by omega, by go_num, ⟨HFI.out, HX.out.2⟩, Hr14.drop 3 rfl, Sr17.out.less (by simp)⟩
        case measure => simp [intOf]
      · have hpk := HX.out.2.q
        obtain ⟨px1, px2⟩ := hpk.x
        obtain ⟨py1, py2⟩ := hpk.y
        have hf3 : (X.q.f : Int) < 4 := by have := hpk.f; omega
        obtain ⟨tx, htx⟩ : ∃ tx : Int, tx = [2048, -2048, 0, 0].getD X.q.f 0 := ⟨_, rfl⟩
        obtain ⟨ty, hty⟩ : ∃ ty : Int, ty = [0, 0, -2048, 2048].getD X.q.f 0 := ⟨_, rfl⟩
        have hlx := lit_x X.q.f hpk.f
        have hly := lit_y X.q.f hpk.f
        rw [← htx] at hlx
        rw [← hty] at hly
        have HSH : Hid (shotOf X.q 1 = ⟨X.q.x + 1792, X.q.y + 1792, tx, ty, 1, 40⟩) := by show _ = _; unfold shotOf; rw [htx, hty]
        have HLX := Lib.hid hlx
        have HLY := Lib.hid hly
        clear htx hty hlx hly hpk
        have lr111 := Hr14.ldO ty_i32 3 rfl 0 (v := .int .i32 X.q.x) rfl
        have lr112 := Hr14.ldO ty_i32 3 rfl 1 (v := .int .i32 X.q.y) rfl
        obtain ⟨g4, wr113, zr116, sr114, Hr115, qr117⟩ := Hr14.newA ty_shot #[.int .i32 0, .int .i32 0, .int .i32 0, .int .i32 0, .int .u8 0, .int .u8 0] #[.int .i32 (X.q.x + 1792), .int .i32 (X.q.y + 1792), .int .i32 0, .int .i32 0, .int .u8 1, .int .u8 40] rfl rfl rfl
        replace Hr115 : Loc _ _ _ [(w.heap.size, 30, #[.int .u64 (X.fr : Int), .int .u64 (X.sd : Int), .int .i32 X.p.x, .int .i32 X.p.y, .int .i32 X.p.vx, .int .i32 X.p.vy, .int .u8 (X.p.h : Int), .int .u8 (X.p.c : Int), .int .u8 (X.p.f : Int), .int .i32 X.q.x, .int .i32 X.q.y, .int .i32 X.q.vx, .int .i32 X.q.vy, .int .u8 (X.q.h : Int), .int .u8 (X.q.c : Int), .int .u8 (X.q.f : Int), .slice ao2 X.ss.length cap2, .int .u16 (X.s0 : Int), .int .u16 (X.s1 : Int)]), (w.heap.size + 1, 47, #[.int .u8 (i : Int), .int .u8 (j : Int)]), (w.heap.size + 2, 30, zsc), (g3, 24, #[.int .i32 X.q.x, .int .i32 X.q.y, .int .i32 X.q.vx, .int .i32 X.q.vy, .int .u8 (X.q.h : Int), .int .u8 (X.q.c : Int), .int .u8 (X.q.f : Int)]), (g4, 66, #[.int .i32 (X.q.x + 1792), .int .i32 (X.q.y + 1792), .int .i32 0, .int .i32 0, .int .u8 1, .int .u8 40])] := Hr115
        have Sr118 := Lib.hid (Sr17.out.fresh qr117 zr116 (Hr115.get 4 rfl).lt)
        clear qr117 Sr17
        go_upto_region 7 with fail
        clear zr116 sr114 lr112 lr111
        obtain ⟨g5, zr120⟩ : ∃ g, wr113.heap.size = g := ⟨_, rfl⟩
        have Hr119 := Hr115.more 21 #[.int .i32 2048, .int .i32 (-2048), .int .i32 0, .int .i32 0]
        rw [zr120] at Hr119
        have hRg5 := Lib.hid (Sr118.out.fresh (w' := wr113.alloc (.cells #[.int .i32 2048, .int .i32 (-2048), .int .i32 0, .int .i32 0] 21)) (grown_alloc _ _) zr120 (by rw [← zr120]; simp))
        clear Sr118
        replace Hr119 : Loc B w (wr113.alloc (.cells #[.int .i32 2048, .int .i32 (-2048), .int .i32 0, .int .i32 0] 21)) [(w.heap.size, 30, #[.int .u64 (X.fr : Int), .int .u64 (X.sd : Int), .int .i32 X.p.x, .int .i32 X.p.y, .int .i32 X.p.vx, .int .i32 X.p.vy, .int .u8 (X.p.h : Int), .int .u8 (X.p.c : Int), .int .u8 (X.p.f : Int), .int .i32 X.q.x, .int .i32 X.q.y, .int .i32 X.q.vx, .int .i32 X.q.vy, .int .u8 (X.q.h : Int), .int .u8 (X.q.c : Int), .int .u8 (X.q.f : Int), .slice ao2 X.ss.length cap2, .int .u16 (X.s0 : Int), .int .u16 (X.s1 : Int)]), (w.heap.size + 1, 47, #[.int .u8 (i : Int), .int .u8 (j : Int)]), (w.heap.size + 2, 30, zsc), (g3, 24, #[.int .i32 X.q.x, .int .i32 X.q.y, .int .i32 X.q.vx, .int .i32 X.q.vy, .int .u8 (X.q.h : Int), .int .u8 (X.q.c : Int), .int .u8 (X.q.f : Int)]), (g4, 66, #[.int .i32 (X.q.x + 1792), .int .i32 (X.q.y + 1792), .int .i32 0, .int .i32 0, .int .u8 1, .int .u8 40]), (g5, 21, #[.int .i32 2048, .int .i32 (-2048), .int .i32 0, .int .i32 0])] := Hr119
        have lr121 := Hr119.ldO ty_u8 3 rfl 6 (v := .int .u8 (X.q.f : Int)) rfl
        have la := Hr119.ldO ty_i32 5 rfl X.q.f HLX.out
        obtain ⟨wr123, sr124, Hr125, qr122⟩ := Hr119.stO ty_i32 4 rfl 2 (.int .i32 tx) (cs' := #[.int .i32 (X.q.x + 1792), .int .i32 (X.q.y + 1792), .int .i32 tx, .int .i32 0, .int .u8 1, .int .u8 40]) rfl (L' := [(w.heap.size, 30, #[.int .u64 (X.fr : Int), .int .u64 (X.sd : Int), .int .i32 X.p.x, .int .i32 X.p.y, .int .i32 X.p.vx, .int .i32 X.p.vy, .int .u8 (X.p.h : Int), .int .u8 (X.p.c : Int), .int .u8 (X.p.f : Int), .int .i32 X.q.x, .int .i32 X.q.y, .int .i32 X.q.vx, .int .i32 X.q.vy, .int .u8 (X.q.h : Int), .int .u8 (X.q.c : Int), .int .u8 (X.q.f : Int), .slice ao2 X.ss.length cap2, .int .u16 (X.s0 : Int), .int .u16 (X.s1 : Int)]), (w.heap.size + 1, 47, #[.int .u8 (i : Int), .int .u8 (j : Int)]), (w.heap.size + 2, 30, zsc), (g3, 24, #[.int .i32 X.q.x, .int .i32 X.q.y, .int .i32 X.q.vx, .int .i32 X.q.vy, .int .u8 (X.q.h : Int), .int .u8 (X.q.c : Int), .int .u8 (X.q.f : Int)]), (g4, 66, #[.int .i32 (X.q.x + 1792), .int .i32 (X.q.y + 1792), .int .i32 tx, .int .i32 0, .int .u8 1, .int .u8 40]), (g5, 21, #[.int .i32 2048, .int .i32 (-2048), .int .i32 0, .int .i32 0])]) rfl (Nat.le_of_ble_eq_true rfl) rfl rfl
        have Sr126 := Lib.hid (hRg5.out.turn (by simp) qr122)
        clear qr122 hRg5
        go_upto_region 8 with fail
        clear la zr120
        clear sr124 lr121
        obtain ⟨g6, zr128⟩ : ∃ g, wr123.heap.size = g := ⟨_, rfl⟩
        have Hr127 := Hr125.more 21 #[.int .i32 0, .int .i32 0, .int .i32 (-2048), .int .i32 2048]
        rw [zr128] at Hr127
        have hRg6 := Lib.hid (Sr126.out.fresh (w' := wr123.alloc (.cells #[.int .i32 0, .int .i32 0, .int .i32 (-2048), .int .i32 2048] 21)) (grown_alloc _ _) zr128 (by rw [← zr128]; simp))
        clear Sr126
        replace Hr127 : Loc B w (wr123.alloc (.cells #[.int .i32 0, .int .i32 0, .int .i32 (-2048), .int .i32 2048] 21)) [(w.heap.size, 30, #[.int .u64 (X.fr : Int), .int .u64 (X.sd : Int), .int .i32 X.p.x, .int .i32 X.p.y, .int .i32 X.p.vx, .int .i32 X.p.vy, .int .u8 (X.p.h : Int), .int .u8 (X.p.c : Int), .int .u8 (X.p.f : Int), .int .i32 X.q.x, .int .i32 X.q.y, .int .i32 X.q.vx, .int .i32 X.q.vy, .int .u8 (X.q.h : Int), .int .u8 (X.q.c : Int), .int .u8 (X.q.f : Int), .slice ao2 X.ss.length cap2, .int .u16 (X.s0 : Int), .int .u16 (X.s1 : Int)]), (w.heap.size + 1, 47, #[.int .u8 (i : Int), .int .u8 (j : Int)]), (w.heap.size + 2, 30, zsc), (g3, 24, #[.int .i32 X.q.x, .int .i32 X.q.y, .int .i32 X.q.vx, .int .i32 X.q.vy, .int .u8 (X.q.h : Int), .int .u8 (X.q.c : Int), .int .u8 (X.q.f : Int)]), (g4, 66, #[.int .i32 (X.q.x + 1792), .int .i32 (X.q.y + 1792), .int .i32 tx, .int .i32 0, .int .u8 1, .int .u8 40]), (g5, 21, #[.int .i32 2048, .int .i32 (-2048), .int .i32 0, .int .i32 0]), (g6, 21, #[.int .i32 0, .int .i32 0, .int .i32 (-2048), .int .i32 2048])] := Hr127
        have lr129 := Hr127.ldO ty_u8 3 rfl 6 (v := .int .u8 (X.q.f : Int)) rfl
        have la := Hr127.ldO ty_i32 6 rfl X.q.f HLY.out
        obtain ⟨wr131, sr132, Hr133, qr130⟩ := Hr127.stO ty_i32 4 rfl 3 (.int .i32 ty) (cs' := #[.int .i32 (X.q.x + 1792), .int .i32 (X.q.y + 1792), .int .i32 tx, .int .i32 ty, .int .u8 1, .int .u8 40]) rfl (L' := [(w.heap.size, 30, #[.int .u64 (X.fr : Int), .int .u64 (X.sd : Int), .int .i32 X.p.x, .int .i32 X.p.y, .int .i32 X.p.vx, .int .i32 X.p.vy, .int .u8 (X.p.h : Int), .int .u8 (X.p.c : Int), .int .u8 (X.p.f : Int), .int .i32 X.q.x, .int .i32 X.q.y, .int .i32 X.q.vx, .int .i32 X.q.vy, .int .u8 (X.q.h : Int), .int .u8 (X.q.c : Int), .int .u8 (X.q.f : Int), .slice ao2 X.ss.length cap2, .int .u16 (X.s0 : Int), .int .u16 (X.s1 : Int)]), (w.heap.size + 1, 47, #[.int .u8 (i : Int), .int .u8 (j : Int)]), (w.heap.size + 2, 30, zsc), (g3, 24, #[.int .i32 X.q.x, .int .i32 X.q.y, .int .i32 X.q.vx, .int .i32 X.q.vy, .int .u8 (X.q.h : Int), .int .u8 (X.q.c : Int), .int .u8 (X.q.f : Int)]), (g4, 66, #[.int .i32 (X.q.x + 1792), .int .i32 (X.q.y + 1792), .int .i32 tx, .int .i32 ty, .int .u8 1, .int .u8 40]), (g5, 21, #[.int .i32 2048, .int .i32 (-2048), .int .i32 0, .int .i32 0]), (g6, 21, #[.int .i32 0, .int .i32 0, .int .i32 (-2048), .int .i32 2048])]) rfl (Nat.le_of_ble_eq_true rfl) rfl rfl
        have Sr134 := Lib.hid (hRg6.out.turn (by simp) qr130)
        clear qr130 hRg6
        go_upto_region 9 with fail
        clear la zr128
        clear sr132 lr129
        have lr135 := Hr133.ldO ty_shots 0 rfl 16 (v := .slice ao2 X.ss.length cap2) rfl
        have lr136 := Hr133.ldA ty_shot 4 rfl 0 (vs := #[.int .i32 (X.q.x + 1792), .int .i32 (X.q.y + 1792), .int .i32 tx, .int .i32 ty, .int .u8 1, .int .u8 40]) rfl (Nat.le_of_ble_eq_true rfl)
        go_upto_region 10 with (at_builtin; refine wpList_append_new rfl _ _ rfl (by simp [Act.eval]) (shotOf X.q 1) _ (by rw [HSH.out]; rfl) (by simp [Act.eval]) Sr134.out Hr133 (by simp) (by have := HX.out.2.n; omega) ?_; intro r cap5 w5 hR5 hL5; have HR5 := Lib.hid hR5; clear hR5; obtain ⟨wr138, sr139, Hr140, qr137⟩ := hL5.stO ty_shots 0 rfl 16 (.slice (some ⟨r, 0, none⟩) (X.ss.length + 1) cap5) (cs' := #[.int .u64 (X.fr : Int), .int .u64 (X.sd : Int), .int .i32 X.p.x, .int .i32 X.p.y, .int .i32 X.p.vx, .int .i32 X.p.vy, .int .u8 (X.p.h : Int), .int .u8 (X.p.c : Int), .int .u8 (X.p.f : Int), .int .i32 X.q.x, .int .i32 X.q.y, .int .i32 X.q.vx, .int .i32 X.q.vy, .int .u8 (X.q.h : Int), .int .u8 (X.q.c : Int), .int .u8 (X.q.f : Int), .slice (some ⟨r, 0, none⟩) (X.ss.length + 1) cap5, .int .u16 (X.s0 : Int), .int .u16 (X.s1 : Int)]) rfl (L' := [(w.heap.size, 30, #[.int .u64 (X.fr : Int), .int .u64 (X.sd : Int), .int .i32 X.p.x, .int .i32 X.p.y, .int .i32 X.p.vx, .int .i32 X.p.vy, .int .u8 (X.p.h : Int), .int .u8 (X.p.c : Int), .int .u8 (X.p.f : Int), .int .i32 X.q.x, .int .i32 X.q.y, .int .i32 X.q.vx, .int .i32 X.q.vy, .int .u8 (X.q.h : Int), .int .u8 (X.q.c : Int), .int .u8 (X.q.f : Int), .slice (some ⟨r, 0, none⟩) (X.ss.length + 1) cap5, .int .u16 (X.s0 : Int), .int .u16 (X.s1 : Int)]), (w.heap.size + 1, 47, #[.int .u8 (i : Int), .int .u8 (j : Int)]), (w.heap.size + 2, 30, zsc), (g3, 24, #[.int .i32 X.q.x, .int .i32 X.q.y, .int .i32 X.q.vx, .int .i32 X.q.vy, .int .u8 (X.q.h : Int), .int .u8 (X.q.c : Int), .int .u8 (X.q.f : Int)]), (g4, 66, #[.int .i32 (X.q.x + 1792), .int .i32 (X.q.y + 1792), .int .i32 tx, .int .i32 ty, .int .u8 1, .int .u8 40]), (g5, 21, #[.int .i32 2048, .int .i32 (-2048), .int .i32 0, .int .i32 0]), (g6, 21, #[.int .i32 0, .int .i32 0, .int .i32 (-2048), .int .i32 2048])]) rfl (Nat.le_of_ble_eq_true rfl) rfl rfl; have Sr141 := Lib.hid (HR5.out.turn (by simp) qr137); clear qr137 HR5)
        clear Sr134 sr139
        clear lr136 lr135
        obtain ⟨wr143, sr144, Hr145, qr142⟩ := Hr140.stO ty_u8 0 rfl 14 (.int .u8 10) (cs' := #[.int .u64 (X.fr : Int), .int .u64 (X.sd : Int), .int .i32 X.p.x, .int .i32 X.p.y, .int .i32 X.p.vx, .int .i32 X.p.vy, .int .u8 (X.p.h : Int), .int .u8 (X.p.c : Int), .int .u8 (X.p.f : Int), .int .i32 X.q.x, .int .i32 X.q.y, .int .i32 X.q.vx, .int .i32 X.q.vy, .int .u8 (X.q.h : Int), .int .u8 10, .int .u8 (X.q.f : Int), .slice (some ⟨r, 0, none⟩) (X.ss.length + 1) cap5, .int .u16 (X.s0 : Int), .int .u16 (X.s1 : Int)]) rfl (L' := [(w.heap.size, 30, #[.int .u64 (X.fr : Int), .int .u64 (X.sd : Int), .int .i32 X.p.x, .int .i32 X.p.y, .int .i32 X.p.vx, .int .i32 X.p.vy, .int .u8 (X.p.h : Int), .int .u8 (X.p.c : Int), .int .u8 (X.p.f : Int), .int .i32 X.q.x, .int .i32 X.q.y, .int .i32 X.q.vx, .int .i32 X.q.vy, .int .u8 (X.q.h : Int), .int .u8 10, .int .u8 (X.q.f : Int), .slice (some ⟨r, 0, none⟩) (X.ss.length + 1) cap5, .int .u16 (X.s0 : Int), .int .u16 (X.s1 : Int)]), (w.heap.size + 1, 47, #[.int .u8 (i : Int), .int .u8 (j : Int)]), (w.heap.size + 2, 30, zsc), (g3, 24, #[.int .i32 X.q.x, .int .i32 X.q.y, .int .i32 X.q.vx, .int .i32 X.q.vy, .int .u8 (X.q.h : Int), .int .u8 (X.q.c : Int), .int .u8 (X.q.f : Int)]), (g4, 66, #[.int .i32 (X.q.x + 1792), .int .i32 (X.q.y + 1792), .int .i32 tx, .int .i32 ty, .int .u8 1, .int .u8 40]), (g5, 21, #[.int .i32 2048, .int .i32 (-2048), .int .i32 0, .int .i32 0]), (g6, 21, #[.int .i32 0, .int .i32 0, .int .i32 (-2048), .int .i32 2048])]) rfl (Nat.le_of_ble_eq_true rfl) rfl rfl
        have Sr146 := Lib.hid (Sr141.out.turn (by simp) qr142)
        clear qr142 Sr141
        have hd := of_decide_eq_true HB.out.symm
        have hfi : fire X 1 z1.f = { X with q := { X.q with c := 10 }, ss := X.ss ++ [shotOf X.q 1] } := by unfold fire; exact if_pos hd
        have hl2 : (X.ss ++ [shotOf X.q 1]).length = X.ss.length + 1 := by rw [List.length_append]; rfl
        have hXN : { X with q := { X.q with c := 10 }, ss := X.ss ++ [shotOf X.q 1] } = fir s z0 z1 2 := by rw [← hfi, HX.out.1]; rfl
        have hoN : ({ X with q := { X.q with c := 10 }, ss := X.ss ++ [shotOf X.q 1] } : St).ok := by rw [← hfi]; exact fire_ok HX.out.2 (by decide) _
        have HXN := Lib.hid hXN
        have HON := Lib.hid hoN
        have HL2 := Lib.hid hl2
        clear hd hfi hl2 hXN hoN hf3 px1 px2 py1 py2
        go_wp2
        go_roundw
        case rel => exact ⟨2, { X with q := { X.q with c := 10 }, ss := X.ss ++ [shotOf X.q 1] }, some ⟨r, 0, none⟩, cap5, by omega, by go_num, ⟨HXN.out, HON.out⟩, (by show Hid (Loc B w _ [(w.heap.size, 30, stc _ _ _), _, _]); unfold stc; dsimp only; rw [HL2.out]; exact Hr145.drop 3 rfl), (by show Hid (Shr _ _ _ _ (X.ss ++ [shotOf X.q 1]).length _ _); rw [HL2.out]; exact Sr146.out.less (by simp))⟩
        case measure => simp [intOf]
    | 2, _ =>
      rw [show ((2 : Nat) : Int) = 2 from rfl]
      have le1 := HR.out.ldA ty_state 0 rfl 0 (vs := (stc X ao2 cap2)) rfl (Nat.le_of_ble_eq_true rfl)
      obtain ⟨we3, se4, He5, qe2⟩ := HR.out.stA ty_state 2 rfl 0 (stc X ao2 cap2) (cs' := stc X ao2 cap2) rfl (L' := [(w.heap.size, 30, #[.int .u64 (X.fr : Int), .int .u64 (X.sd : Int), .int .i32 X.p.x, .int .i32 X.p.y, .int .i32 X.p.vx, .int .i32 X.p.vy, .int .u8 (X.p.h : Int), .int .u8 (X.p.c : Int), .int .u8 (X.p.f : Int), .int .i32 X.q.x, .int .i32 X.q.y, .int .i32 X.q.vx, .int .i32 X.q.vy, .int .u8 (X.q.h : Int), .int .u8 (X.q.c : Int), .int .u8 (X.q.f : Int), .slice ao2 X.ss.length cap2, .int .u16 (X.s0 : Int), .int .u16 (X.s1 : Int)]), (w.heap.size + 1, 47, #[.int .u8 (i : Int), .int .u8 (j : Int)]), (w.heap.size + 2, 30, stc X ao2 cap2)]) rfl (Nat.le_of_ble_eq_true rfl) rfl rfl
      have Se6 := Lib.hid (HSR.out.turn (by simp) qe2)
      clear qe2 HSR
      go_wp2
      refine bodyPost_ret (v := .agg (stc X ao2 cap2)) (ret_struct Tryd.underlying30 ty_state _ 4 _ Tryd.results50 (He5.get 2 rfl) rfl rfl) rfl ?_
      have hXE : X = fire (fire s 0 z0.f) 1 z1.f := HX.out.1
      rw [← hXE] at HQ
      exact HQ.out _ _ ⟨ao2, cap2, rfl, Se6.out.less (by simp), He5.be⟩
end Go.Proofs.YtgmbdadkahcpcaaDoor
