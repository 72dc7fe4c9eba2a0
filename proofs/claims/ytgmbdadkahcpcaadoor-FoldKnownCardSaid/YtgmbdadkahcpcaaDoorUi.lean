/- The program's frame: one who fires: contract. -/
import Derived.Test.YtgmbdadkahcpcaaDoorUh
namespace Go.Proofs.YtgmbdadkahcpcaaDoor
open Go.RowKit
set_option linter.unusedVariables false
set_option linter.unusedSimpArgs false
set_option maxRecDepth 20000

/-- What a part of a frame leaves: a state, its shots in a row of one's own. -/
def StPost (B : Nat) (w : World) (s : St) (E : Ending) (w' : World) : Prop := ∃ ao cap, E = .returned (sv s ao cap) ∧ Shr B w' [] ao s.ss.length cap s.ss ∧ Below B w w'
theorem fcs_at (f : Nat) (hf : f ≤ 3) : -1 ≤ fcs.getD (2 * f) 0 ∧ fcs.getD (2 * f) 0 ≤ 1 ∧ -1 ≤ fcs.getD (2 * f + 1) 0 ∧ fcs.getD (2 * f + 1) 0 ≤ 1 ∧ [2048, -2048, 0, 0].getD f 0 = 2048 * fcs.getD (2 * f) 0 ∧ [0, 0, -2048, 2048].getD f 0 = 2048 * fcs.getD (2 * f + 1) 0 := by
  have h4 : f = 0 ∨ f = 1 ∨ f = 2 ∨ f = 3 := by omega
  rcases h4 with rfl | rfl | rfl | rfl <;> decide
theorem fac_row {w : World} (h : Fac w) (k : Nat) (hk : k < 4) {tx ty : Int} (hx : tx = fcs.getD (2 * k) 0) (hy : ty = fcs.getD (2 * k + 1) 0) : (ldT 89 (.pointer (some ⟨1, k * 2, none⟩))).run Tryd.prog w = .ok (.agg #[.int .i32 tx, .int .i32 ty]) w := by
  rw [hx, hy, Nat.mul_comm]; exact fac_at h k hk
attribute [local go_sem ↓] ld_i32 ld_u8 ld_way ld_player ld_state ld_shots st_i32 st_u8 st_way st_player st_state st_shots
set_option maxHeartbeats 2000000 in
theorem fired0_c (s : St) (ao : Option Addr) (n cap B : Nat) (i : Nat) (w : World) (hi : i < 256) (hp : s.p.ok) (hF : Fac w) (hB : B ≤ w.heap.size) (hGB : 1 < B) (hR : Shr B w [] ao n cap s.ss) (hn : n ≤ 1000) :
    Calls Tryd.prog 43 #[sv s ao cap, .int .i64 0, .int .u8 (i : Int)] w (StPost B w (fire s 0 (inp i).f)) := by
  have HP := Lib.hid hp
  obtain ⟨f, hf⟩ : ∃ f, f = (inp i).f := ⟨_, rfl⟩
  have HA : Hid (∀ W, Calls Tryd.prog 59 #[.int .u8 (i : Int)] W fun E w' => E = .returned (.bool f) ∧ W = w') := fun W => by
    have hs := I.bits_same ⟨i, hi⟩
    dsimp only at hs
    rw [hf]; have := I.fire_c i W hi; rw [hs.2.2.1] at this; exact this
  rw [← hf]
  clear hf hi hp
  have hln : s.ss.length = n := hR.len
  have H0 := Lib.hid ((Loc.two w 30 30 (#[.int .u64 (s.fr : Int), .int .u64 (s.sd : Int), .int .i32 s.p.x, .int .i32 s.p.y, .int .i32 s.p.vx, .int .i32 s.p.vy, .int .u8 (s.p.h : Int), .int .u8 (s.p.c : Int), .int .u8 (s.p.f : Int), .int .i32 s.q.x, .int .i32 s.q.y, .int .i32 s.q.vx, .int .i32 s.q.vy, .int .u8 (s.q.h : Int), .int .u8 (s.q.c : Int), .int .u8 (s.q.f : Int), .slice ao n cap, .int .u16 (s.s0 : Int), .int .u16 (s.s1 : Int)] : Array Value) zsc).mono hB)
  have HR := Lib.hid hR
  have HF := Lib.hid hF
  have HGB := Lib.hid hGB
  have HLN := Lib.hid hln
  obtain ⟨Q, hQ⟩ : ∃ Q : Ending → World → Prop, Q = StPost B w (fire s 0 f) := ⟨_, rfl⟩
  rw [← hQ]
  have HQ : Hid (∀ E w', StPost B w (fire s 0 f) E w' → Q E w') := fun E w' h => by rw [hQ]; exact h
  have he : sv s ao cap = .agg (#[.int .u64 (s.fr : Int), .int .u64 (s.sd : Int), .int .i32 s.p.x, .int .i32 s.p.y, .int .i32 s.p.vx, .int .i32 s.p.vy, .int .u8 (s.p.h : Int), .int .u8 (s.p.c : Int), .int .u8 (s.p.f : Int), .int .i32 s.q.x, .int .i32 s.q.y, .int .i32 s.q.vx, .int .i32 s.q.vy, .int .u8 (s.q.h : Int), .int .u8 (s.q.c : Int), .int .u8 (s.q.f : Int), .slice ao n cap, .int .u16 (s.s0 : Int), .int .u16 (s.s1 : Int)] : Array Value) := by show Value.agg (stc s ao cap) = _; unfold stc; rw [hln]
  rw [he]
  clear hQ hR hF hGB hln he
  go_enter Tryd.func43, Tryd.ntmps43
  go_upto_region 1 with fail
  have HRa := Lib.hid (HR.out.two (.cells (#[.int .u64 (s.fr : Int), .int .u64 (s.sd : Int), .int .i32 s.p.x, .int .i32 s.p.y, .int .i32 s.p.vx, .int .i32 s.p.vy, .int .u8 (s.p.h : Int), .int .u8 (s.p.c : Int), .int .u8 (s.p.f : Int), .int .i32 s.q.x, .int .i32 s.q.y, .int .i32 s.q.vx, .int .i32 s.q.vy, .int .u8 (s.q.h : Int), .int .u8 (s.q.c : Int), .int .u8 (s.q.f : Int), .slice ao n cap, .int .u16 (s.s0 : Int), .int .u16 (s.s1 : Int)] : Array Value) 30) (.cells zsc 30))
  generalize (w.alloc (.cells (#[.int .u64 (s.fr : Int), .int .u64 (s.sd : Int), .int .i32 s.p.x, .int .i32 s.p.y, .int .i32 s.p.vx, .int .i32 s.p.vy, .int .u8 (s.p.h : Int), .int .u8 (s.p.c : Int), .int .u8 (s.p.f : Int), .int .i32 s.q.x, .int .i32 s.q.y, .int .i32 s.q.vx, .int .i32 s.q.vy, .int .u8 (s.q.h : Int), .int .u8 (s.q.c : Int), .int .u8 (s.q.f : Int), .slice ao n cap, .int .u16 (s.s0 : Int), .int .u16 (s.s1 : Int)] : Array Value) 30)).alloc (.cells zsc 30) = wa at *
  have la1 := H0.out.ldA ty_player 0 rfl 2 (vs := (pcs s.p)) rfl (Nat.le_of_ble_eq_true rfl)
  obtain ⟨g2, wa2, za5, sa3, Ha4, hg2⟩ := H0.out.newA ty_player zpl (pcs s.p) rfl rfl rfl
  replace Ha4 : Loc _ _ _ [(w.heap.size, 30, #[.int .u64 (s.fr : Int), .int .u64 (s.sd : Int), .int .i32 s.p.x, .int .i32 s.p.y, .int .i32 s.p.vx, .int .i32 s.p.vy, .int .u8 (s.p.h : Int), .int .u8 (s.p.c : Int), .int .u8 (s.p.f : Int), .int .i32 s.q.x, .int .i32 s.q.y, .int .i32 s.q.vx, .int .i32 s.q.vy, .int .u8 (s.q.h : Int), .int .u8 (s.q.c : Int), .int .u8 (s.q.f : Int), .slice ao n cap, .int .u16 (s.s0 : Int), .int .u16 (s.s1 : Int)]), (w.heap.size + 1, 30, zsc), (g2, 24, #[.int .i32 s.p.x, .int .i32 s.p.y, .int .i32 s.p.vx, .int .i32 s.p.vy, .int .u8 (s.p.h : Int), .int .u8 (s.p.c : Int), .int .u8 (s.p.f : Int)])] := Ha4
  go_upto_region 2 with fail
  have HRb := Lib.hid (HRa.out.fresh hg2 za5 (Ha4.get 2 rfl).lt)
  clear za5 sa3 la1
  clear HRa hg2 H0
  obtain ⟨b, hb⟩ : ∃ b, b = decide (f = true ∧ s.p.c = 0 ∧ n < 8) := ⟨_, rfl⟩
  have HB := Lib.hid hb
  clear hb
  obtain ⟨ci, hci⟩ : ∃ ci : Int, ci = (s.p.c : Int) := ⟨_, rfl⟩
  have la6 := Ha4.ldO ty_u8 2 rfl 5 (v := .int .u8 ci) (by rw [hci]; rfl)
  have HCI := Lib.hid hci
  clear hci
  have la7 := Ha4.ldO ty_shots 0 rfl 16 (v := .slice ao n cap) rfl
  go_cut [26] (fun s26 wx => s26 = .bool (!b) ∧ wx = wa2)
  case first =>
    go_wp2_with fail
    refine (HA.out _).mono ?_
    rintro E w6 ⟨rfl, rfl⟩
    cases hf : f
    · have hbf : b = false := by rw [HB.out, hf]; simp
      subst hbf
      go_wp2_with fail
      all_goals go_meet
      all_goals exact ⟨rfl, rfl⟩
    · by_cases hc : s.p.c = 0
      · have hcb : ¬ (0 : Int) < ci := by rw [HCI.out]; omega
        have HC := Lib.hid hc
        clear hc
        by_cases h8 : n < 8
        · have hbt : b = true := by rw [HB.out, hf]; exact decide_eq_true ⟨rfl, HC.out, h8⟩
          have h8i : ¬ (8 : Int) ≤ (n : Int) := by omega
          subst hbt
          go_wp2_with fail
          all_goals go_meet
          all_goals exact ⟨by simp [h8i] <;> omega, rfl⟩
        · have hbt : b = false := by rw [HB.out]; exact decide_eq_false (fun h => h8 h.2.2)
          have h8i : (8 : Int) ≤ (n : Int) := by omega
          subst hbt
          go_wp2_with fail
          all_goals go_meet
          all_goals exact ⟨by simp [h8i] <;> omega, rfl⟩
      · have hcb : (0 : Int) < ci := by rw [HCI.out]; omega
        have hbt : b = false := by rw [HB.out]; exact decide_eq_false (fun h => hc h.2.1)
        subst hbt
        go_wp2_with fail
        all_goals go_meet
        all_goals exact ⟨rfl, rfl⟩
  case rest =>
  obtain ⟨rfl, rfl⟩ := hcut
  clear HA
  clear la7 la6
  cases b
  · have hfi : fire s 0 f = s := by unfold fire; rw [if_neg]; rw [HLN.out]; exact of_decide_eq_false HB.out.symm
    rw [hfi] at HQ
    clear hfi
    have la8 := Ha4.ldA ty_state 0 rfl 0 (vs := (#[.int .u64 (s.fr : Int), .int .u64 (s.sd : Int), .int .i32 s.p.x, .int .i32 s.p.y, .int .i32 s.p.vx, .int .i32 s.p.vy, .int .u8 (s.p.h : Int), .int .u8 (s.p.c : Int), .int .u8 (s.p.f : Int), .int .i32 s.q.x, .int .i32 s.q.y, .int .i32 s.q.vx, .int .i32 s.q.vy, .int .u8 (s.q.h : Int), .int .u8 (s.q.c : Int), .int .u8 (s.q.f : Int), .slice ao n cap, .int .u16 (s.s0 : Int), .int .u16 (s.s1 : Int)])) rfl (Nat.le_of_ble_eq_true rfl)
    obtain ⟨wa9, sa10, Ha11, hg5⟩ := Ha4.stA ty_state 1 rfl 0 (#[.int .u64 (s.fr : Int), .int .u64 (s.sd : Int), .int .i32 s.p.x, .int .i32 s.p.y, .int .i32 s.p.vx, .int .i32 s.p.vy, .int .u8 (s.p.h : Int), .int .u8 (s.p.c : Int), .int .u8 (s.p.f : Int), .int .i32 s.q.x, .int .i32 s.q.y, .int .i32 s.q.vx, .int .i32 s.q.vy, .int .u8 (s.q.h : Int), .int .u8 (s.q.c : Int), .int .u8 (s.q.f : Int), .slice ao n cap, .int .u16 (s.s0 : Int), .int .u16 (s.s1 : Int)]) (cs' := #[.int .u64 (s.fr : Int), .int .u64 (s.sd : Int), .int .i32 s.p.x, .int .i32 s.p.y, .int .i32 s.p.vx, .int .i32 s.p.vy, .int .u8 (s.p.h : Int), .int .u8 (s.p.c : Int), .int .u8 (s.p.f : Int), .int .i32 s.q.x, .int .i32 s.q.y, .int .i32 s.q.vx, .int .i32 s.q.vy, .int .u8 (s.q.h : Int), .int .u8 (s.q.c : Int), .int .u8 (s.q.f : Int), .slice ao n cap, .int .u16 (s.s0 : Int), .int .u16 (s.s1 : Int)]) rfl (L' := [(w.heap.size, 30, #[.int .u64 (s.fr : Int), .int .u64 (s.sd : Int), .int .i32 s.p.x, .int .i32 s.p.y, .int .i32 s.p.vx, .int .i32 s.p.vy, .int .u8 (s.p.h : Int), .int .u8 (s.p.c : Int), .int .u8 (s.p.f : Int), .int .i32 s.q.x, .int .i32 s.q.y, .int .i32 s.q.vx, .int .i32 s.q.vy, .int .u8 (s.q.h : Int), .int .u8 (s.q.c : Int), .int .u8 (s.q.f : Int), .slice ao n cap, .int .u16 (s.s0 : Int), .int .u16 (s.s1 : Int)]), (w.heap.size + 1, 30, #[.int .u64 (s.fr : Int), .int .u64 (s.sd : Int), .int .i32 s.p.x, .int .i32 s.p.y, .int .i32 s.p.vx, .int .i32 s.p.vy, .int .u8 (s.p.h : Int), .int .u8 (s.p.c : Int), .int .u8 (s.p.f : Int), .int .i32 s.q.x, .int .i32 s.q.y, .int .i32 s.q.vx, .int .i32 s.q.vy, .int .u8 (s.q.h : Int), .int .u8 (s.q.c : Int), .int .u8 (s.q.f : Int), .slice ao n cap, .int .u16 (s.s0 : Int), .int .u16 (s.s1 : Int)]), (g2, 24, #[.int .i32 s.p.x, .int .i32 s.p.y, .int .i32 s.p.vx, .int .i32 s.p.vy, .int .u8 (s.p.h : Int), .int .u8 (s.p.c : Int), .int .u8 (s.p.f : Int)])]) rfl (Nat.le_of_ble_eq_true rfl) rfl rfl
    go_wp2
    refine bodyPost_ret (v := .agg #[.int .u64 (s.fr : Int), .int .u64 (s.sd : Int), .int .i32 s.p.x, .int .i32 s.p.y, .int .i32 s.p.vx, .int .i32 s.p.vy, .int .u8 (s.p.h : Int), .int .u8 (s.p.c : Int), .int .u8 (s.p.f : Int), .int .i32 s.q.x, .int .i32 s.q.y, .int .i32 s.q.vx, .int .i32 s.q.vy, .int .u8 (s.q.h : Int), .int .u8 (s.q.c : Int), .int .u8 (s.q.f : Int), .slice ao n cap, .int .u16 (s.s0 : Int), .int .u16 (s.s1 : Int)]) (ret_struct Tryd.underlying30 ty_state _ 6 _ Tryd.results43 (Ha11.get 1 rfl) rfl rfl) rfl ?_
    refine HQ.out _ _ ⟨ao, cap, ?_, ?_, Ha11.be⟩
    · show _ = Ending.returned (Value.agg (stc s ao cap)); unfold stc; rw [HLN.out]
    · rw [HLN.out]; exact (HRb.out.turn (by simp) hg5).less (by simp)
  · have la8 := Ha4.ldO ty_u8 2 rfl 6 (v := .int .u8 (s.p.f : Int)) rfl
    have hf3 : (s.p.f : Int) < 4 := by have := HP.out.f; omega
    have hf0 : ¬ (s.p.f : Int) < 0 := by omega
    obtain ⟨tx, htx⟩ : ∃ tx : Int, tx = fcs.getD (2 * s.p.f) 0 := ⟨_, rfl⟩
    obtain ⟨ty, hty⟩ : ∃ ty : Int, ty = fcs.getD (2 * s.p.f + 1) 0 := ⟨_, rfl⟩
    have hfa := fcs_at s.p.f (by omega)
    rw [← htx, ← hty] at hfa
    obtain ⟨t1, t2, t3, t4, t5, t6⟩ := hfa
    have lf := fac_row (fac_below HF.out Ha4.be HGB.out) s.p.f (by omega) htx hty
    have HSH : Hid (shotOf s.p 0 = ⟨s.p.x + 1792, s.p.y + 1792, 2048 * tx, 2048 * ty, 0, 40⟩) := by show _ = _; unfold shotOf; rw [t5, t6]
    clear htx hty t5 t6
    obtain ⟨g3, wa9, za12, sa10, Ha11, hg3⟩ := Ha4.newA ty_way (#[.int .i32 0, .int .i32 0]) #[.int .i32 tx, .int .i32 ty] rfl rfl rfl
    replace Ha11 : Loc _ _ _ [(w.heap.size, 30, #[.int .u64 (s.fr : Int), .int .u64 (s.sd : Int), .int .i32 s.p.x, .int .i32 s.p.y, .int .i32 s.p.vx, .int .i32 s.p.vy, .int .u8 (s.p.h : Int), .int .u8 (s.p.c : Int), .int .u8 (s.p.f : Int), .int .i32 s.q.x, .int .i32 s.q.y, .int .i32 s.q.vx, .int .i32 s.q.vy, .int .u8 (s.q.h : Int), .int .u8 (s.q.c : Int), .int .u8 (s.q.f : Int), .slice ao n cap, .int .u16 (s.s0 : Int), .int .u16 (s.s1 : Int)]), (w.heap.size + 1, 30, zsc), (g2, 24, #[.int .i32 s.p.x, .int .i32 s.p.y, .int .i32 s.p.vx, .int .i32 s.p.vy, .int .u8 (s.p.h : Int), .int .u8 (s.p.c : Int), .int .u8 (s.p.f : Int)]), (g3, 89, #[.int .i32 tx, .int .i32 ty])] := Ha11
    have HRc := Lib.hid (HRb.out.fresh hg3 za12 (Ha11.get 3 rfl).lt)
    go_upto_region 5 with fail
    clear lf hg3 hf3 hf0 HRb
    clear za12 sa10 la8
    obtain ⟨px1, px2⟩ := HP.out.x
    obtain ⟨py1, py2⟩ := HP.out.y
    have la13 := Ha11.ldO ty_shots 0 rfl 16 (v := .slice ao n cap) rfl
    have la14 := Ha11.ldO ty_i32 2 rfl 0 (v := .int .i32 s.p.x) rfl
    have la15 := Ha11.ldO ty_i32 2 rfl 1 (v := .int .i32 s.p.y) rfl
    have la16 := Ha11.ldO ty_i32 3 rfl 0 (v := .int .i32 tx) rfl
    have la17 := Ha11.ldO ty_i32 3 rfl 1 (v := .int .i32 ty) rfl
    go_upto_region 6 with (at_builtin; refine wpList_append_new rfl _ _ rfl (by simp [Act.eval]) (shotOf s.p 0) _ (by rw [HSH.out]; rfl) (by simp [Act.eval]) HRc.out Ha11 (by simp) (by omega) ?_; intro r cap5 w5 hR5 hL5; have HR5 := Lib.hid hR5; clear hR5; obtain ⟨wa18, sa19, Ha20, hg6⟩ := hL5.stO ty_shots 0 rfl 16 (.slice (some ⟨r, 0, none⟩) (n + 1) cap5) (cs' := #[.int .u64 (s.fr : Int), .int .u64 (s.sd : Int), .int .i32 s.p.x, .int .i32 s.p.y, .int .i32 s.p.vx, .int .i32 s.p.vy, .int .u8 (s.p.h : Int), .int .u8 (s.p.c : Int), .int .u8 (s.p.f : Int), .int .i32 s.q.x, .int .i32 s.q.y, .int .i32 s.q.vx, .int .i32 s.q.vy, .int .u8 (s.q.h : Int), .int .u8 (s.q.c : Int), .int .u8 (s.q.f : Int), .slice (some ⟨r, 0, none⟩) (n + 1) cap5, .int .u16 (s.s0 : Int), .int .u16 (s.s1 : Int)]) rfl (L' := [(w.heap.size, 30, #[.int .u64 (s.fr : Int), .int .u64 (s.sd : Int), .int .i32 s.p.x, .int .i32 s.p.y, .int .i32 s.p.vx, .int .i32 s.p.vy, .int .u8 (s.p.h : Int), .int .u8 (s.p.c : Int), .int .u8 (s.p.f : Int), .int .i32 s.q.x, .int .i32 s.q.y, .int .i32 s.q.vx, .int .i32 s.q.vy, .int .u8 (s.q.h : Int), .int .u8 (s.q.c : Int), .int .u8 (s.q.f : Int), .slice (some ⟨r, 0, none⟩) (n + 1) cap5, .int .u16 (s.s0 : Int), .int .u16 (s.s1 : Int)]), (w.heap.size + 1, 30, zsc), (g2, 24, #[.int .i32 s.p.x, .int .i32 s.p.y, .int .i32 s.p.vx, .int .i32 s.p.vy, .int .u8 (s.p.h : Int), .int .u8 (s.p.c : Int), .int .u8 (s.p.f : Int)]), (g3, 89, #[.int .i32 tx, .int .i32 ty])]) rfl (Nat.le_of_ble_eq_true rfl) rfl rfl; have HR6 := Lib.hid (HR5.out.turn (by simp) hg6))
    clear HRc HSH sa19
    clear la17 la16 la15 la14 la13
    obtain ⟨wa21, sa22, Ha23, hg7⟩ := Ha20.stO ty_u8 0 rfl 7 (.int .u8 10) (cs' := #[.int .u64 (s.fr : Int), .int .u64 (s.sd : Int), .int .i32 s.p.x, .int .i32 s.p.y, .int .i32 s.p.vx, .int .i32 s.p.vy, .int .u8 (s.p.h : Int), .int .u8 10, .int .u8 (s.p.f : Int), .int .i32 s.q.x, .int .i32 s.q.y, .int .i32 s.q.vx, .int .i32 s.q.vy, .int .u8 (s.q.h : Int), .int .u8 (s.q.c : Int), .int .u8 (s.q.f : Int), .slice (some ⟨r, 0, none⟩) (n + 1) cap5, .int .u16 (s.s0 : Int), .int .u16 (s.s1 : Int)]) rfl (L' := [(w.heap.size, 30, #[.int .u64 (s.fr : Int), .int .u64 (s.sd : Int), .int .i32 s.p.x, .int .i32 s.p.y, .int .i32 s.p.vx, .int .i32 s.p.vy, .int .u8 (s.p.h : Int), .int .u8 10, .int .u8 (s.p.f : Int), .int .i32 s.q.x, .int .i32 s.q.y, .int .i32 s.q.vx, .int .i32 s.q.vy, .int .u8 (s.q.h : Int), .int .u8 (s.q.c : Int), .int .u8 (s.q.f : Int), .slice (some ⟨r, 0, none⟩) (n + 1) cap5, .int .u16 (s.s0 : Int), .int .u16 (s.s1 : Int)]), (w.heap.size + 1, 30, zsc), (g2, 24, #[.int .i32 s.p.x, .int .i32 s.p.y, .int .i32 s.p.vx, .int .i32 s.p.vy, .int .u8 (s.p.h : Int), .int .u8 (s.p.c : Int), .int .u8 (s.p.f : Int)]), (g3, 89, #[.int .i32 tx, .int .i32 ty])]) rfl (Nat.le_of_ble_eq_true rfl) rfl rfl
    have la24 := Ha23.ldA ty_state 0 rfl 0 (vs := (#[.int .u64 (s.fr : Int), .int .u64 (s.sd : Int), .int .i32 s.p.x, .int .i32 s.p.y, .int .i32 s.p.vx, .int .i32 s.p.vy, .int .u8 (s.p.h : Int), .int .u8 10, .int .u8 (s.p.f : Int), .int .i32 s.q.x, .int .i32 s.q.y, .int .i32 s.q.vx, .int .i32 s.q.vy, .int .u8 (s.q.h : Int), .int .u8 (s.q.c : Int), .int .u8 (s.q.f : Int), .slice (some ⟨r, 0, none⟩) (n + 1) cap5, .int .u16 (s.s0 : Int), .int .u16 (s.s1 : Int)])) rfl (Nat.le_of_ble_eq_true rfl)
    obtain ⟨wa25, sa26, Ha27, hg8⟩ := Ha23.stA ty_state 1 rfl 0 (#[.int .u64 (s.fr : Int), .int .u64 (s.sd : Int), .int .i32 s.p.x, .int .i32 s.p.y, .int .i32 s.p.vx, .int .i32 s.p.vy, .int .u8 (s.p.h : Int), .int .u8 10, .int .u8 (s.p.f : Int), .int .i32 s.q.x, .int .i32 s.q.y, .int .i32 s.q.vx, .int .i32 s.q.vy, .int .u8 (s.q.h : Int), .int .u8 (s.q.c : Int), .int .u8 (s.q.f : Int), .slice (some ⟨r, 0, none⟩) (n + 1) cap5, .int .u16 (s.s0 : Int), .int .u16 (s.s1 : Int)]) (cs' := #[.int .u64 (s.fr : Int), .int .u64 (s.sd : Int), .int .i32 s.p.x, .int .i32 s.p.y, .int .i32 s.p.vx, .int .i32 s.p.vy, .int .u8 (s.p.h : Int), .int .u8 10, .int .u8 (s.p.f : Int), .int .i32 s.q.x, .int .i32 s.q.y, .int .i32 s.q.vx, .int .i32 s.q.vy, .int .u8 (s.q.h : Int), .int .u8 (s.q.c : Int), .int .u8 (s.q.f : Int), .slice (some ⟨r, 0, none⟩) (n + 1) cap5, .int .u16 (s.s0 : Int), .int .u16 (s.s1 : Int)]) rfl (L' := [(w.heap.size, 30, #[.int .u64 (s.fr : Int), .int .u64 (s.sd : Int), .int .i32 s.p.x, .int .i32 s.p.y, .int .i32 s.p.vx, .int .i32 s.p.vy, .int .u8 (s.p.h : Int), .int .u8 10, .int .u8 (s.p.f : Int), .int .i32 s.q.x, .int .i32 s.q.y, .int .i32 s.q.vx, .int .i32 s.q.vy, .int .u8 (s.q.h : Int), .int .u8 (s.q.c : Int), .int .u8 (s.q.f : Int), .slice (some ⟨r, 0, none⟩) (n + 1) cap5, .int .u16 (s.s0 : Int), .int .u16 (s.s1 : Int)]), (w.heap.size + 1, 30, #[.int .u64 (s.fr : Int), .int .u64 (s.sd : Int), .int .i32 s.p.x, .int .i32 s.p.y, .int .i32 s.p.vx, .int .i32 s.p.vy, .int .u8 (s.p.h : Int), .int .u8 10, .int .u8 (s.p.f : Int), .int .i32 s.q.x, .int .i32 s.q.y, .int .i32 s.q.vx, .int .i32 s.q.vy, .int .u8 (s.q.h : Int), .int .u8 (s.q.c : Int), .int .u8 (s.q.f : Int), .slice (some ⟨r, 0, none⟩) (n + 1) cap5, .int .u16 (s.s0 : Int), .int .u16 (s.s1 : Int)]), (g2, 24, #[.int .i32 s.p.x, .int .i32 s.p.y, .int .i32 s.p.vx, .int .i32 s.p.vy, .int .u8 (s.p.h : Int), .int .u8 (s.p.c : Int), .int .u8 (s.p.f : Int)]), (g3, 89, #[.int .i32 tx, .int .i32 ty])]) rfl (Nat.le_of_ble_eq_true rfl) rfl rfl
    go_wp2
    refine bodyPost_ret (v := .agg #[.int .u64 (s.fr : Int), .int .u64 (s.sd : Int), .int .i32 s.p.x, .int .i32 s.p.y, .int .i32 s.p.vx, .int .i32 s.p.vy, .int .u8 (s.p.h : Int), .int .u8 10, .int .u8 (s.p.f : Int), .int .i32 s.q.x, .int .i32 s.q.y, .int .i32 s.q.vx, .int .i32 s.q.vy, .int .u8 (s.q.h : Int), .int .u8 (s.q.c : Int), .int .u8 (s.q.f : Int), .slice (some ⟨r, 0, none⟩) (n + 1) cap5, .int .u16 (s.s0 : Int), .int .u16 (s.s1 : Int)]) (ret_struct Tryd.underlying30 ty_state _ 6 _ Tryd.results43 (Ha27.get 1 rfl) rfl rfl) rfl ?_
    have hd := of_decide_eq_true HB.out.symm
    have hfi : fire s 0 f = { s with p := { s.p with c := 10 }, ss := s.ss ++ [shotOf s.p 0] } := by unfold fire; rw [if_pos ⟨hd.1, hd.2.1, by rw [HLN.out]; exact hd.2.2⟩]; rfl
    have hl2 : (s.ss ++ [shotOf s.p 0]).length = n + 1 := by rw [List.length_append, HLN.out]; rfl
    rw [hfi] at HQ
    refine HQ.out _ _ ⟨some ⟨r, 0, none⟩, cap5, ?_, ?_, Ha27.be⟩
    · show _ = Ending.returned (Value.agg (stc _ _ _)); unfold stc; dsimp only; rw [hl2]; rfl
    · dsimp only; rw [hl2]; exact ((HR6.out.turn (by simp) hg7).turn (by simp) hg8).less (by simp)
set_option maxHeartbeats 2000000 in
theorem fired1_c (s : St) (ao : Option Addr) (n cap B : Nat) (i : Nat) (w : World) (hi : i < 256) (hp : s.q.ok) (hF : Fac w) (hB : B ≤ w.heap.size) (hGB : 1 < B) (hR : Shr B w [] ao n cap s.ss) (hn : n ≤ 1000) :
    Calls Tryd.prog 43 #[sv s ao cap, .int .i64 1, .int .u8 (i : Int)] w (StPost B w (fire s 1 (inp i).f)) := by
  have HP := Lib.hid hp
  obtain ⟨f, hf⟩ : ∃ f, f = (inp i).f := ⟨_, rfl⟩
  have HA : Hid (∀ W, Calls Tryd.prog 59 #[.int .u8 (i : Int)] W fun E w' => E = .returned (.bool f) ∧ W = w') := fun W => by
    have hs := I.bits_same ⟨i, hi⟩
    dsimp only at hs
    rw [hf]; have := I.fire_c i W hi; rw [hs.2.2.1] at this; exact this
  rw [← hf]
  clear hf hi hp
  have hln : s.ss.length = n := hR.len
  have H0 := Lib.hid ((Loc.two w 30 30 (#[.int .u64 (s.fr : Int), .int .u64 (s.sd : Int), .int .i32 s.p.x, .int .i32 s.p.y, .int .i32 s.p.vx, .int .i32 s.p.vy, .int .u8 (s.p.h : Int), .int .u8 (s.p.c : Int), .int .u8 (s.p.f : Int), .int .i32 s.q.x, .int .i32 s.q.y, .int .i32 s.q.vx, .int .i32 s.q.vy, .int .u8 (s.q.h : Int), .int .u8 (s.q.c : Int), .int .u8 (s.q.f : Int), .slice ao n cap, .int .u16 (s.s0 : Int), .int .u16 (s.s1 : Int)] : Array Value) zsc).mono hB)
  have HR := Lib.hid hR
  have HF := Lib.hid hF
  have HGB := Lib.hid hGB
  have HLN := Lib.hid hln
  obtain ⟨Q, hQ⟩ : ∃ Q : Ending → World → Prop, Q = StPost B w (fire s 1 f) := ⟨_, rfl⟩
  rw [← hQ]
  have HQ : Hid (∀ E w', StPost B w (fire s 1 f) E w' → Q E w') := fun E w' h => by rw [hQ]; exact h
  have he : sv s ao cap = .agg (#[.int .u64 (s.fr : Int), .int .u64 (s.sd : Int), .int .i32 s.p.x, .int .i32 s.p.y, .int .i32 s.p.vx, .int .i32 s.p.vy, .int .u8 (s.p.h : Int), .int .u8 (s.p.c : Int), .int .u8 (s.p.f : Int), .int .i32 s.q.x, .int .i32 s.q.y, .int .i32 s.q.vx, .int .i32 s.q.vy, .int .u8 (s.q.h : Int), .int .u8 (s.q.c : Int), .int .u8 (s.q.f : Int), .slice ao n cap, .int .u16 (s.s0 : Int), .int .u16 (s.s1 : Int)] : Array Value) := by show Value.agg (stc s ao cap) = _; unfold stc; rw [hln]
  rw [he]
  clear hQ hR hF hGB hln he
  go_enter Tryd.func43, Tryd.ntmps43
  go_upto_region 1 with fail
  have HRa := Lib.hid (HR.out.two (.cells (#[.int .u64 (s.fr : Int), .int .u64 (s.sd : Int), .int .i32 s.p.x, .int .i32 s.p.y, .int .i32 s.p.vx, .int .i32 s.p.vy, .int .u8 (s.p.h : Int), .int .u8 (s.p.c : Int), .int .u8 (s.p.f : Int), .int .i32 s.q.x, .int .i32 s.q.y, .int .i32 s.q.vx, .int .i32 s.q.vy, .int .u8 (s.q.h : Int), .int .u8 (s.q.c : Int), .int .u8 (s.q.f : Int), .slice ao n cap, .int .u16 (s.s0 : Int), .int .u16 (s.s1 : Int)] : Array Value) 30) (.cells zsc 30))
  generalize (w.alloc (.cells (#[.int .u64 (s.fr : Int), .int .u64 (s.sd : Int), .int .i32 s.p.x, .int .i32 s.p.y, .int .i32 s.p.vx, .int .i32 s.p.vy, .int .u8 (s.p.h : Int), .int .u8 (s.p.c : Int), .int .u8 (s.p.f : Int), .int .i32 s.q.x, .int .i32 s.q.y, .int .i32 s.q.vx, .int .i32 s.q.vy, .int .u8 (s.q.h : Int), .int .u8 (s.q.c : Int), .int .u8 (s.q.f : Int), .slice ao n cap, .int .u16 (s.s0 : Int), .int .u16 (s.s1 : Int)] : Array Value) 30)).alloc (.cells zsc 30) = wa at *
  have la1 := H0.out.ldA ty_player 0 rfl 9 (vs := (pcs s.q)) rfl (Nat.le_of_ble_eq_true rfl)
  obtain ⟨g2, wa2, za5, sa3, Ha4, hg2⟩ := H0.out.newA ty_player zpl (pcs s.q) rfl rfl rfl
  replace Ha4 : Loc _ _ _ [(w.heap.size, 30, #[.int .u64 (s.fr : Int), .int .u64 (s.sd : Int), .int .i32 s.p.x, .int .i32 s.p.y, .int .i32 s.p.vx, .int .i32 s.p.vy, .int .u8 (s.p.h : Int), .int .u8 (s.p.c : Int), .int .u8 (s.p.f : Int), .int .i32 s.q.x, .int .i32 s.q.y, .int .i32 s.q.vx, .int .i32 s.q.vy, .int .u8 (s.q.h : Int), .int .u8 (s.q.c : Int), .int .u8 (s.q.f : Int), .slice ao n cap, .int .u16 (s.s0 : Int), .int .u16 (s.s1 : Int)]), (w.heap.size + 1, 30, zsc), (g2, 24, #[.int .i32 s.q.x, .int .i32 s.q.y, .int .i32 s.q.vx, .int .i32 s.q.vy, .int .u8 (s.q.h : Int), .int .u8 (s.q.c : Int), .int .u8 (s.q.f : Int)])] := Ha4
  go_upto_region 2 with fail
  have HRb := Lib.hid (HRa.out.fresh hg2 za5 (Ha4.get 2 rfl).lt)
  clear za5 sa3 la1
  clear HRa hg2 H0
  obtain ⟨b, hb⟩ : ∃ b, b = decide (f = true ∧ s.q.c = 0 ∧ n < 8) := ⟨_, rfl⟩
  have HB := Lib.hid hb
  clear hb
  obtain ⟨ci, hci⟩ : ∃ ci : Int, ci = (s.q.c : Int) := ⟨_, rfl⟩
  have la6 := Ha4.ldO ty_u8 2 rfl 5 (v := .int .u8 ci) (by rw [hci]; rfl)
  have HCI := Lib.hid hci
  clear hci
  have la7 := Ha4.ldO ty_shots 0 rfl 16 (v := .slice ao n cap) rfl
  go_cut [26] (fun s26 wx => s26 = .bool (!b) ∧ wx = wa2)
  case first =>
    go_wp2_with fail
    refine (HA.out _).mono ?_
    rintro E w6 ⟨rfl, rfl⟩
    cases hf : f
    · have hbf : b = false := by rw [HB.out, hf]; simp
      subst hbf
      go_wp2_with fail
      all_goals go_meet
      all_goals exact ⟨rfl, rfl⟩
    · by_cases hc : s.q.c = 0
      · have hcb : ¬ (0 : Int) < ci := by rw [HCI.out]; omega
        have HC := Lib.hid hc
        clear hc
        by_cases h8 : n < 8
        · have hbt : b = true := by rw [HB.out, hf]; exact decide_eq_true ⟨rfl, HC.out, h8⟩
          have h8i : ¬ (8 : Int) ≤ (n : Int) := by omega
          subst hbt
          go_wp2_with fail
          all_goals go_meet
          all_goals exact ⟨by simp [h8i] <;> omega, rfl⟩
        · have hbt : b = false := by rw [HB.out]; exact decide_eq_false (fun h => h8 h.2.2)
          have h8i : (8 : Int) ≤ (n : Int) := by omega
          subst hbt
          go_wp2_with fail
          all_goals go_meet
          all_goals exact ⟨by simp [h8i] <;> omega, rfl⟩
      · have hcb : (0 : Int) < ci := by rw [HCI.out]; omega
        have hbt : b = false := by rw [HB.out]; exact decide_eq_false (fun h => hc h.2.1)
        subst hbt
        go_wp2_with fail
        all_goals go_meet
        all_goals exact ⟨rfl, rfl⟩
  case rest =>
  obtain ⟨rfl, rfl⟩ := hcut
  clear HA
  clear la7 la6
  cases b
  · have hfi : fire s 1 f = s := by unfold fire; rw [if_neg]; rw [HLN.out]; exact of_decide_eq_false HB.out.symm
    rw [hfi] at HQ
    clear hfi
    have la8 := Ha4.ldA ty_state 0 rfl 0 (vs := (#[.int .u64 (s.fr : Int), .int .u64 (s.sd : Int), .int .i32 s.p.x, .int .i32 s.p.y, .int .i32 s.p.vx, .int .i32 s.p.vy, .int .u8 (s.p.h : Int), .int .u8 (s.p.c : Int), .int .u8 (s.p.f : Int), .int .i32 s.q.x, .int .i32 s.q.y, .int .i32 s.q.vx, .int .i32 s.q.vy, .int .u8 (s.q.h : Int), .int .u8 (s.q.c : Int), .int .u8 (s.q.f : Int), .slice ao n cap, .int .u16 (s.s0 : Int), .int .u16 (s.s1 : Int)])) rfl (Nat.le_of_ble_eq_true rfl)
    obtain ⟨wa9, sa10, Ha11, hg5⟩ := Ha4.stA ty_state 1 rfl 0 (#[.int .u64 (s.fr : Int), .int .u64 (s.sd : Int), .int .i32 s.p.x, .int .i32 s.p.y, .int .i32 s.p.vx, .int .i32 s.p.vy, .int .u8 (s.p.h : Int), .int .u8 (s.p.c : Int), .int .u8 (s.p.f : Int), .int .i32 s.q.x, .int .i32 s.q.y, .int .i32 s.q.vx, .int .i32 s.q.vy, .int .u8 (s.q.h : Int), .int .u8 (s.q.c : Int), .int .u8 (s.q.f : Int), .slice ao n cap, .int .u16 (s.s0 : Int), .int .u16 (s.s1 : Int)]) (cs' := #[.int .u64 (s.fr : Int), .int .u64 (s.sd : Int), .int .i32 s.p.x, .int .i32 s.p.y, .int .i32 s.p.vx, .int .i32 s.p.vy, .int .u8 (s.p.h : Int), .int .u8 (s.p.c : Int), .int .u8 (s.p.f : Int), .int .i32 s.q.x, .int .i32 s.q.y, .int .i32 s.q.vx, .int .i32 s.q.vy, .int .u8 (s.q.h : Int), .int .u8 (s.q.c : Int), .int .u8 (s.q.f : Int), .slice ao n cap, .int .u16 (s.s0 : Int), .int .u16 (s.s1 : Int)]) rfl (L' := [(w.heap.size, 30, #[.int .u64 (s.fr : Int), .int .u64 (s.sd : Int), .int .i32 s.p.x, .int .i32 s.p.y, .int .i32 s.p.vx, .int .i32 s.p.vy, .int .u8 (s.p.h : Int), .int .u8 (s.p.c : Int), .int .u8 (s.p.f : Int), .int .i32 s.q.x, .int .i32 s.q.y, .int .i32 s.q.vx, .int .i32 s.q.vy, .int .u8 (s.q.h : Int), .int .u8 (s.q.c : Int), .int .u8 (s.q.f : Int), .slice ao n cap, .int .u16 (s.s0 : Int), .int .u16 (s.s1 : Int)]), (w.heap.size + 1, 30, #[.int .u64 (s.fr : Int), .int .u64 (s.sd : Int), .int .i32 s.p.x, .int .i32 s.p.y, .int .i32 s.p.vx, .int .i32 s.p.vy, .int .u8 (s.p.h : Int), .int .u8 (s.p.c : Int), .int .u8 (s.p.f : Int), .int .i32 s.q.x, .int .i32 s.q.y, .int .i32 s.q.vx, .int .i32 s.q.vy, .int .u8 (s.q.h : Int), .int .u8 (s.q.c : Int), .int .u8 (s.q.f : Int), .slice ao n cap, .int .u16 (s.s0 : Int), .int .u16 (s.s1 : Int)]), (g2, 24, #[.int .i32 s.q.x, .int .i32 s.q.y, .int .i32 s.q.vx, .int .i32 s.q.vy, .int .u8 (s.q.h : Int), .int .u8 (s.q.c : Int), .int .u8 (s.q.f : Int)])]) rfl (Nat.le_of_ble_eq_true rfl) rfl rfl
    go_wp2
    refine bodyPost_ret (v := .agg #[.int .u64 (s.fr : Int), .int .u64 (s.sd : Int), .int .i32 s.p.x, .int .i32 s.p.y, .int .i32 s.p.vx, .int .i32 s.p.vy, .int .u8 (s.p.h : Int), .int .u8 (s.p.c : Int), .int .u8 (s.p.f : Int), .int .i32 s.q.x, .int .i32 s.q.y, .int .i32 s.q.vx, .int .i32 s.q.vy, .int .u8 (s.q.h : Int), .int .u8 (s.q.c : Int), .int .u8 (s.q.f : Int), .slice ao n cap, .int .u16 (s.s0 : Int), .int .u16 (s.s1 : Int)]) (ret_struct Tryd.underlying30 ty_state _ 6 _ Tryd.results43 (Ha11.get 1 rfl) rfl rfl) rfl ?_
    refine HQ.out _ _ ⟨ao, cap, ?_, ?_, Ha11.be⟩
    · show _ = Ending.returned (Value.agg (stc s ao cap)); unfold stc; rw [HLN.out]
    · rw [HLN.out]; exact (HRb.out.turn (by simp) hg5).less (by simp)
  · have la8 := Ha4.ldO ty_u8 2 rfl 6 (v := .int .u8 (s.q.f : Int)) rfl
    have hf3 : (s.q.f : Int) < 4 := by have := HP.out.f; omega
    have hf0 : ¬ (s.q.f : Int) < 0 := by omega
    obtain ⟨tx, htx⟩ : ∃ tx : Int, tx = fcs.getD (2 * s.q.f) 0 := ⟨_, rfl⟩
    obtain ⟨ty, hty⟩ : ∃ ty : Int, ty = fcs.getD (2 * s.q.f + 1) 0 := ⟨_, rfl⟩
    have hfa := fcs_at s.q.f (by omega)
    rw [← htx, ← hty] at hfa
    obtain ⟨t1, t2, t3, t4, t5, t6⟩ := hfa
    have lf := fac_row (fac_below HF.out Ha4.be HGB.out) s.q.f (by omega) htx hty
    have HSH : Hid (shotOf s.q 1 = ⟨s.q.x + 1792, s.q.y + 1792, 2048 * tx, 2048 * ty, 1, 40⟩) := by show _ = _; unfold shotOf; rw [t5, t6]
    clear htx hty t5 t6
    obtain ⟨g3, wa9, za12, sa10, Ha11, hg3⟩ := Ha4.newA ty_way (#[.int .i32 0, .int .i32 0]) #[.int .i32 tx, .int .i32 ty] rfl rfl rfl
    replace Ha11 : Loc _ _ _ [(w.heap.size, 30, #[.int .u64 (s.fr : Int), .int .u64 (s.sd : Int), .int .i32 s.p.x, .int .i32 s.p.y, .int .i32 s.p.vx, .int .i32 s.p.vy, .int .u8 (s.p.h : Int), .int .u8 (s.p.c : Int), .int .u8 (s.p.f : Int), .int .i32 s.q.x, .int .i32 s.q.y, .int .i32 s.q.vx, .int .i32 s.q.vy, .int .u8 (s.q.h : Int), .int .u8 (s.q.c : Int), .int .u8 (s.q.f : Int), .slice ao n cap, .int .u16 (s.s0 : Int), .int .u16 (s.s1 : Int)]), (w.heap.size + 1, 30, zsc), (g2, 24, #[.int .i32 s.q.x, .int .i32 s.q.y, .int .i32 s.q.vx, .int .i32 s.q.vy, .int .u8 (s.q.h : Int), .int .u8 (s.q.c : Int), .int .u8 (s.q.f : Int)]), (g3, 89, #[.int .i32 tx, .int .i32 ty])] := Ha11
    have HRc := Lib.hid (HRb.out.fresh hg3 za12 (Ha11.get 3 rfl).lt)
    go_upto_region 5 with fail
    clear lf hg3 hf3 hf0 HRb
    clear za12 sa10 la8
    obtain ⟨px1, px2⟩ := HP.out.x
    obtain ⟨py1, py2⟩ := HP.out.y
    have la13 := Ha11.ldO ty_shots 0 rfl 16 (v := .slice ao n cap) rfl
    have la14 := Ha11.ldO ty_i32 2 rfl 0 (v := .int .i32 s.q.x) rfl
    have la15 := Ha11.ldO ty_i32 2 rfl 1 (v := .int .i32 s.q.y) rfl
    have la16 := Ha11.ldO ty_i32 3 rfl 0 (v := .int .i32 tx) rfl
    have la17 := Ha11.ldO ty_i32 3 rfl 1 (v := .int .i32 ty) rfl
    go_upto_region 6 with (at_builtin; refine wpList_append_new rfl _ _ rfl (by simp [Act.eval]) (shotOf s.q 1) _ (by rw [HSH.out]; rfl) (by simp [Act.eval]) HRc.out Ha11 (by simp) (by omega) ?_; intro r cap5 w5 hR5 hL5; have HR5 := Lib.hid hR5; clear hR5; obtain ⟨wa18, sa19, Ha20, hg6⟩ := hL5.stO ty_shots 0 rfl 16 (.slice (some ⟨r, 0, none⟩) (n + 1) cap5) (cs' := #[.int .u64 (s.fr : Int), .int .u64 (s.sd : Int), .int .i32 s.p.x, .int .i32 s.p.y, .int .i32 s.p.vx, .int .i32 s.p.vy, .int .u8 (s.p.h : Int), .int .u8 (s.p.c : Int), .int .u8 (s.p.f : Int), .int .i32 s.q.x, .int .i32 s.q.y, .int .i32 s.q.vx, .int .i32 s.q.vy, .int .u8 (s.q.h : Int), .int .u8 (s.q.c : Int), .int .u8 (s.q.f : Int), .slice (some ⟨r, 0, none⟩) (n + 1) cap5, .int .u16 (s.s0 : Int), .int .u16 (s.s1 : Int)]) rfl (L' := [(w.heap.size, 30, #[.int .u64 (s.fr : Int), .int .u64 (s.sd : Int), .int .i32 s.p.x, .int .i32 s.p.y, .int .i32 s.p.vx, .int .i32 s.p.vy, .int .u8 (s.p.h : Int), .int .u8 (s.p.c : Int), .int .u8 (s.p.f : Int), .int .i32 s.q.x, .int .i32 s.q.y, .int .i32 s.q.vx, .int .i32 s.q.vy, .int .u8 (s.q.h : Int), .int .u8 (s.q.c : Int), .int .u8 (s.q.f : Int), .slice (some ⟨r, 0, none⟩) (n + 1) cap5, .int .u16 (s.s0 : Int), .int .u16 (s.s1 : Int)]), (w.heap.size + 1, 30, zsc), (g2, 24, #[.int .i32 s.q.x, .int .i32 s.q.y, .int .i32 s.q.vx, .int .i32 s.q.vy, .int .u8 (s.q.h : Int), .int .u8 (s.q.c : Int), .int .u8 (s.q.f : Int)]), (g3, 89, #[.int .i32 tx, .int .i32 ty])]) rfl (Nat.le_of_ble_eq_true rfl) rfl rfl; have HR6 := Lib.hid (HR5.out.turn (by simp) hg6))
    clear HRc HSH sa19
    clear la17 la16 la15 la14 la13
    obtain ⟨wa21, sa22, Ha23, hg7⟩ := Ha20.stO ty_u8 0 rfl 14 (.int .u8 10) (cs' := #[.int .u64 (s.fr : Int), .int .u64 (s.sd : Int), .int .i32 s.p.x, .int .i32 s.p.y, .int .i32 s.p.vx, .int .i32 s.p.vy, .int .u8 (s.p.h : Int), .int .u8 (s.p.c : Int), .int .u8 (s.p.f : Int), .int .i32 s.q.x, .int .i32 s.q.y, .int .i32 s.q.vx, .int .i32 s.q.vy, .int .u8 (s.q.h : Int), .int .u8 10, .int .u8 (s.q.f : Int), .slice (some ⟨r, 0, none⟩) (n + 1) cap5, .int .u16 (s.s0 : Int), .int .u16 (s.s1 : Int)]) rfl (L' := [(w.heap.size, 30, #[.int .u64 (s.fr : Int), .int .u64 (s.sd : Int), .int .i32 s.p.x, .int .i32 s.p.y, .int .i32 s.p.vx, .int .i32 s.p.vy, .int .u8 (s.p.h : Int), .int .u8 (s.p.c : Int), .int .u8 (s.p.f : Int), .int .i32 s.q.x, .int .i32 s.q.y, .int .i32 s.q.vx, .int .i32 s.q.vy, .int .u8 (s.q.h : Int), .int .u8 10, .int .u8 (s.q.f : Int), .slice (some ⟨r, 0, none⟩) (n + 1) cap5, .int .u16 (s.s0 : Int), .int .u16 (s.s1 : Int)]), (w.heap.size + 1, 30, zsc), (g2, 24, #[.int .i32 s.q.x, .int .i32 s.q.y, .int .i32 s.q.vx, .int .i32 s.q.vy, .int .u8 (s.q.h : Int), .int .u8 (s.q.c : Int), .int .u8 (s.q.f : Int)]), (g3, 89, #[.int .i32 tx, .int .i32 ty])]) rfl (Nat.le_of_ble_eq_true rfl) rfl rfl
    have la24 := Ha23.ldA ty_state 0 rfl 0 (vs := (#[.int .u64 (s.fr : Int), .int .u64 (s.sd : Int), .int .i32 s.p.x, .int .i32 s.p.y, .int .i32 s.p.vx, .int .i32 s.p.vy, .int .u8 (s.p.h : Int), .int .u8 (s.p.c : Int), .int .u8 (s.p.f : Int), .int .i32 s.q.x, .int .i32 s.q.y, .int .i32 s.q.vx, .int .i32 s.q.vy, .int .u8 (s.q.h : Int), .int .u8 10, .int .u8 (s.q.f : Int), .slice (some ⟨r, 0, none⟩) (n + 1) cap5, .int .u16 (s.s0 : Int), .int .u16 (s.s1 : Int)])) rfl (Nat.le_of_ble_eq_true rfl)
    obtain ⟨wa25, sa26, Ha27, hg8⟩ := Ha23.stA ty_state 1 rfl 0 (#[.int .u64 (s.fr : Int), .int .u64 (s.sd : Int), .int .i32 s.p.x, .int .i32 s.p.y, .int .i32 s.p.vx, .int .i32 s.p.vy, .int .u8 (s.p.h : Int), .int .u8 (s.p.c : Int), .int .u8 (s.p.f : Int), .int .i32 s.q.x, .int .i32 s.q.y, .int .i32 s.q.vx, .int .i32 s.q.vy, .int .u8 (s.q.h : Int), .int .u8 10, .int .u8 (s.q.f : Int), .slice (some ⟨r, 0, none⟩) (n + 1) cap5, .int .u16 (s.s0 : Int), .int .u16 (s.s1 : Int)]) (cs' := #[.int .u64 (s.fr : Int), .int .u64 (s.sd : Int), .int .i32 s.p.x, .int .i32 s.p.y, .int .i32 s.p.vx, .int .i32 s.p.vy, .int .u8 (s.p.h : Int), .int .u8 (s.p.c : Int), .int .u8 (s.p.f : Int), .int .i32 s.q.x, .int .i32 s.q.y, .int .i32 s.q.vx, .int .i32 s.q.vy, .int .u8 (s.q.h : Int), .int .u8 10, .int .u8 (s.q.f : Int), .slice (some ⟨r, 0, none⟩) (n + 1) cap5, .int .u16 (s.s0 : Int), .int .u16 (s.s1 : Int)]) rfl (L' := [(w.heap.size, 30, #[.int .u64 (s.fr : Int), .int .u64 (s.sd : Int), .int .i32 s.p.x, .int .i32 s.p.y, .int .i32 s.p.vx, .int .i32 s.p.vy, .int .u8 (s.p.h : Int), .int .u8 (s.p.c : Int), .int .u8 (s.p.f : Int), .int .i32 s.q.x, .int .i32 s.q.y, .int .i32 s.q.vx, .int .i32 s.q.vy, .int .u8 (s.q.h : Int), .int .u8 10, .int .u8 (s.q.f : Int), .slice (some ⟨r, 0, none⟩) (n + 1) cap5, .int .u16 (s.s0 : Int), .int .u16 (s.s1 : Int)]), (w.heap.size + 1, 30, #[.int .u64 (s.fr : Int), .int .u64 (s.sd : Int), .int .i32 s.p.x, .int .i32 s.p.y, .int .i32 s.p.vx, .int .i32 s.p.vy, .int .u8 (s.p.h : Int), .int .u8 (s.p.c : Int), .int .u8 (s.p.f : Int), .int .i32 s.q.x, .int .i32 s.q.y, .int .i32 s.q.vx, .int .i32 s.q.vy, .int .u8 (s.q.h : Int), .int .u8 10, .int .u8 (s.q.f : Int), .slice (some ⟨r, 0, none⟩) (n + 1) cap5, .int .u16 (s.s0 : Int), .int .u16 (s.s1 : Int)]), (g2, 24, #[.int .i32 s.q.x, .int .i32 s.q.y, .int .i32 s.q.vx, .int .i32 s.q.vy, .int .u8 (s.q.h : Int), .int .u8 (s.q.c : Int), .int .u8 (s.q.f : Int)]), (g3, 89, #[.int .i32 tx, .int .i32 ty])]) rfl (Nat.le_of_ble_eq_true rfl) rfl rfl
    go_wp2
    refine bodyPost_ret (v := .agg #[.int .u64 (s.fr : Int), .int .u64 (s.sd : Int), .int .i32 s.p.x, .int .i32 s.p.y, .int .i32 s.p.vx, .int .i32 s.p.vy, .int .u8 (s.p.h : Int), .int .u8 (s.p.c : Int), .int .u8 (s.p.f : Int), .int .i32 s.q.x, .int .i32 s.q.y, .int .i32 s.q.vx, .int .i32 s.q.vy, .int .u8 (s.q.h : Int), .int .u8 10, .int .u8 (s.q.f : Int), .slice (some ⟨r, 0, none⟩) (n + 1) cap5, .int .u16 (s.s0 : Int), .int .u16 (s.s1 : Int)]) (ret_struct Tryd.underlying30 ty_state _ 6 _ Tryd.results43 (Ha27.get 1 rfl) rfl rfl) rfl ?_
    have hd := of_decide_eq_true HB.out.symm
    have hfi : fire s 1 f = { s with q := { s.q with c := 10 }, ss := s.ss ++ [shotOf s.q 1] } := by unfold fire; rw [if_pos ⟨hd.1, hd.2.1, by rw [HLN.out]; exact hd.2.2⟩]; rfl
    have hl2 : (s.ss ++ [shotOf s.q 1]).length = n + 1 := by rw [List.length_append, HLN.out]; rfl
    rw [hfi] at HQ
    refine HQ.out _ _ ⟨some ⟨r, 0, none⟩, cap5, ?_, ?_, Ha27.be⟩
    · show _ = Ending.returned (Value.agg (stc _ _ _)); unfold stc; dsimp only; rw [hl2]; rfl
    · dsimp only; rw [hl2]; exact ((HR6.out.turn (by simp) hg7).turn (by simp) hg8).less (by simp)
end Go.Proofs.YtgmbdadkahcpcaaDoor
