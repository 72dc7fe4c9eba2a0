/- The document's frame: 4, the shots fly: contract. -/
import Derived.Test.YtgmbdadkahcpcaaDoorUm
import Derived.Test.YtgmbdadkahcpcaaDoorAc
namespace Go.Proofs.YtgmbdadkahcpcaaDoor
open Go.RowKit
set_option linter.unusedVariables false
set_option linter.unusedSimpArgs false
set_option maxRecDepth 20000

attribute [local go_sem ↓] ld_i32 ld_u8 ld_u16 ld_box ld_shot ld_player ld_state ld_shots st_i32 st_u8 st_u16 st_box st_shot st_state st_shots
set_option maxHeartbeats 4000000 in
theorem four_c (s : St) (ao : Option Addr) (cap : Nat) (w : World) (hS : Shs w ao s.ss) (hok : s.ok) :
    Calls Tryd.prog 52 #[sv s ao cap] w (StPost w.heap.size w (four s)) := by
  have HS := Lib.hid hS
  have HOK := Lib.hid hok
  have H0 := Lib.hid (Loc.two w 30 30 (stc s ao cap) zsc)
  obtain ⟨Q, hQ⟩ : ∃ Q : Ending → World → Prop, Q = StPost w.heap.size w (four s) := ⟨_, rfl⟩
  rw [← hQ]
  have HQ : Hid (∀ E w', StPost w.heap.size w (four s) E w' → Q E w') := fun E w' h => by rw [hQ]; exact h
  have hn8 := hok.n
  clear hQ hS hok
  go_enter Tryd.func52, Tryd.ntmps52
  go_upto_region 1 with fail
  generalize (w.alloc (.cells (stc s ao cap) 30)).alloc (.cells zsc 30) = wa at *
  have la1 := H0.out.ldO ty_shots 0 rfl 16 (v := .slice ao s.ss.length cap) rfl
  obtain ⟨wa2, sa3, Ha4, _⟩ := H0.out.stO ty_shots 0 rfl 16 (.slice none 0 0) (cs' := stc { s with ss := [] } none 0) rfl (L' := [(w.heap.size, 30, stc { s with ss := [] } none 0), (w.heap.size + 1, 30, zsc)]) rfl (Nat.le_of_ble_eq_true rfl) rfl rfl
  go_upto_region 4 with fail
  go_loopw [4] (fun v wr => ∃ (k fcap : Nat) (fo : Option Addr) (u : St), k ≤ s.ss.length ∧ v = .int .i64 k ∧ Hid (u = flew s k) ∧ Hid (Loc w.heap.size w wr [(w.heap.size, 30, stc u fo fcap), (w.heap.size + 1, 30, zsc)]) ∧ Hid (Shr w.heap.size wr [w.heap.size, w.heap.size + 1] fo u.ss.length fcap u.ss)) (fun v _ => s.ss.length - (intOf v).toNat)
  case atStart => exact ⟨0, 0, none, { s with ss := [] }, by omega, rfl, (flew_zero s).symm, Ha4, Shr.none _ _ _ (fun b hb => by simp only [List.mem_cons, List.not_mem_nil, or_false] at hb; rcases hb with rfl | rfl; exact (Ha4.get 0 rfl).lt; exact (Ha4.get 1 rfl).lt)⟩
  case round =>
    clear sa3 la1 Ha4 H0
    obtain ⟨k, fcap, fo, u, hk, rfl, HU, HR, HSH⟩ := hrel
    by_cases hlt : k < s.ss.length
    · obtain ⟨b0, o0, rfl⟩ : ∃ b o, ao = some ⟨b, o, none⟩ := by
        obtain ⟨_, b, o, e, _⟩ := HS.out k hlt
        exact ⟨b, o, e⟩
      obtain ⟨x, hx⟩ : ∃ x, s.ss[k]'hlt = x := ⟨_, rfl⟩
      have HXO : Hid x.ok := by rw [← hx]; exact HOK.out.ss _ (List.getElem_mem hlt)
      have HSr : Hid (Shs wr (some ⟨b0, o0, none⟩) s.ss) := Shs_grown HS.out (grown_of_below (r := none) HR.out.be) (by simp)
      have ls := shs_ld HSr.out k hlt hx
      have HX := Lib.hid hx
      clear hx HSr
      obtain ⟨xa, xb, xc, xd, xo, xe⟩ := x
      obtain ⟨⟨a1, a2⟩, ⟨b1, b2⟩, ⟨c1, c2⟩, ⟨d1, d2⟩, ho1, he1, he2⟩ := HXO.out
      dsimp only at a1 a2 b1 b2 c1 c2 d1 d2 ho1 he1 he2 ls
      obtain ⟨e, rfl⟩ : ∃ e, xe = e + 1 := ⟨xe - 1, by omega⟩
      clear HXO he1
      have ho : xo = 0 ∨ xo = 1 := by omega
      clear ho1
      obtain ⟨bi, hbi⟩ : ∃ bi, bi = decide (InA ⟨xa + xc, xb + xd, xc, xd, xo, e⟩) := ⟨_, rfl⟩
      have CI : Hid (∀ W, Calls Tryd.prog 79 #[.agg #[.int .i32 (xa + xc), .int .i32 (xb + xd), .int .i32 512, .int .i32 512], .agg #[.int .i32 0, .int .i32 0, .int .i32 65536, .int .i32 32768]] W fun E w' => E = .returned (.bool bi) ∧ Below W.heap.size W w') := fun W => by
        have := G.refInside ⟨xa + xc, xb + xd, 512, 512⟩ ⟨0, 0, 65536, 32768⟩ W ⟨by unfold G.in32; dsimp only; omega, by unfold G.in32; dsimp only; omega, shot_in, shot_in⟩ ⟨by unfold G.in32; decide, by unfold G.in32; decide, by unfold G.in32; decide, by unfold G.in32; decide⟩
        rw [ins_arena ⟨xa + xc, xb + xd, xc, xd, xo, e⟩, ← hbi] at this
        exact this
      have HBI := Lib.hid hbi
      clear hbi
      obtain ⟨hA, hAn⟩ := flew_ok HOK.out k
      rw [← HU.out] at hA hAn
      have HA := Lib.hid hA
      clear hA
      rcases ho with rfl | rfl
      · obtain ⟨g3, wr01, zr04, sr02, Hr03, qr05⟩ := HR.out.newA ty_shot #[.int .i32 0, .int .i32 0, .int .i32 0, .int .i32 0, .int .u8 0, .int .u8 0] #[.int .i32 xa, .int .i32 xb, .int .i32 xc, .int .i32 xd, .int .u8 0, .int .u8 ((e : Int) + 1)] rfl rfl rfl
        replace Hr03 : Loc _ _ _ [(w.heap.size, 30, #[.int .u64 (u.fr : Int), .int .u64 (u.sd : Int), .int .i32 u.p.x, .int .i32 u.p.y, .int .i32 u.p.vx, .int .i32 u.p.vy, .int .u8 (u.p.h : Int), .int .u8 (u.p.c : Int), .int .u8 (u.p.f : Int), .int .i32 u.q.x, .int .i32 u.q.y, .int .i32 u.q.vx, .int .i32 u.q.vy, .int .u8 (u.q.h : Int), .int .u8 (u.q.c : Int), .int .u8 (u.q.f : Int), .slice fo u.ss.length fcap, .int .u16 (u.s0 : Int), .int .u16 (u.s1 : Int)]), (w.heap.size + 1, 30, zsc), (g3, 66, #[.int .i32 xa, .int .i32 xb, .int .i32 xc, .int .i32 xd, .int .u8 0, .int .u8 ((e : Int) + 1)])] := Hr03
        have Sr06 := Lib.hid (HSH.out.fresh qr05 zr04 (Hr03.get 2 rfl).lt)
        clear qr05 HSH
        have lr07 := Hr03.ldO ty_i32 2 rfl 0 (v := .int .i32 xa) rfl
        have lr08 := Hr03.ldO ty_i32 2 rfl 2 (v := .int .i32 xc) rfl
        obtain ⟨wr010, sr011, Hr012, qr09⟩ := Hr03.stO ty_i32 2 rfl 0 (.int .i32 (xa + xc)) (cs' := #[.int .i32 (xa + xc), .int .i32 xb, .int .i32 xc, .int .i32 xd, .int .u8 0, .int .u8 ((e : Int) + 1)]) rfl (L' := [(w.heap.size, 30, #[.int .u64 (u.fr : Int), .int .u64 (u.sd : Int), .int .i32 u.p.x, .int .i32 u.p.y, .int .i32 u.p.vx, .int .i32 u.p.vy, .int .u8 (u.p.h : Int), .int .u8 (u.p.c : Int), .int .u8 (u.p.f : Int), .int .i32 u.q.x, .int .i32 u.q.y, .int .i32 u.q.vx, .int .i32 u.q.vy, .int .u8 (u.q.h : Int), .int .u8 (u.q.c : Int), .int .u8 (u.q.f : Int), .slice fo u.ss.length fcap, .int .u16 (u.s0 : Int), .int .u16 (u.s1 : Int)]), (w.heap.size + 1, 30, zsc), (g3, 66, #[.int .i32 (xa + xc), .int .i32 xb, .int .i32 xc, .int .i32 xd, .int .u8 0, .int .u8 ((e : Int) + 1)])]) rfl (Nat.le_of_ble_eq_true rfl) rfl rfl
        have Sr013 := Lib.hid (Sr06.out.turn (by simp) qr09)
        clear qr09 Sr06
        have lr014 := Hr012.ldO ty_i32 2 rfl 1 (v := .int .i32 xb) rfl
        have lr015 := Hr012.ldO ty_i32 2 rfl 3 (v := .int .i32 xd) rfl
        obtain ⟨wr017, sr018, Hr019, qr016⟩ := Hr012.stO ty_i32 2 rfl 1 (.int .i32 (xb + xd)) (cs' := #[.int .i32 (xa + xc), .int .i32 (xb + xd), .int .i32 xc, .int .i32 xd, .int .u8 0, .int .u8 ((e : Int) + 1)]) rfl (L' := [(w.heap.size, 30, #[.int .u64 (u.fr : Int), .int .u64 (u.sd : Int), .int .i32 u.p.x, .int .i32 u.p.y, .int .i32 u.p.vx, .int .i32 u.p.vy, .int .u8 (u.p.h : Int), .int .u8 (u.p.c : Int), .int .u8 (u.p.f : Int), .int .i32 u.q.x, .int .i32 u.q.y, .int .i32 u.q.vx, .int .i32 u.q.vy, .int .u8 (u.q.h : Int), .int .u8 (u.q.c : Int), .int .u8 (u.q.f : Int), .slice fo u.ss.length fcap, .int .u16 (u.s0 : Int), .int .u16 (u.s1 : Int)]), (w.heap.size + 1, 30, zsc), (g3, 66, #[.int .i32 (xa + xc), .int .i32 (xb + xd), .int .i32 xc, .int .i32 xd, .int .u8 0, .int .u8 ((e : Int) + 1)])]) rfl (Nat.le_of_ble_eq_true rfl) rfl rfl
        have Sr020 := Lib.hid (Sr013.out.turn (by simp) qr016)
        clear qr016 Sr013
        have lr021 := Hr019.ldO ty_u8 2 rfl 5 (v := .int .u8 ((e : Int) + 1)) rfl
        obtain ⟨wr023, sr024, Hr025, qr022⟩ := Hr019.stO ty_u8 2 rfl 5 (.int .u8 (e : Int)) (cs' := #[.int .i32 (xa + xc), .int .i32 (xb + xd), .int .i32 xc, .int .i32 xd, .int .u8 0, .int .u8 (e : Int)]) rfl (L' := [(w.heap.size, 30, #[.int .u64 (u.fr : Int), .int .u64 (u.sd : Int), .int .i32 u.p.x, .int .i32 u.p.y, .int .i32 u.p.vx, .int .i32 u.p.vy, .int .u8 (u.p.h : Int), .int .u8 (u.p.c : Int), .int .u8 (u.p.f : Int), .int .i32 u.q.x, .int .i32 u.q.y, .int .i32 u.q.vx, .int .i32 u.q.vy, .int .u8 (u.q.h : Int), .int .u8 (u.q.c : Int), .int .u8 (u.q.f : Int), .slice fo u.ss.length fcap, .int .u16 (u.s0 : Int), .int .u16 (u.s1 : Int)]), (w.heap.size + 1, 30, zsc), (g3, 66, #[.int .i32 (xa + xc), .int .i32 (xb + xd), .int .i32 xc, .int .i32 xd, .int .u8 0, .int .u8 (e : Int)])]) rfl (Nat.le_of_ble_eq_true rfl) rfl rfl
        have Sr026 := Lib.hid (Sr020.out.turn (by simp) qr022)
        clear qr022 Sr020
        have lr027 := Hr025.ldO ty_i32 2 rfl 0 (v := .int .i32 (xa + xc)) rfl
        have lr028 := Hr025.ldO ty_i32 2 rfl 1 (v := .int .i32 (xb + xd)) rfl
        obtain ⟨g4, wr029, zr032, sr030, Hr031, qr033⟩ := Hr025.newA ty_box (#[.int .i32 0, .int .i32 0, .int .i32 0, .int .i32 0]) #[.int .i32 (xa + xc), .int .i32 (xb + xd), .int .i32 512, .int .i32 512] rfl rfl rfl
        replace Hr031 : Loc _ _ _ [(w.heap.size, 30, #[.int .u64 (u.fr : Int), .int .u64 (u.sd : Int), .int .i32 u.p.x, .int .i32 u.p.y, .int .i32 u.p.vx, .int .i32 u.p.vy, .int .u8 (u.p.h : Int), .int .u8 (u.p.c : Int), .int .u8 (u.p.f : Int), .int .i32 u.q.x, .int .i32 u.q.y, .int .i32 u.q.vx, .int .i32 u.q.vy, .int .u8 (u.q.h : Int), .int .u8 (u.q.c : Int), .int .u8 (u.q.f : Int), .slice fo u.ss.length fcap, .int .u16 (u.s0 : Int), .int .u16 (u.s1 : Int)]), (w.heap.size + 1, 30, zsc), (g3, 66, #[.int .i32 (xa + xc), .int .i32 (xb + xd), .int .i32 xc, .int .i32 xd, .int .u8 0, .int .u8 (e : Int)]), (g4, 99, #[.int .i32 (xa + xc), .int .i32 (xb + xd), .int .i32 512, .int .i32 512])] := Hr031
        have Sr034 := Lib.hid (Sr026.out.fresh qr033 zr032 (Hr031.get 3 rfl).lt)
        clear qr033 Sr026
        have lr035 := Hr031.ldO ty_u8 2 rfl 4 (v := .int .u8 0) rfl
        have lr036 := Hr031.ldA ty_box 3 rfl 0 (vs := #[.int .i32 (xa + xc), .int .i32 (xb + xd), .int .i32 512, .int .i32 512]) rfl (Nat.le_of_ble_eq_true rfl)
        go_wp2_with fail
        refine (CI.out _).mono ?_
        rintro E w5 ⟨rfl, hb5⟩
        clear CI ls
        clear lr036 lr035 zr032 sr030 lr028 lr027 sr024 lr021 sr018 lr015 lr014 sr011 lr08 lr07 zr04 sr02
        have Hr037 := Hr031.to hb5
        have Sr038 := Lib.hid (Sr034.out.to hb5)
        clear Sr034
        cases bi
        · have hu2 : u = flew s (k + 1) := by rw [flew_next s k hlt, ← HU.out, HX.out]; exact (hit_out (x := ⟨xa, xb, xc, xd, 0, e + 1⟩) (of_decide_eq_false HBI.out.symm)).symm
          have HU2 := Lib.hid hu2
          clear hu2
          go_wp2
          go_roundw
          case rel => exact ⟨k + 1, fcap, fo, u, by omega, by go_num, HU2.out, Hr037.drop 2 rfl, Sr038.out.less (by simp)⟩
          case measure => simp [intOf]; omega
        · have hin := of_decide_eq_true HBI.out.symm
          have HIN := Lib.hid hin
          clear hin HBI
          obtain ⟨bo, hbo⟩ : ∃ bo, bo = decide (OvS ⟨xa + xc, xb + xd, xc, xd, 0, e⟩ u.q) := ⟨_, rfl⟩
          have CB : Hid (∀ W, Calls Tryd.prog 78 #[.agg (pcs u.q)] W fun E w' => E = .returned (.agg #[.int .i32 u.q.x, .int .i32 u.q.y, .int .i32 4096, .int .i32 4096]) ∧ Below W.heap.size W w') := fun W => refBox u.q W
          have CO : Hid (∀ W, Calls Tryd.prog 77 #[.agg #[.int .i32 (xa + xc), .int .i32 (xb + xd), .int .i32 512, .int .i32 512], .agg #[.int .i32 u.q.x, .int .i32 u.q.y, .int .i32 4096, .int .i32 4096]] W fun E w' => E = .returned (.bool bo) ∧ Below W.heap.size W w') := fun W => by
            have := G.refOver ⟨xa + xc, xb + xd, 512, 512⟩ ⟨u.q.x, u.q.y, 4096, 4096⟩ W ⟨by unfold G.in32; dsimp only; omega, by unfold G.in32; dsimp only; omega, shot_in, shot_in⟩ ⟨by have := HA.out.q.x; unfold G.in32; dsimp only; omega, by have := HA.out.q.y; unfold G.in32; dsimp only; omega, box_in, box_in⟩
            rw [ovr_shot ⟨xa + xc, xb + xd, xc, xd, 0, e⟩ u.q, ← hbo] at this
            exact this
          have HBO := Lib.hid hbo
          clear hbo
          go_upto_region 13 with fail
          have ar039 := Hr037.onA ty_box 3 rfl 0 (vs := #[.int .i32 (xa + xc), .int .i32 (xb + xd), .int .i32 512, .int .i32 512]) rfl (Nat.le_of_ble_eq_true rfl)
          have ar040 := Hr037.onA ty_player 0 rfl 9 (vs := (pcs u.q)) rfl (Nat.le_of_ble_eq_true rfl)
          have o0' := G.On.drew w5.heap.size w5
          go_region_held3 (fun w' => G.On w5.heap.size w5 w') (first | assumption) (first | (go_at_call 78; refine (CB.out _).mono ?_; rintro E w6 ⟨rfl, hb6⟩; have o6 := G.on_step (wd := w5) (by assumption) hb6) | (go_at_call 77; refine (CO.out _).mono ?_; rintro E w6 ⟨rfl, hb6⟩; have o6 := G.on_step (wd := w5) (by assumption) hb6))
          clear ar040 ar039
          have Hr041 := Hr037.to o6
          have Sr042 := Lib.hid (Sr038.out.to o6)
          clear Sr038
          clear CB CO o0' o6
          cases bo
          · have hno := of_decide_eq_false HBO.out.symm
            clear HBO
            have lr043 := Hr041.ldO ty_u8 2 rfl 5 (v := .int .u8 (e : Int)) rfl
            by_cases hl : 0 < e
            · have hli : (0 : Int) < (e : Int) := by omega
              have hu2 : { u with ss := u.ss ++ [⟨xa + xc, xb + xd, xc, xd, 0, e⟩] } = flew s (k + 1) := by rw [flew_next s k hlt, ← HU.out, HX.out]; exact (hit_fly (x := ⟨xa, xb, xc, xd, 0, e + 1⟩) HIN.out hno hl).symm
              have HU2 := Lib.hid hu2
              clear hu2
              have HL2 : Hid ((u.ss ++ [(⟨xa + xc, xb + xd, xc, xd, 0, e⟩ : Sh)]).length = u.ss.length + 1) := by show _ = _; rw [List.length_append]; rfl
              have lr044 := Hr041.ldO ty_shots 0 rfl 16 (v := .slice fo u.ss.length fcap) rfl
              have lr045 := Hr041.ldA ty_shot 2 rfl 0 (vs := #[.int .i32 (xa + xc), .int .i32 (xb + xd), .int .i32 xc, .int .i32 xd, .int .u8 0, .int .u8 (e : Int)]) rfl (Nat.le_of_ble_eq_true rfl)
              go_wp2_with (at_builtin; refine wpList_append_new rfl _ _ rfl (by simp [Act.eval]) ⟨xa + xc, xb + xd, xc, xd, 0, e⟩ _ rfl (by simp [Act.eval]) Sr042.out Hr041 (by simp) (by omega) ?_; intro r5 cap5 w7 hR7 hL7; have HR7 := Lib.hid hR7; clear hR7; obtain ⟨wr047, sr048, Hr049, qr046⟩ := hL7.stO ty_shots 0 rfl 16 (.slice (some ⟨r5, 0, none⟩) (u.ss.length + 1) cap5) (cs' := #[.int .u64 (u.fr : Int), .int .u64 (u.sd : Int), .int .i32 u.p.x, .int .i32 u.p.y, .int .i32 u.p.vx, .int .i32 u.p.vy, .int .u8 (u.p.h : Int), .int .u8 (u.p.c : Int), .int .u8 (u.p.f : Int), .int .i32 u.q.x, .int .i32 u.q.y, .int .i32 u.q.vx, .int .i32 u.q.vy, .int .u8 (u.q.h : Int), .int .u8 (u.q.c : Int), .int .u8 (u.q.f : Int), .slice (some ⟨r5, 0, none⟩) (u.ss.length + 1) cap5, .int .u16 (u.s0 : Int), .int .u16 (u.s1 : Int)]) rfl (L' := [(w.heap.size, 30, #[.int .u64 (u.fr : Int), .int .u64 (u.sd : Int), .int .i32 u.p.x, .int .i32 u.p.y, .int .i32 u.p.vx, .int .i32 u.p.vy, .int .u8 (u.p.h : Int), .int .u8 (u.p.c : Int), .int .u8 (u.p.f : Int), .int .i32 u.q.x, .int .i32 u.q.y, .int .i32 u.q.vx, .int .i32 u.q.vy, .int .u8 (u.q.h : Int), .int .u8 (u.q.c : Int), .int .u8 (u.q.f : Int), .slice (some ⟨r5, 0, none⟩) (u.ss.length + 1) cap5, .int .u16 (u.s0 : Int), .int .u16 (u.s1 : Int)]), (w.heap.size + 1, 30, zsc), (g3, 66, #[.int .i32 (xa + xc), .int .i32 (xb + xd), .int .i32 xc, .int .i32 xd, .int .u8 0, .int .u8 (e : Int)]), (g4, 99, #[.int .i32 (xa + xc), .int .i32 (xb + xd), .int .i32 512, .int .i32 512])]) rfl (Nat.le_of_ble_eq_true rfl) rfl rfl; have Sr050 := Lib.hid (HR7.out.turn (by simp) qr046); clear qr046 HR7)
              go_roundw
              case rel => exact ⟨k + 1, cap5, some ⟨r5, 0, none⟩, { u with ss := u.ss ++ [⟨xa + xc, xb + xd, xc, xd, 0, e⟩] }, by omega, by go_num, HU2.out, (by show Hid (Loc _ w _ [(w.heap.size, 30, stc _ _ _), _]); unfold stc; dsimp only; rw [HL2.out]; exact Hr049.drop 2 rfl), (by show Hid (Shr _ _ _ _ (u.ss ++ [_]).length _ _); rw [HL2.out]; exact Sr050.out.less (by simp))⟩
              case measure => simp [intOf]; omega
            · have hli : ¬ (0 : Int) < (e : Int) := by omega
              have hu2 : u = flew s (k + 1) := by rw [flew_next s k hlt, ← HU.out, HX.out]; exact (hit_end (x := ⟨xa, xb, xc, xd, 0, e + 1⟩) HIN.out hno hl).symm
              have HU2 := Lib.hid hu2
              clear hu2
              go_wp2
              go_roundw
              case rel => exact ⟨k + 1, fcap, fo, u, by omega, by go_num, HU2.out, Hr041.drop 2 rfl, Sr042.out.less (by simp)⟩
              case measure => simp [intOf]; omega
          · have hyo := of_decide_eq_true HBO.out.symm
            clear HBO
            have hu2 : (u.setPl 1 { u.pl 1 with h := (u.pl 1).h - 10 }).score 0 = flew s (k + 1) := by rw [flew_next s k hlt, ← HU.out, HX.out]; exact (hit_over (x := ⟨xa, xb, xc, xd, 0, e + 1⟩) HIN.out hyo).symm
            obtain ⟨hq, hhq⟩ : ∃ hq, hq = u.q.h - 10 := ⟨_, rfl⟩
            obtain ⟨sc, hsc⟩ : ∃ sc, sc = if u.s0 < 65535 then u.s0 + 1 else u.s0 := ⟨_, rfl⟩
            replace hu2 : { u with q := { u.q with h := hq }, s0 := sc } = flew s (k + 1) := by rw [← hu2, hhq, hsc]; rfl
            have HU2 := Lib.hid hu2
            have HHQ := Lib.hid hhq
            have HSC := Lib.hid hsc
            have hh100 := HA.out.q.h
            have hs65 := HA.out.s0
            clear hu2 hhq hsc
            have lr043 := Hr041.ldO ty_u8 0 rfl 13 (v := .int .u8 (u.q.h : Int)) rfl
            go_upto_if 63 with fail
            go_cut [8] (fun s8 wx => wx = w6 ∧ ∃ h8 : Int, s8 = .int .u8 h8 ∧ Hid (IntKind.u8.wrap (h8 - 10) = (hq : Int)))
            case first =>
              by_cases h10 : u.q.h < 10
              · have hi10 : (u.q.h : Int) < 10 := by omega
                go_wp2_with fail
                all_goals go_meet
                all_goals exact ⟨rfl, 10, rfl, by show _ = _; rw [HHQ.out]; simp [IntKind.wrap, IntKind.bits, IntKind.signed]; omega⟩
              · have hi10 : ¬ (u.q.h : Int) < 10 := by omega
                go_wp2_with fail
                all_goals go_meet
                all_goals exact ⟨rfl, (u.q.h : Int), rfl, by show _ = _; rw [HHQ.out]; simp [IntKind.wrap, IntKind.bits, IntKind.signed]; omega⟩
            case rest =>
            obtain ⟨rfl, h8, rfl, HW8⟩ := hcut
            have hw8 := HW8.out
            clear lr043
            obtain ⟨wr045, sr046, Hr047, qr044⟩ := Hr041.stO ty_u8 0 rfl 13 (.int .u8 (hq : Int)) (cs' := #[.int .u64 (u.fr : Int), .int .u64 (u.sd : Int), .int .i32 u.p.x, .int .i32 u.p.y, .int .i32 u.p.vx, .int .i32 u.p.vy, .int .u8 (u.p.h : Int), .int .u8 (u.p.c : Int), .int .u8 (u.p.f : Int), .int .i32 u.q.x, .int .i32 u.q.y, .int .i32 u.q.vx, .int .i32 u.q.vy, .int .u8 (hq : Int), .int .u8 (u.q.c : Int), .int .u8 (u.q.f : Int), .slice fo u.ss.length fcap, .int .u16 (u.s0 : Int), .int .u16 (u.s1 : Int)]) rfl (L' := [(w.heap.size, 30, #[.int .u64 (u.fr : Int), .int .u64 (u.sd : Int), .int .i32 u.p.x, .int .i32 u.p.y, .int .i32 u.p.vx, .int .i32 u.p.vy, .int .u8 (u.p.h : Int), .int .u8 (u.p.c : Int), .int .u8 (u.p.f : Int), .int .i32 u.q.x, .int .i32 u.q.y, .int .i32 u.q.vx, .int .i32 u.q.vy, .int .u8 (hq : Int), .int .u8 (u.q.c : Int), .int .u8 (u.q.f : Int), .slice fo u.ss.length fcap, .int .u16 (u.s0 : Int), .int .u16 (u.s1 : Int)]), (w.heap.size + 1, 30, zsc), (g3, 66, #[.int .i32 (xa + xc), .int .i32 (xb + xd), .int .i32 xc, .int .i32 xd, .int .u8 0, .int .u8 (e : Int)]), (g4, 99, #[.int .i32 (xa + xc), .int .i32 (xb + xd), .int .i32 512, .int .i32 512])]) rfl (Nat.le_of_ble_eq_true rfl) rfl rfl
            have Sr048 := Lib.hid (Sr042.out.turn (by simp) qr044)
            clear qr044 Sr042
            have lr049 := Hr047.ldO ty_u8 2 rfl 4 (v := .int .u8 0) rfl
            have lr050 := Hr047.ldO ty_u16 0 rfl 17 (v := .int .u16 (u.s0 : Int)) rfl
            by_cases hs : u.s0 < 65535
            · have hsi : (u.s0 : Int) < 65535 := by omega
              have hscn : sc = u.s0 + 1 := by rw [HSC.out, if_pos hs]
              go_upto_region 19 with fail
              clear lr050 lr049 sr046
              clear hw8 HW8
              obtain ⟨wd9, hwd⟩ : ∃ wd, ({ wr045 with drawn := wr045.drawn + 1 } : World) = wd := ⟨_, rfl⟩
              have Hr051 : Loc (w.heap.size) w wd9 [(w.heap.size, 30, #[.int .u64 (u.fr : Int), .int .u64 (u.sd : Int), .int .i32 u.p.x, .int .i32 u.p.y, .int .i32 u.p.vx, .int .i32 u.p.vy, .int .u8 (u.p.h : Int), .int .u8 (u.p.c : Int), .int .u8 (u.p.f : Int), .int .i32 u.q.x, .int .i32 u.q.y, .int .i32 u.q.vx, .int .i32 u.q.vy, .int .u8 (hq : Int), .int .u8 (u.q.c : Int), .int .u8 (u.q.f : Int), .slice fo u.ss.length fcap, .int .u16 (u.s0 : Int), .int .u16 (u.s1 : Int)]), (w.heap.size + 1, 30, zsc), (g3, 66, #[.int .i32 (xa + xc), .int .i32 (xb + xd), .int .i32 xc, .int .i32 xd, .int .u8 0, .int .u8 (e : Int)]), (g4, 99, #[.int .i32 (xa + xc), .int .i32 (xb + xd), .int .i32 512, .int .i32 512])] := by rw [← hwd]; exact Hr047.drew
              have lr052 := Hr051.ldO ty_u8 2 rfl 4 (v := .int .u8 0) rfl
              have lr053 := Hr051.ldO ty_u16 0 rfl 17 (v := .int .u16 (u.s0 : Int)) rfl
              have hRd : Hid (Shr w.heap.size wd9 [w.heap.size, w.heap.size + 1, g3, g4] fo u.ss.length fcap u.ss) := by rw [← hwd]; exact (Sr048.out.to (Below.refl _ _).drew).less (by simp)
              obtain ⟨wr055, sr056, Hr057, qr054⟩ := Hr051.stO ty_u16 0 rfl 17 (.int .u16 ((u.s0 : Int) + 1)) (cs' := #[.int .u64 (u.fr : Int), .int .u64 (u.sd : Int), .int .i32 u.p.x, .int .i32 u.p.y, .int .i32 u.p.vx, .int .i32 u.p.vy, .int .u8 (u.p.h : Int), .int .u8 (u.p.c : Int), .int .u8 (u.p.f : Int), .int .i32 u.q.x, .int .i32 u.q.y, .int .i32 u.q.vx, .int .i32 u.q.vy, .int .u8 (hq : Int), .int .u8 (u.q.c : Int), .int .u8 (u.q.f : Int), .slice fo u.ss.length fcap, .int .u16 ((u.s0 : Int) + 1), .int .u16 (u.s1 : Int)]) rfl (L' := [(w.heap.size, 30, #[.int .u64 (u.fr : Int), .int .u64 (u.sd : Int), .int .i32 u.p.x, .int .i32 u.p.y, .int .i32 u.p.vx, .int .i32 u.p.vy, .int .u8 (u.p.h : Int), .int .u8 (u.p.c : Int), .int .u8 (u.p.f : Int), .int .i32 u.q.x, .int .i32 u.q.y, .int .i32 u.q.vx, .int .i32 u.q.vy, .int .u8 (hq : Int), .int .u8 (u.q.c : Int), .int .u8 (u.q.f : Int), .slice fo u.ss.length fcap, .int .u16 ((u.s0 : Int) + 1), .int .u16 (u.s1 : Int)]), (w.heap.size + 1, 30, zsc), (g3, 66, #[.int .i32 (xa + xc), .int .i32 (xb + xd), .int .i32 xc, .int .i32 xd, .int .u8 0, .int .u8 (e : Int)]), (g4, 99, #[.int .i32 (xa + xc), .int .i32 (xb + xd), .int .i32 512, .int .i32 512])]) rfl (Nat.le_of_ble_eq_true rfl) rfl rfl
              have Sr058 := Lib.hid (hRd.out.turn (by simp) qr054)
              clear qr054 hRd
              refine wp_region_still_tail 10 (by kernel_rfl) (by kernel_rfl) ?_
              simp only [List.take_succ_cons, List.take_zero, List.drop_succ_cons, List.drop_zero]
              rw [hwd]
              clear hwd
              repeat still_step
              refine wpStill_nil ?_
              go_wp2
              go_roundw
              case rel => exact ⟨k + 1, fcap, fo, { u with q := { u.q with h := hq }, s0 := sc }, by omega, by go_num, HU2.out, (by rw [hscn]; exact Hr057.drop 2 rfl), Sr058.out.less (by simp)⟩
              case measure => simp [intOf]; omega
            · have hsi : ¬ (u.s0 : Int) < 65535 := by omega
              have hscn : sc = u.s0 := by rw [HSC.out, if_neg hs]
              have HSCN := Lib.hid hscn
              clear hscn
              go_wp2
              go_roundw
              case rel => exact ⟨k + 1, fcap, fo, { u with q := { u.q with h := hq }, s0 := sc }, by omega, by go_num, HU2.out, (by rw [HSCN.out]; exact Hr047.drop 2 rfl), Sr048.out.less (by simp)⟩
              case measure => simp [intOf]; omega
      · obtain ⟨g3, wr11, zr14, sr12, Hr13, qr15⟩ := HR.out.newA ty_shot #[.int .i32 0, .int .i32 0, .int .i32 0, .int .i32 0, .int .u8 0, .int .u8 0] #[.int .i32 xa, .int .i32 xb, .int .i32 xc, .int .i32 xd, .int .u8 1, .int .u8 ((e : Int) + 1)] rfl rfl rfl
        replace Hr13 : Loc _ _ _ [(w.heap.size, 30, #[.int .u64 (u.fr : Int), .int .u64 (u.sd : Int), .int .i32 u.p.x, .int .i32 u.p.y, .int .i32 u.p.vx, .int .i32 u.p.vy, .int .u8 (u.p.h : Int), .int .u8 (u.p.c : Int), .int .u8 (u.p.f : Int), .int .i32 u.q.x, .int .i32 u.q.y, .int .i32 u.q.vx, .int .i32 u.q.vy, .int .u8 (u.q.h : Int), .int .u8 (u.q.c : Int), .int .u8 (u.q.f : Int), .slice fo u.ss.length fcap, .int .u16 (u.s0 : Int), .int .u16 (u.s1 : Int)]), (w.heap.size + 1, 30, zsc), (g3, 66, #[.int .i32 xa, .int .i32 xb, .int .i32 xc, .int .i32 xd, .int .u8 1, .int .u8 ((e : Int) + 1)])] := Hr13
        have Sr16 := Lib.hid (HSH.out.fresh qr15 zr14 (Hr13.get 2 rfl).lt)
        clear qr15 HSH
        have lr17 := Hr13.ldO ty_i32 2 rfl 0 (v := .int .i32 xa) rfl
        have lr18 := Hr13.ldO ty_i32 2 rfl 2 (v := .int .i32 xc) rfl
        obtain ⟨wr110, sr111, Hr112, qr19⟩ := Hr13.stO ty_i32 2 rfl 0 (.int .i32 (xa + xc)) (cs' := #[.int .i32 (xa + xc), .int .i32 xb, .int .i32 xc, .int .i32 xd, .int .u8 1, .int .u8 ((e : Int) + 1)]) rfl (L' := [(w.heap.size, 30, #[.int .u64 (u.fr : Int), .int .u64 (u.sd : Int), .int .i32 u.p.x, .int .i32 u.p.y, .int .i32 u.p.vx, .int .i32 u.p.vy, .int .u8 (u.p.h : Int), .int .u8 (u.p.c : Int), .int .u8 (u.p.f : Int), .int .i32 u.q.x, .int .i32 u.q.y, .int .i32 u.q.vx, .int .i32 u.q.vy, .int .u8 (u.q.h : Int), .int .u8 (u.q.c : Int), .int .u8 (u.q.f : Int), .slice fo u.ss.length fcap, .int .u16 (u.s0 : Int), .int .u16 (u.s1 : Int)]), (w.heap.size + 1, 30, zsc), (g3, 66, #[.int .i32 (xa + xc), .int .i32 xb, .int .i32 xc, .int .i32 xd, .int .u8 1, .int .u8 ((e : Int) + 1)])]) rfl (Nat.le_of_ble_eq_true rfl) rfl rfl
        have Sr113 := Lib.hid (Sr16.out.turn (by simp) qr19)
        clear qr19 Sr16
        have lr114 := Hr112.ldO ty_i32 2 rfl 1 (v := .int .i32 xb) rfl
        have lr115 := Hr112.ldO ty_i32 2 rfl 3 (v := .int .i32 xd) rfl
        obtain ⟨wr117, sr118, Hr119, qr116⟩ := Hr112.stO ty_i32 2 rfl 1 (.int .i32 (xb + xd)) (cs' := #[.int .i32 (xa + xc), .int .i32 (xb + xd), .int .i32 xc, .int .i32 xd, .int .u8 1, .int .u8 ((e : Int) + 1)]) rfl (L' := [(w.heap.size, 30, #[.int .u64 (u.fr : Int), .int .u64 (u.sd : Int), .int .i32 u.p.x, .int .i32 u.p.y, .int .i32 u.p.vx, .int .i32 u.p.vy, .int .u8 (u.p.h : Int), .int .u8 (u.p.c : Int), .int .u8 (u.p.f : Int), .int .i32 u.q.x, .int .i32 u.q.y, .int .i32 u.q.vx, .int .i32 u.q.vy, .int .u8 (u.q.h : Int), .int .u8 (u.q.c : Int), .int .u8 (u.q.f : Int), .slice fo u.ss.length fcap, .int .u16 (u.s0 : Int), .int .u16 (u.s1 : Int)]), (w.heap.size + 1, 30, zsc), (g3, 66, #[.int .i32 (xa + xc), .int .i32 (xb + xd), .int .i32 xc, .int .i32 xd, .int .u8 1, .int .u8 ((e : Int) + 1)])]) rfl (Nat.le_of_ble_eq_true rfl) rfl rfl
        have Sr120 := Lib.hid (Sr113.out.turn (by simp) qr116)
        clear qr116 Sr113
        have lr121 := Hr119.ldO ty_u8 2 rfl 5 (v := .int .u8 ((e : Int) + 1)) rfl
        obtain ⟨wr123, sr124, Hr125, qr122⟩ := Hr119.stO ty_u8 2 rfl 5 (.int .u8 (e : Int)) (cs' := #[.int .i32 (xa + xc), .int .i32 (xb + xd), .int .i32 xc, .int .i32 xd, .int .u8 1, .int .u8 (e : Int)]) rfl (L' := [(w.heap.size, 30, #[.int .u64 (u.fr : Int), .int .u64 (u.sd : Int), .int .i32 u.p.x, .int .i32 u.p.y, .int .i32 u.p.vx, .int .i32 u.p.vy, .int .u8 (u.p.h : Int), .int .u8 (u.p.c : Int), .int .u8 (u.p.f : Int), .int .i32 u.q.x, .int .i32 u.q.y, .int .i32 u.q.vx, .int .i32 u.q.vy, .int .u8 (u.q.h : Int), .int .u8 (u.q.c : Int), .int .u8 (u.q.f : Int), .slice fo u.ss.length fcap, .int .u16 (u.s0 : Int), .int .u16 (u.s1 : Int)]), (w.heap.size + 1, 30, zsc), (g3, 66, #[.int .i32 (xa + xc), .int .i32 (xb + xd), .int .i32 xc, .int .i32 xd, .int .u8 1, .int .u8 (e : Int)])]) rfl (Nat.le_of_ble_eq_true rfl) rfl rfl
        have Sr126 := Lib.hid (Sr120.out.turn (by simp) qr122)
        clear qr122 Sr120
        have lr127 := Hr125.ldO ty_i32 2 rfl 0 (v := .int .i32 (xa + xc)) rfl
        have lr128 := Hr125.ldO ty_i32 2 rfl 1 (v := .int .i32 (xb + xd)) rfl
        obtain ⟨g4, wr129, zr132, sr130, Hr131, qr133⟩ := Hr125.newA ty_box (#[.int .i32 0, .int .i32 0, .int .i32 0, .int .i32 0]) #[.int .i32 (xa + xc), .int .i32 (xb + xd), .int .i32 512, .int .i32 512] rfl rfl rfl
        replace Hr131 : Loc _ _ _ [(w.heap.size, 30, #[.int .u64 (u.fr : Int), .int .u64 (u.sd : Int), .int .i32 u.p.x, .int .i32 u.p.y, .int .i32 u.p.vx, .int .i32 u.p.vy, .int .u8 (u.p.h : Int), .int .u8 (u.p.c : Int), .int .u8 (u.p.f : Int), .int .i32 u.q.x, .int .i32 u.q.y, .int .i32 u.q.vx, .int .i32 u.q.vy, .int .u8 (u.q.h : Int), .int .u8 (u.q.c : Int), .int .u8 (u.q.f : Int), .slice fo u.ss.length fcap, .int .u16 (u.s0 : Int), .int .u16 (u.s1 : Int)]), (w.heap.size + 1, 30, zsc), (g3, 66, #[.int .i32 (xa + xc), .int .i32 (xb + xd), .int .i32 xc, .int .i32 xd, .int .u8 1, .int .u8 (e : Int)]), (g4, 99, #[.int .i32 (xa + xc), .int .i32 (xb + xd), .int .i32 512, .int .i32 512])] := Hr131
        have Sr134 := Lib.hid (Sr126.out.fresh qr133 zr132 (Hr131.get 3 rfl).lt)
        clear qr133 Sr126
        have lr135 := Hr131.ldO ty_u8 2 rfl 4 (v := .int .u8 1) rfl
        have lr136 := Hr131.ldA ty_box 3 rfl 0 (vs := #[.int .i32 (xa + xc), .int .i32 (xb + xd), .int .i32 512, .int .i32 512]) rfl (Nat.le_of_ble_eq_true rfl)
        go_wp2_with fail
        refine (CI.out _).mono ?_
        rintro E w5 ⟨rfl, hb5⟩
        clear CI ls
        clear lr136 lr135 zr132 sr130 lr128 lr127 sr124 lr121 sr118 lr115 lr114 sr111 lr18 lr17 zr14 sr12
        have Hr137 := Hr131.to hb5
        have Sr138 := Lib.hid (Sr134.out.to hb5)
        clear Sr134
        cases bi
        · have hu2 : u = flew s (k + 1) := by rw [flew_next s k hlt, ← HU.out, HX.out]; exact (hit_out (x := ⟨xa, xb, xc, xd, 1, e + 1⟩) (of_decide_eq_false HBI.out.symm)).symm
          have HU2 := Lib.hid hu2
          clear hu2
          go_wp2
          go_roundw
          case rel => exact ⟨k + 1, fcap, fo, u, by omega, by go_num, HU2.out, Hr137.drop 2 rfl, Sr138.out.less (by simp)⟩
          case measure => simp [intOf]; omega
        · have hin := of_decide_eq_true HBI.out.symm
          have HIN := Lib.hid hin
          clear hin HBI
          obtain ⟨bo, hbo⟩ : ∃ bo, bo = decide (OvS ⟨xa + xc, xb + xd, xc, xd, 1, e⟩ u.p) := ⟨_, rfl⟩
          have CB : Hid (∀ W, Calls Tryd.prog 78 #[.agg (pcs u.p)] W fun E w' => E = .returned (.agg #[.int .i32 u.p.x, .int .i32 u.p.y, .int .i32 4096, .int .i32 4096]) ∧ Below W.heap.size W w') := fun W => refBox u.p W
          have CO : Hid (∀ W, Calls Tryd.prog 77 #[.agg #[.int .i32 (xa + xc), .int .i32 (xb + xd), .int .i32 512, .int .i32 512], .agg #[.int .i32 u.p.x, .int .i32 u.p.y, .int .i32 4096, .int .i32 4096]] W fun E w' => E = .returned (.bool bo) ∧ Below W.heap.size W w') := fun W => by
            have := G.refOver ⟨xa + xc, xb + xd, 512, 512⟩ ⟨u.p.x, u.p.y, 4096, 4096⟩ W ⟨by unfold G.in32; dsimp only; omega, by unfold G.in32; dsimp only; omega, shot_in, shot_in⟩ ⟨by have := HA.out.p.x; unfold G.in32; dsimp only; omega, by have := HA.out.p.y; unfold G.in32; dsimp only; omega, box_in, box_in⟩
            rw [ovr_shot ⟨xa + xc, xb + xd, xc, xd, 1, e⟩ u.p, ← hbo] at this
            exact this
          have HBO := Lib.hid hbo
          clear hbo
          go_upto_region 13 with fail
          have ar139 := Hr137.onA ty_box 3 rfl 0 (vs := #[.int .i32 (xa + xc), .int .i32 (xb + xd), .int .i32 512, .int .i32 512]) rfl (Nat.le_of_ble_eq_true rfl)
          have ar140 := Hr137.onA ty_player 0 rfl 2 (vs := (pcs u.p)) rfl (Nat.le_of_ble_eq_true rfl)
          have o0' := G.On.drew w5.heap.size w5
          go_region_held3 (fun w' => G.On w5.heap.size w5 w') (first | assumption) (first | (go_at_call 78; refine (CB.out _).mono ?_; rintro E w6 ⟨rfl, hb6⟩; have o6 := G.on_step (wd := w5) (by assumption) hb6) | (go_at_call 77; refine (CO.out _).mono ?_; rintro E w6 ⟨rfl, hb6⟩; have o6 := G.on_step (wd := w5) (by assumption) hb6))
          clear ar140 ar139
          have Hr141 := Hr137.to o6
          have Sr142 := Lib.hid (Sr138.out.to o6)
          clear Sr138
          clear CB CO o0' o6
          cases bo
          · have hno := of_decide_eq_false HBO.out.symm
            clear HBO
            have lr143 := Hr141.ldO ty_u8 2 rfl 5 (v := .int .u8 (e : Int)) rfl
            by_cases hl : 0 < e
            · have hli : (0 : Int) < (e : Int) := by omega
              have hu2 : { u with ss := u.ss ++ [⟨xa + xc, xb + xd, xc, xd, 1, e⟩] } = flew s (k + 1) := by rw [flew_next s k hlt, ← HU.out, HX.out]; exact (hit_fly (x := ⟨xa, xb, xc, xd, 1, e + 1⟩) HIN.out hno hl).symm
              have HU2 := Lib.hid hu2
              clear hu2
              have HL2 : Hid ((u.ss ++ [(⟨xa + xc, xb + xd, xc, xd, 1, e⟩ : Sh)]).length = u.ss.length + 1) := by show _ = _; rw [List.length_append]; rfl
              have lr144 := Hr141.ldO ty_shots 0 rfl 16 (v := .slice fo u.ss.length fcap) rfl
              have lr145 := Hr141.ldA ty_shot 2 rfl 0 (vs := #[.int .i32 (xa + xc), .int .i32 (xb + xd), .int .i32 xc, .int .i32 xd, .int .u8 1, .int .u8 (e : Int)]) rfl (Nat.le_of_ble_eq_true rfl)
              go_wp2_with (at_builtin; refine wpList_append_new rfl _ _ rfl (by simp [Act.eval]) ⟨xa + xc, xb + xd, xc, xd, 1, e⟩ _ rfl (by simp [Act.eval]) Sr142.out Hr141 (by simp) (by omega) ?_; intro r5 cap5 w7 hR7 hL7; have HR7 := Lib.hid hR7; clear hR7; obtain ⟨wr147, sr148, Hr149, qr146⟩ := hL7.stO ty_shots 0 rfl 16 (.slice (some ⟨r5, 0, none⟩) (u.ss.length + 1) cap5) (cs' := #[.int .u64 (u.fr : Int), .int .u64 (u.sd : Int), .int .i32 u.p.x, .int .i32 u.p.y, .int .i32 u.p.vx, .int .i32 u.p.vy, .int .u8 (u.p.h : Int), .int .u8 (u.p.c : Int), .int .u8 (u.p.f : Int), .int .i32 u.q.x, .int .i32 u.q.y, .int .i32 u.q.vx, .int .i32 u.q.vy, .int .u8 (u.q.h : Int), .int .u8 (u.q.c : Int), .int .u8 (u.q.f : Int), .slice (some ⟨r5, 0, none⟩) (u.ss.length + 1) cap5, .int .u16 (u.s0 : Int), .int .u16 (u.s1 : Int)]) rfl (L' := [(w.heap.size, 30, #[.int .u64 (u.fr : Int), .int .u64 (u.sd : Int), .int .i32 u.p.x, .int .i32 u.p.y, .int .i32 u.p.vx, .int .i32 u.p.vy, .int .u8 (u.p.h : Int), .int .u8 (u.p.c : Int), .int .u8 (u.p.f : Int), .int .i32 u.q.x, .int .i32 u.q.y, .int .i32 u.q.vx, .int .i32 u.q.vy, .int .u8 (u.q.h : Int), .int .u8 (u.q.c : Int), .int .u8 (u.q.f : Int), .slice (some ⟨r5, 0, none⟩) (u.ss.length + 1) cap5, .int .u16 (u.s0 : Int), .int .u16 (u.s1 : Int)]), (w.heap.size + 1, 30, zsc), (g3, 66, #[.int .i32 (xa + xc), .int .i32 (xb + xd), .int .i32 xc, .int .i32 xd, .int .u8 1, .int .u8 (e : Int)]), (g4, 99, #[.int .i32 (xa + xc), .int .i32 (xb + xd), .int .i32 512, .int .i32 512])]) rfl (Nat.le_of_ble_eq_true rfl) rfl rfl; have Sr150 := Lib.hid (HR7.out.turn (by simp) qr146); clear qr146 HR7)
              go_roundw
              case rel => exact ⟨k + 1, cap5, some ⟨r5, 0, none⟩, { u with ss := u.ss ++ [⟨xa + xc, xb + xd, xc, xd, 1, e⟩] }, by omega, by go_num, HU2.out, (by show Hid (Loc _ w _ [(w.heap.size, 30, stc _ _ _), _]); unfold stc; dsimp only; rw [HL2.out]; exact Hr149.drop 2 rfl), (by show Hid (Shr _ _ _ _ (u.ss ++ [_]).length _ _); rw [HL2.out]; exact Sr150.out.less (by simp))⟩
              case measure => simp [intOf]; omega
            · have hli : ¬ (0 : Int) < (e : Int) := by omega
              have hu2 : u = flew s (k + 1) := by rw [flew_next s k hlt, ← HU.out, HX.out]; exact (hit_end (x := ⟨xa, xb, xc, xd, 1, e + 1⟩) HIN.out hno hl).symm
              have HU2 := Lib.hid hu2
              clear hu2
              go_wp2
              go_roundw
              case rel => exact ⟨k + 1, fcap, fo, u, by omega, by go_num, HU2.out, Hr141.drop 2 rfl, Sr142.out.less (by simp)⟩
              case measure => simp [intOf]; omega
          · have hyo := of_decide_eq_true HBO.out.symm
            clear HBO
            have hu2 : (u.setPl 0 { u.pl 0 with h := (u.pl 0).h - 10 }).score 1 = flew s (k + 1) := by rw [flew_next s k hlt, ← HU.out, HX.out]; exact (hit_over (x := ⟨xa, xb, xc, xd, 1, e + 1⟩) HIN.out hyo).symm
            obtain ⟨hq, hhq⟩ : ∃ hq, hq = u.p.h - 10 := ⟨_, rfl⟩
            obtain ⟨sc, hsc⟩ : ∃ sc, sc = if u.s1 < 65535 then u.s1 + 1 else u.s1 := ⟨_, rfl⟩
            replace hu2 : { u with p := { u.p with h := hq }, s1 := sc } = flew s (k + 1) := by rw [← hu2, hhq, hsc]; rfl
            have HU2 := Lib.hid hu2
            have HHQ := Lib.hid hhq
            have HSC := Lib.hid hsc
            have hh100 := HA.out.p.h
            have hs65 := HA.out.s1
            clear hu2 hhq hsc
            have lr143 := Hr141.ldO ty_u8 0 rfl 6 (v := .int .u8 (u.p.h : Int)) rfl
            go_upto_if 63 with fail
            go_cut [8] (fun s8 wx => wx = w6 ∧ ∃ h8 : Int, s8 = .int .u8 h8 ∧ Hid (IntKind.u8.wrap (h8 - 10) = (hq : Int)))
            case first =>
              by_cases h10 : u.p.h < 10
              · have hi10 : (u.p.h : Int) < 10 := by omega
                go_wp2_with fail
                all_goals go_meet
                all_goals exact ⟨rfl, 10, rfl, by show _ = _; rw [HHQ.out]; simp [IntKind.wrap, IntKind.bits, IntKind.signed]; omega⟩
              · have hi10 : ¬ (u.p.h : Int) < 10 := by omega
                go_wp2_with fail
                all_goals go_meet
                all_goals exact ⟨rfl, (u.p.h : Int), rfl, by show _ = _; rw [HHQ.out]; simp [IntKind.wrap, IntKind.bits, IntKind.signed]; omega⟩
            case rest =>
            obtain ⟨rfl, h8, rfl, HW8⟩ := hcut
            have hw8 := HW8.out
            clear lr143
            obtain ⟨wr145, sr146, Hr147, qr144⟩ := Hr141.stO ty_u8 0 rfl 6 (.int .u8 (hq : Int)) (cs' := #[.int .u64 (u.fr : Int), .int .u64 (u.sd : Int), .int .i32 u.p.x, .int .i32 u.p.y, .int .i32 u.p.vx, .int .i32 u.p.vy, .int .u8 (hq : Int), .int .u8 (u.p.c : Int), .int .u8 (u.p.f : Int), .int .i32 u.q.x, .int .i32 u.q.y, .int .i32 u.q.vx, .int .i32 u.q.vy, .int .u8 (u.q.h : Int), .int .u8 (u.q.c : Int), .int .u8 (u.q.f : Int), .slice fo u.ss.length fcap, .int .u16 (u.s0 : Int), .int .u16 (u.s1 : Int)]) rfl (L' := [(w.heap.size, 30, #[.int .u64 (u.fr : Int), .int .u64 (u.sd : Int), .int .i32 u.p.x, .int .i32 u.p.y, .int .i32 u.p.vx, .int .i32 u.p.vy, .int .u8 (hq : Int), .int .u8 (u.p.c : Int), .int .u8 (u.p.f : Int), .int .i32 u.q.x, .int .i32 u.q.y, .int .i32 u.q.vx, .int .i32 u.q.vy, .int .u8 (u.q.h : Int), .int .u8 (u.q.c : Int), .int .u8 (u.q.f : Int), .slice fo u.ss.length fcap, .int .u16 (u.s0 : Int), .int .u16 (u.s1 : Int)]), (w.heap.size + 1, 30, zsc), (g3, 66, #[.int .i32 (xa + xc), .int .i32 (xb + xd), .int .i32 xc, .int .i32 xd, .int .u8 1, .int .u8 (e : Int)]), (g4, 99, #[.int .i32 (xa + xc), .int .i32 (xb + xd), .int .i32 512, .int .i32 512])]) rfl (Nat.le_of_ble_eq_true rfl) rfl rfl
            have Sr148 := Lib.hid (Sr142.out.turn (by simp) qr144)
            clear qr144 Sr142
            have lr149 := Hr147.ldO ty_u8 2 rfl 4 (v := .int .u8 1) rfl
            have lr150 := Hr147.ldO ty_u16 0 rfl 18 (v := .int .u16 (u.s1 : Int)) rfl
            by_cases hs : u.s1 < 65535
            · have hsi : (u.s1 : Int) < 65535 := by omega
              have hscn : sc = u.s1 + 1 := by rw [HSC.out, if_pos hs]
              go_upto_region 19 with fail
              clear lr150 lr149 sr146
              clear hw8 HW8
              obtain ⟨wd9, hwd⟩ : ∃ wd, ({ wr145 with drawn := wr145.drawn + 1 } : World) = wd := ⟨_, rfl⟩
              have Hr151 : Loc (w.heap.size) w wd9 [(w.heap.size, 30, #[.int .u64 (u.fr : Int), .int .u64 (u.sd : Int), .int .i32 u.p.x, .int .i32 u.p.y, .int .i32 u.p.vx, .int .i32 u.p.vy, .int .u8 (hq : Int), .int .u8 (u.p.c : Int), .int .u8 (u.p.f : Int), .int .i32 u.q.x, .int .i32 u.q.y, .int .i32 u.q.vx, .int .i32 u.q.vy, .int .u8 (u.q.h : Int), .int .u8 (u.q.c : Int), .int .u8 (u.q.f : Int), .slice fo u.ss.length fcap, .int .u16 (u.s0 : Int), .int .u16 (u.s1 : Int)]), (w.heap.size + 1, 30, zsc), (g3, 66, #[.int .i32 (xa + xc), .int .i32 (xb + xd), .int .i32 xc, .int .i32 xd, .int .u8 1, .int .u8 (e : Int)]), (g4, 99, #[.int .i32 (xa + xc), .int .i32 (xb + xd), .int .i32 512, .int .i32 512])] := by rw [← hwd]; exact Hr147.drew
              have lr152 := Hr151.ldO ty_u8 2 rfl 4 (v := .int .u8 1) rfl
              have lr153 := Hr151.ldO ty_u16 0 rfl 18 (v := .int .u16 (u.s1 : Int)) rfl
              have hRd : Hid (Shr w.heap.size wd9 [w.heap.size, w.heap.size + 1, g3, g4] fo u.ss.length fcap u.ss) := by rw [← hwd]; exact (Sr148.out.to (Below.refl _ _).drew).less (by simp)
              obtain ⟨wr155, sr156, Hr157, qr154⟩ := Hr151.stO ty_u16 0 rfl 18 (.int .u16 ((u.s1 : Int) + 1)) (cs' := #[.int .u64 (u.fr : Int), .int .u64 (u.sd : Int), .int .i32 u.p.x, .int .i32 u.p.y, .int .i32 u.p.vx, .int .i32 u.p.vy, .int .u8 (hq : Int), .int .u8 (u.p.c : Int), .int .u8 (u.p.f : Int), .int .i32 u.q.x, .int .i32 u.q.y, .int .i32 u.q.vx, .int .i32 u.q.vy, .int .u8 (u.q.h : Int), .int .u8 (u.q.c : Int), .int .u8 (u.q.f : Int), .slice fo u.ss.length fcap, .int .u16 (u.s0 : Int), .int .u16 ((u.s1 : Int) + 1)]) rfl (L' := [(w.heap.size, 30, #[.int .u64 (u.fr : Int), .int .u64 (u.sd : Int), .int .i32 u.p.x, .int .i32 u.p.y, .int .i32 u.p.vx, .int .i32 u.p.vy, .int .u8 (hq : Int), .int .u8 (u.p.c : Int), .int .u8 (u.p.f : Int), .int .i32 u.q.x, .int .i32 u.q.y, .int .i32 u.q.vx, .int .i32 u.q.vy, .int .u8 (u.q.h : Int), .int .u8 (u.q.c : Int), .int .u8 (u.q.f : Int), .slice fo u.ss.length fcap, .int .u16 (u.s0 : Int), .int .u16 ((u.s1 : Int) + 1)]), (w.heap.size + 1, 30, zsc), (g3, 66, #[.int .i32 (xa + xc), .int .i32 (xb + xd), .int .i32 xc, .int .i32 xd, .int .u8 1, .int .u8 (e : Int)]), (g4, 99, #[.int .i32 (xa + xc), .int .i32 (xb + xd), .int .i32 512, .int .i32 512])]) rfl (Nat.le_of_ble_eq_true rfl) rfl rfl
              have Sr158 := Lib.hid (hRd.out.turn (by simp) qr154)
              clear qr154 hRd
              refine wp_region_still_tail 10 (by kernel_rfl) (by kernel_rfl) ?_
              simp only [List.take_succ_cons, List.take_zero, List.drop_succ_cons, List.drop_zero]
              rw [hwd]
              clear hwd
              repeat still_step
              refine wpStill_nil ?_
              go_wp2
              go_roundw
              case rel => exact ⟨k + 1, fcap, fo, { u with p := { u.p with h := hq }, s1 := sc }, by omega, by go_num, HU2.out, (by rw [hscn]; exact Hr157.drop 2 rfl), Sr158.out.less (by simp)⟩
              case measure => simp [intOf]; omega
            · have hsi : ¬ (u.s1 : Int) < 65535 := by omega
              have hscn : sc = u.s1 := by rw [HSC.out, if_neg hs]
              have HSCN := Lib.hid hscn
              clear hscn
              go_wp2
              go_roundw
              case rel => exact ⟨k + 1, fcap, fo, { u with p := { u.p with h := hq }, s1 := sc }, by omega, by go_num, HU2.out, (by rw [HSCN.out]; exact Hr147.drop 2 rfl), Sr148.out.less (by simp)⟩
              case measure => simp [intOf]; omega
    · have hk2 : k = s.ss.length := by omega
      subst hk2
      have HU2 := Lib.hid (HU.out.trans (flew_all s))
      have le1 := HR.out.ldA ty_state 0 rfl 0 (vs := (stc u fo fcap)) rfl (Nat.le_of_ble_eq_true rfl)
      obtain ⟨we3, se4, He5, qe2⟩ := HR.out.stA ty_state 1 rfl 0 (stc u fo fcap) (cs' := stc u fo fcap) rfl (L' := [(w.heap.size, 30, #[.int .u64 (u.fr : Int), .int .u64 (u.sd : Int), .int .i32 u.p.x, .int .i32 u.p.y, .int .i32 u.p.vx, .int .i32 u.p.vy, .int .u8 (u.p.h : Int), .int .u8 (u.p.c : Int), .int .u8 (u.p.f : Int), .int .i32 u.q.x, .int .i32 u.q.y, .int .i32 u.q.vx, .int .i32 u.q.vy, .int .u8 (u.q.h : Int), .int .u8 (u.q.c : Int), .int .u8 (u.q.f : Int), .slice fo u.ss.length fcap, .int .u16 (u.s0 : Int), .int .u16 (u.s1 : Int)]), (w.heap.size + 1, 30, stc u fo fcap)]) rfl (Nat.le_of_ble_eq_true rfl) rfl rfl
      have Se6 := Lib.hid (HSH.out.turn (by simp) qe2)
      clear qe2 HSH
      go_wp2
      refine bodyPost_ret (v := .agg (stc u fo fcap)) (ret_struct Tryd.underlying30 ty_state _ 2 _ Tryd.results52 (He5.get 1 rfl) rfl rfl) rfl ?_
      rw [← HU2.out] at HQ
      exact HQ.out _ _ ⟨fo, fcap, rfl, Se6.out.less (by simp), He5.be⟩
end Go.Proofs.YtgmbdadkahcpcaaDoor
