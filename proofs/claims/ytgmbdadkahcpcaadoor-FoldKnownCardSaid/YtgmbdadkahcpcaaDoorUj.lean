/- The program's frame: the shots fly: contract. -/
import Derived.Test.YtgmbdadkahcpcaaDoorUi
import Derived.Test.YtgmbdadkahcpcaaDoorAc
namespace Go.Proofs.YtgmbdadkahcpcaaDoor
open Go.RowKit
set_option linter.unusedVariables false
set_option linter.unusedSimpArgs false
set_option maxRecDepth 20000

theorem ovr_shot (z : Sh) (p : Pl) : G.ovr ⟨z.x, z.y, 512, 512⟩ ⟨p.x, p.y, 4096, 4096⟩ = decide (OvS z p) := by
  unfold G.ovr
  exact decide_eq_decide.2 ⟨fun h => h.2, fun h => ⟨⟨by show (0 : Int) < 512; decide, by show (0 : Int) < 512; decide, by show (0 : Int) < 4096; decide, by show (0 : Int) < 4096; decide⟩, h⟩⟩
theorem ins_arena (z : Sh) : G.ins ⟨z.x, z.y, 512, 512⟩ ⟨0, 0, 65536, 32768⟩ = decide (InA z) := by
  unfold G.ins
  refine decide_eq_decide.2 ⟨fun h => ⟨⟨h.2.1.1, by have := h.2.1.2; dsimp only at this; omega⟩, h.2.2.1, by have := h.2.2.2; dsimp only at this; omega⟩, fun h => ⟨⟨by show (0 : Int) < 512; decide, by show (0 : Int) < 512; decide⟩, ⟨h.1.1, by have := h.1.2; dsimp only; omega⟩, h.2.1, by have := h.2.2; dsimp only; omega⟩⟩
theorem shot_in : G.in32 512 := ⟨by decide, by decide⟩
theorem shs_ld {w : World} {b o : Nat} {l : List Sh} (h : Shs w (some ⟨b, o, none⟩) l) (k : Nat) (hk : k < l.length) {x : Sh} (hx : l[k]'hk = x) :
    (ldT 66 (.pointer (some ⟨b, o + k * 6, none⟩))).run Tryd.prog w = .ok (.agg #[.int .i32 x.x, .int .i32 x.y, .int .i32 x.vx, .int .i32 x.vy, .int .u8 (x.o : Int), .int .u8 (x.l : Int)]) w := by
  obtain ⟨_, b', o', e, hc⟩ := h k hk
  obtain ⟨rfl, rfl⟩ : b = b' ∧ o = o' := by
    injection e with e
    injection e with e1 e2
    exact ⟨e1, e2⟩
  subst hx
  exact run_ldC ty_shot [_, _, _, _, _, _] rfl (fun j v hv => hc j v hv)
theorem hit_out {u : St} {x : Sh} (h : ¬ InA (goS x)) : hit u x = u := if_pos h
theorem hit_over {u : St} {x : Sh} (h : InA (goS x)) (h2 : OvS (goS x) (u.pl (1 - x.o))) : hit u x = (u.setPl (1 - x.o) { u.pl (1 - x.o) with h := (u.pl (1 - x.o)).h - 10 }).score x.o := (if_neg (not_not_intro h)).trans (if_pos h2)
theorem hit_fly {u : St} {x : Sh} (h : InA (goS x)) (h2 : ¬ OvS (goS x) (u.pl (1 - x.o))) (h3 : 0 < (goS x).l) : hit u x = { u with ss := u.ss ++ [goS x] } := (if_neg (not_not_intro h)).trans ((if_neg h2).trans (if_pos h3))
theorem hit_end {u : St} {x : Sh} (h : InA (goS x)) (h2 : ¬ OvS (goS x) (u.pl (1 - x.o))) (h3 : ¬ 0 < (goS x).l) : hit u x = u := (if_neg (not_not_intro h)).trans ((if_neg h2).trans (if_neg h3))
/-- The flight of the first k shots. -/
def flew (s : St) (k : Nat) : St := (s.ss.take k).foldl hit { s with ss := [] }
theorem flew_zero (s : St) : flew s 0 = { s with ss := [] } := by simp [flew]
theorem flew_next (s : St) (k : Nat) (h : k < s.ss.length) : flew s (k + 1) = hit (flew s k) (s.ss[k]'h) := by
  unfold flew
  rw [List.take_succ_eq_append_getElem h, List.foldl_append]; rfl
theorem flew_all (s : St) : flew s s.ss.length = four s := by unfold flew four; rw [List.take_length]
theorem flew_ok {s : St} (h : s.ok) (k : Nat) : (flew s k).ok ∧ (flew s k).ss.length ≤ 8 := by
  have h1 := h.n
  obtain ⟨a, b⟩ := hits_ok (s.ss.take k) { s with ss := [] } ⟨h.p, h.q, by simp, fun x hx => (by simp at hx), h.s0, h.s1⟩ (fun x hx => h.ss x (List.mem_of_mem_take hx)) (by simp; omega)
  exact ⟨a, a.n⟩
attribute [local go_sem ↓] ld_i32 ld_u8 ld_box ld_shot ld_player ld_state ld_shots st_i32 st_u8 st_box st_shot st_state st_shots
set_option maxHeartbeats 4000000 in
theorem flown_c (s : St) (ao : Option Addr) (cap : Nat) (w : World) (hS : Shs w ao s.ss) (hok : s.ok) :
    Calls Tryd.prog 45 #[sv s ao cap] w (StPost w.heap.size w (four s)) := by
  have HS := Lib.hid hS
  have HOK := Lib.hid hok
  have H0 := Lib.hid (Loc.two w 30 30 (stc s ao cap) zsc)
  obtain ⟨Q, hQ⟩ : ∃ Q : Ending → World → Prop, Q = StPost w.heap.size w (four s) := ⟨_, rfl⟩
  rw [← hQ]
  have HQ : Hid (∀ E w', StPost w.heap.size w (four s) E w' → Q E w') := fun E w' h => by rw [hQ]; exact h
  have hn8 := hok.n
  clear hQ hS hok
  go_enter Tryd.func45, Tryd.ntmps45
  go_upto_region 1 with fail
  generalize (w.alloc (.cells (stc s ao cap) 30)).alloc (.cells zsc 30) = wa at *
  obtain ⟨g2, wa1, za4, sa2, Ha3, hg2⟩ := H0.out.newA ty_box (#[.int .i32 0, .int .i32 0, .int .i32 0, .int .i32 0]) #[.int .i32 0, .int .i32 0, .int .i32 65536, .int .i32 32768] rfl rfl rfl
  replace Ha3 : Loc _ _ _ [(w.heap.size, 30, #[.int .u64 (s.fr : Int), .int .u64 (s.sd : Int), .int .i32 s.p.x, .int .i32 s.p.y, .int .i32 s.p.vx, .int .i32 s.p.vy, .int .u8 (s.p.h : Int), .int .u8 (s.p.c : Int), .int .u8 (s.p.f : Int), .int .i32 s.q.x, .int .i32 s.q.y, .int .i32 s.q.vx, .int .i32 s.q.vy, .int .u8 (s.q.h : Int), .int .u8 (s.q.c : Int), .int .u8 (s.q.f : Int), .slice ao s.ss.length cap, .int .u16 (s.s0 : Int), .int .u16 (s.s1 : Int)]), (w.heap.size + 1, 30, zsc), (g2, 99, #[.int .i32 0, .int .i32 0, .int .i32 65536, .int .i32 32768])] := Ha3
  have la5 := Ha3.ldO ty_shots 0 rfl 16 (v := .slice ao s.ss.length cap) rfl
  go_upto_region 4 with fail
  go_loopw [12, 4] (fun v v4 wr => ∃ (k m fcap : Nat) (fo : Option Addr) (u : St), k ≤ s.ss.length ∧ v = .int .i64 k ∧ v4 = .slice fo m fcap ∧ Hid (u = flew s k) ∧ Hid (Loc w.heap.size w wr [(w.heap.size, 30, stc { u with ss := s.ss } ao cap), (w.heap.size + 1, 30, zsc), (g2, 99, #[.int .i32 0, .int .i32 0, .int .i32 65536, .int .i32 32768])]) ∧ Hid (Shr w.heap.size wr [w.heap.size, w.heap.size + 1, g2] fo m fcap u.ss)) (fun v _ _ => s.ss.length - (intOf v).toNat)
  case atStart => exact ⟨0, 0, 0, none, { s with ss := [] }, by omega, rfl, rfl, (flew_zero s).symm, Ha3, Shr.none _ _ _ (fun b hb => by simp only [List.mem_cons, List.not_mem_nil, or_false] at hb; rcases hb with rfl | rfl | rfl; exact (Ha3.get 0 rfl).lt; exact (Ha3.get 1 rfl).lt; exact (Ha3.get 2 rfl).lt)⟩
  case round =>
    clear la5 za4 sa2 hg2 Ha3 H0
    obtain ⟨k, m, fcap, fo, u, hk, rfl, rfl, HU, HR, HSH⟩ := hrel
    by_cases hlt : k < s.ss.length
    · obtain ⟨b0, o0, rfl⟩ : ∃ b o, ao = some ⟨b, o, none⟩ := by
        obtain ⟨_, b, o, e, _⟩ := HS.out k hlt
        exact ⟨b, o, e⟩
      obtain ⟨x, hx⟩ : ∃ x, s.ss[k]'hlt = x := ⟨_, rfl⟩
      have HXO : Hid x.ok := by rw [← hx]; exact HOK.out.ss _ (List.getElem_mem hlt)
      have HSr : Hid (Shs wr (some ⟨b0, o0, none⟩) s.ss) := Shs_grown HS.out (grown_of_below (r := none) HR.out.be) (by simp)
      have ls := shs_ld HSr.out k hlt hx
      have HX := Lib.hid hx
      clear hx HSr
      obtain ⟨xa, xb, xc, xd, xo, xe⟩ := x
      obtain ⟨⟨a1, a2⟩, ⟨b1, b2⟩, ⟨c1, c2⟩, ⟨d1, d2⟩, ho1, he1, he2⟩ := HXO.out
      dsimp only at a1 a2 b1 b2 c1 c2 d1 d2 ho1 he1 he2 ls
      obtain ⟨e, rfl⟩ : ∃ e, xe = e + 1 := ⟨xe - 1, by omega⟩
      clear HXO he1
      have ho : xo = 0 ∨ xo = 1 := by omega
      clear ho1
      obtain ⟨bi, hbi⟩ : ∃ bi, bi = decide (InA ⟨xa + xc, xb + xd, xc, xd, xo, e⟩) := ⟨_, rfl⟩
      have CI : Hid (∀ W, Calls Tryd.prog 64 #[.agg #[.int .i32 (xa + xc), .int .i32 (xb + xd), .int .i32 512, .int .i32 512], .agg #[.int .i32 0, .int .i32 0, .int .i32 65536, .int .i32 32768]] W fun E w' => E = .returned (.bool bi) ∧ Below W.heap.size W w') := fun W => by
        have := G.inside ⟨xa + xc, xb + xd, 512, 512⟩ ⟨0, 0, 65536, 32768⟩ W ⟨by unfold G.in32; dsimp only; omega, by unfold G.in32; dsimp only; omega, shot_in, shot_in⟩ ⟨by unfold G.in32; decide, by unfold G.in32; decide, by unfold G.in32; decide, by unfold G.in32; decide⟩
        rw [ins_arena ⟨xa + xc, xb + xd, xc, xd, xo, e⟩, ← hbi] at this
        exact this
      have HBI := Lib.hid hbi
      clear hbi
      have CS := Lib.hid (fun W => square_c (xa + xc) (xb + xd) 512 W)
      obtain ⟨hA, hAn⟩ := flew_ok HOK.out k
      rw [← HU.out] at hA hAn
      have HA := Lib.hid hA
      clear hA
      obtain ⟨g3, wr1, zr4, sr2, Hr3, qr5⟩ := HR.out.newA ty_shot #[.int .i32 0, .int .i32 0, .int .i32 0, .int .i32 0, .int .u8 0, .int .u8 0] #[.int .i32 xa, .int .i32 xb, .int .i32 xc, .int .i32 xd, .int .u8 (xo : Int), .int .u8 ((e : Int) + 1)] rfl rfl rfl
      replace Hr3 : Loc _ _ _ [(w.heap.size, 30, #[.int .u64 (u.fr : Int), .int .u64 (u.sd : Int), .int .i32 u.p.x, .int .i32 u.p.y, .int .i32 u.p.vx, .int .i32 u.p.vy, .int .u8 (u.p.h : Int), .int .u8 (u.p.c : Int), .int .u8 (u.p.f : Int), .int .i32 u.q.x, .int .i32 u.q.y, .int .i32 u.q.vx, .int .i32 u.q.vy, .int .u8 (u.q.h : Int), .int .u8 (u.q.c : Int), .int .u8 (u.q.f : Int), .slice (some ⟨b0, o0, none⟩) s.ss.length cap, .int .u16 (u.s0 : Int), .int .u16 (u.s1 : Int)]), (w.heap.size + 1, 30, zsc), (g2, 99, #[.int .i32 0, .int .i32 0, .int .i32 65536, .int .i32 32768]), (g3, 66, #[.int .i32 xa, .int .i32 xb, .int .i32 xc, .int .i32 xd, .int .u8 (xo : Int), .int .u8 ((e : Int) + 1)])] := Hr3
      have Sr6 := Lib.hid (HSH.out.fresh qr5 zr4 (Hr3.get 3 rfl).lt)
      clear qr5 HSH
      have lr7 := Hr3.ldO ty_i32 3 rfl 0 (v := .int .i32 xa) rfl
      have lr8 := Hr3.ldO ty_i32 3 rfl 2 (v := .int .i32 xc) rfl
      obtain ⟨wr10, sr11, Hr12, qr9⟩ := Hr3.stO ty_i32 3 rfl 0 (.int .i32 (xa + xc)) (cs' := #[.int .i32 (xa + xc), .int .i32 xb, .int .i32 xc, .int .i32 xd, .int .u8 (xo : Int), .int .u8 ((e : Int) + 1)]) rfl (L' := [(w.heap.size, 30, #[.int .u64 (u.fr : Int), .int .u64 (u.sd : Int), .int .i32 u.p.x, .int .i32 u.p.y, .int .i32 u.p.vx, .int .i32 u.p.vy, .int .u8 (u.p.h : Int), .int .u8 (u.p.c : Int), .int .u8 (u.p.f : Int), .int .i32 u.q.x, .int .i32 u.q.y, .int .i32 u.q.vx, .int .i32 u.q.vy, .int .u8 (u.q.h : Int), .int .u8 (u.q.c : Int), .int .u8 (u.q.f : Int), .slice (some ⟨b0, o0, none⟩) s.ss.length cap, .int .u16 (u.s0 : Int), .int .u16 (u.s1 : Int)]), (w.heap.size + 1, 30, zsc), (g2, 99, #[.int .i32 0, .int .i32 0, .int .i32 65536, .int .i32 32768]), (g3, 66, #[.int .i32 (xa + xc), .int .i32 xb, .int .i32 xc, .int .i32 xd, .int .u8 (xo : Int), .int .u8 ((e : Int) + 1)])]) rfl (Nat.le_of_ble_eq_true rfl) rfl rfl
      have Sr13 := Lib.hid (Sr6.out.turn (by simp) qr9)
      clear qr9 Sr6
      have lr14 := Hr12.ldO ty_i32 3 rfl 1 (v := .int .i32 xb) rfl
      have lr15 := Hr12.ldO ty_i32 3 rfl 3 (v := .int .i32 xd) rfl
      obtain ⟨wr17, sr18, Hr19, qr16⟩ := Hr12.stO ty_i32 3 rfl 1 (.int .i32 (xb + xd)) (cs' := #[.int .i32 (xa + xc), .int .i32 (xb + xd), .int .i32 xc, .int .i32 xd, .int .u8 (xo : Int), .int .u8 ((e : Int) + 1)]) rfl (L' := [(w.heap.size, 30, #[.int .u64 (u.fr : Int), .int .u64 (u.sd : Int), .int .i32 u.p.x, .int .i32 u.p.y, .int .i32 u.p.vx, .int .i32 u.p.vy, .int .u8 (u.p.h : Int), .int .u8 (u.p.c : Int), .int .u8 (u.p.f : Int), .int .i32 u.q.x, .int .i32 u.q.y, .int .i32 u.q.vx, .int .i32 u.q.vy, .int .u8 (u.q.h : Int), .int .u8 (u.q.c : Int), .int .u8 (u.q.f : Int), .slice (some ⟨b0, o0, none⟩) s.ss.length cap, .int .u16 (u.s0 : Int), .int .u16 (u.s1 : Int)]), (w.heap.size + 1, 30, zsc), (g2, 99, #[.int .i32 0, .int .i32 0, .int .i32 65536, .int .i32 32768]), (g3, 66, #[.int .i32 (xa + xc), .int .i32 (xb + xd), .int .i32 xc, .int .i32 xd, .int .u8 (xo : Int), .int .u8 ((e : Int) + 1)])]) rfl (Nat.le_of_ble_eq_true rfl) rfl rfl
      have Sr20 := Lib.hid (Sr13.out.turn (by simp) qr16)
      clear qr16 Sr13
      have lr21 := Hr19.ldO ty_u8 3 rfl 5 (v := .int .u8 ((e : Int) + 1)) rfl
      obtain ⟨wr23, sr24, Hr25, qr22⟩ := Hr19.stO ty_u8 3 rfl 5 (.int .u8 (e : Int)) (cs' := #[.int .i32 (xa + xc), .int .i32 (xb + xd), .int .i32 xc, .int .i32 xd, .int .u8 (xo : Int), .int .u8 (e : Int)]) rfl (L' := [(w.heap.size, 30, #[.int .u64 (u.fr : Int), .int .u64 (u.sd : Int), .int .i32 u.p.x, .int .i32 u.p.y, .int .i32 u.p.vx, .int .i32 u.p.vy, .int .u8 (u.p.h : Int), .int .u8 (u.p.c : Int), .int .u8 (u.p.f : Int), .int .i32 u.q.x, .int .i32 u.q.y, .int .i32 u.q.vx, .int .i32 u.q.vy, .int .u8 (u.q.h : Int), .int .u8 (u.q.c : Int), .int .u8 (u.q.f : Int), .slice (some ⟨b0, o0, none⟩) s.ss.length cap, .int .u16 (u.s0 : Int), .int .u16 (u.s1 : Int)]), (w.heap.size + 1, 30, zsc), (g2, 99, #[.int .i32 0, .int .i32 0, .int .i32 65536, .int .i32 32768]), (g3, 66, #[.int .i32 (xa + xc), .int .i32 (xb + xd), .int .i32 xc, .int .i32 xd, .int .u8 (xo : Int), .int .u8 (e : Int)])]) rfl (Nat.le_of_ble_eq_true rfl) rfl rfl
      have Sr26 := Lib.hid (Sr20.out.turn (by simp) qr22)
      clear qr22 Sr20
      have lr27 := Hr25.ldO ty_i32 3 rfl 0 (v := .int .i32 (xa + xc)) rfl
      have lr28 := Hr25.ldO ty_i32 3 rfl 1 (v := .int .i32 (xb + xd)) rfl
      go_wp2_with fail
      refine (CS.out _).mono ?_
      rintro E w4 ⟨rfl, hb4⟩
      clear CS ls
      clear lr28 lr27 sr24 lr21 sr18 lr15 lr14 sr11 lr8 lr7 zr4 sr2
      have Hr29 := Hr25.to hb4
      have Sr30 := Lib.hid (Sr26.out.to hb4)
      clear Sr26
      obtain ⟨g4, wr31, zr34, sr32, Hr33, qr35⟩ := Hr29.newA ty_box (#[.int .i32 0, .int .i32 0, .int .i32 0, .int .i32 0]) #[.int .i32 (xa + xc), .int .i32 (xb + xd), .int .i32 512, .int .i32 512] rfl rfl rfl
      replace Hr33 : Loc _ _ _ [(w.heap.size, 30, #[.int .u64 (u.fr : Int), .int .u64 (u.sd : Int), .int .i32 u.p.x, .int .i32 u.p.y, .int .i32 u.p.vx, .int .i32 u.p.vy, .int .u8 (u.p.h : Int), .int .u8 (u.p.c : Int), .int .u8 (u.p.f : Int), .int .i32 u.q.x, .int .i32 u.q.y, .int .i32 u.q.vx, .int .i32 u.q.vy, .int .u8 (u.q.h : Int), .int .u8 (u.q.c : Int), .int .u8 (u.q.f : Int), .slice (some ⟨b0, o0, none⟩) s.ss.length cap, .int .u16 (u.s0 : Int), .int .u16 (u.s1 : Int)]), (w.heap.size + 1, 30, zsc), (g2, 99, #[.int .i32 0, .int .i32 0, .int .i32 65536, .int .i32 32768]), (g3, 66, #[.int .i32 (xa + xc), .int .i32 (xb + xd), .int .i32 xc, .int .i32 xd, .int .u8 (xo : Int), .int .u8 (e : Int)]), (g4, 99, #[.int .i32 (xa + xc), .int .i32 (xb + xd), .int .i32 512, .int .i32 512])] := Hr33
      have Sr36 := Lib.hid (Sr30.out.fresh qr35 zr34 (Hr33.get 4 rfl).lt)
      clear qr35 Sr30
      have lr37 := Hr33.ldA ty_box 4 rfl 0 (vs := #[.int .i32 (xa + xc), .int .i32 (xb + xd), .int .i32 512, .int .i32 512]) rfl (Nat.le_of_ble_eq_true rfl)
      have lr38 := Hr33.ldA ty_box 2 rfl 0 (vs := #[.int .i32 0, .int .i32 0, .int .i32 65536, .int .i32 32768]) rfl (Nat.le_of_ble_eq_true rfl)
      go_wp2_with fail
      refine (CI.out _).mono ?_
      rintro E w5 ⟨rfl, hb5⟩
      clear CI
      clear lr38 lr37 zr34 sr32
      have Hr39 := Hr33.to hb5
      have Sr40 := Lib.hid (Sr36.out.to hb5)
      clear Sr36
      cases bi
      · have hu2 : u = flew s (k + 1) := by rw [flew_next s k hlt, ← HU.out, HX.out]; exact (hit_out (x := ⟨xa, xb, xc, xd, xo, e + 1⟩) (of_decide_eq_false HBI.out.symm)).symm
        go_wp2
        go_roundw
        case rel => exact ⟨k + 1, m, fcap, fo, u, by omega, by go_num, rfl, hu2, Hr39.drop 3 rfl, Sr40.out.less (by simp)⟩
        case measure => simp [intOf]; omega
      · have hin := of_decide_eq_true HBI.out.symm
        have HIN := Lib.hid hin
        clear hin HBI
        rcases ho with rfl | rfl
        · obtain ⟨bo, hbo⟩ : ∃ bo, bo = decide (OvS ⟨xa + xc, xb + xd, xc, xd, 0, e⟩ u.q) := ⟨_, rfl⟩
          have CB : Hid (∀ W, Calls Tryd.prog 66 #[.agg (pcs u.q)] W fun E w' => E = .returned (.agg #[.int .i32 u.q.x, .int .i32 u.q.y, .int .i32 4096, .int .i32 4096]) ∧ Below W.heap.size W w') := fun W => boxOf_c u.q W
          have CO : Hid (∀ W, Calls Tryd.prog 65 #[.agg #[.int .i32 (xa + xc), .int .i32 (xb + xd), .int .i32 512, .int .i32 512], .agg #[.int .i32 u.q.x, .int .i32 u.q.y, .int .i32 4096, .int .i32 4096]] W fun E w' => E = .returned (.bool bo) ∧ Below W.heap.size W w') := fun W => by
            have := G.over ⟨xa + xc, xb + xd, 512, 512⟩ ⟨u.q.x, u.q.y, 4096, 4096⟩ W ⟨by unfold G.in32; dsimp only; omega, by unfold G.in32; dsimp only; omega, shot_in, shot_in⟩ ⟨by have := HA.out.q.x; unfold G.in32; dsimp only; omega, by have := HA.out.q.y; unfold G.in32; dsimp only; omega, box_in, box_in⟩
            rw [ovr_shot ⟨xa + xc, xb + xd, xc, xd, 0, e⟩ u.q, ← hbo] at this
            exact this
          have HBO := Lib.hid hbo
          clear hbo
          have hwo : IntKind.u8.wrap ((1 : Int) - 0) = 1 := by decide
          have hwo2 : IntKind.u8.wrap 1 = 1 := by decide
          go_upto_region 11 with fail
          have ar41 := Hr39.onA ty_box 4 rfl 0 (vs := #[.int .i32 (xa + xc), .int .i32 (xb + xd), .int .i32 512, .int .i32 512]) rfl (Nat.le_of_ble_eq_true rfl)
          have ar42 := Hr39.onO ty_u8 3 rfl 4 (v := .int .u8 0) rfl
          have ar43 := Hr39.onA ty_player 0 rfl 9 (vs := (pcs u.q)) rfl (Nat.le_of_ble_eq_true rfl)
          have o0' := G.On.drew w5.heap.size w5
          go_region_held3 (fun w' => G.On w5.heap.size w5 w') (first | assumption) (first | (go_at_call 66; refine (CB.out _).mono ?_; rintro E w6 ⟨rfl, hb6⟩; have o6 := G.on_step (wd := w5) (by assumption) hb6) | (go_at_call 65; refine (CO.out _).mono ?_; rintro E w6 ⟨rfl, hb6⟩; have o6 := G.on_step (wd := w5) (by assumption) hb6))
          clear ar43 ar42 ar41
          have Hr44 := Hr39.to o6
          have Sr45 := Lib.hid (Sr40.out.to o6)
          clear Sr40
          clear CB CO o0' o6 hwo hwo2
          cases bo
          · have hno := of_decide_eq_false HBO.out.symm
            clear HBO
            have lr46 := Hr44.ldO ty_u8 3 rfl 5 (v := .int .u8 (e : Int)) rfl
            by_cases hl : 0 < e
            · have hli : (0 : Int) < (e : Int) := by omega
              have hu2 : { u with ss := u.ss ++ [⟨xa + xc, xb + xd, xc, xd, 0, e⟩] } = flew s (k + 1) := by rw [flew_next s k hlt, ← HU.out, HX.out]; exact (hit_fly (x := ⟨xa, xb, xc, xd, 0, e + 1⟩) HIN.out hno hl).symm
              have HU2 := Lib.hid hu2
              clear hu2
              have hm8 : m ≤ 1000000 := by have := Sr45.out.len; omega
              have lr47 := Hr44.ldA ty_shot 3 rfl 0 (vs := #[.int .i32 (xa + xc), .int .i32 (xb + xd), .int .i32 xc, .int .i32 xd, .int .u8 0, .int .u8 (e : Int)]) rfl (Nat.le_of_ble_eq_true rfl)
              go_wp2_with (at_builtin; refine wpList_append_new rfl _ _ rfl (by simp [Act.eval]) ⟨xa + xc, xb + xd, xc, xd, 0, e⟩ _ rfl (by simp [Act.eval]) Sr45.out Hr44 (by simp) hm8 ?_; intro r5 cap5 w7 hR7 hL7; have HR7 := Lib.hid hR7; clear hR7)
              go_roundw
              case rel => exact ⟨k + 1, m + 1, cap5, some ⟨r5, 0, none⟩, { u with ss := u.ss ++ [⟨xa + xc, xb + xd, xc, xd, 0, e⟩] }, by omega, by go_num, rfl, HU2.out, hL7.drop 3 rfl, HR7.out.less (by simp)⟩
              case measure => simp [intOf]; omega
            · have hli : ¬ (0 : Int) < (e : Int) := by omega
              have hu2 : u = flew s (k + 1) := by rw [flew_next s k hlt, ← HU.out, HX.out]; exact (hit_end (x := ⟨xa, xb, xc, xd, 0, e + 1⟩) HIN.out hno hl).symm
              have HU2 := Lib.hid hu2
              clear hu2
              go_wp2
              go_roundw
              case rel => exact ⟨k + 1, m, fcap, fo, u, by omega, by go_num, rfl, HU2.out, Hr44.drop 3 rfl, Sr45.out.less (by simp)⟩
              case measure => simp [intOf]; omega
          · have hyo := of_decide_eq_true HBO.out.symm
            clear HBO
            have hu2 : (u.setPl 1 { u.pl 1 with h := (u.pl 1).h - 10 }).score 0 = flew s (k + 1) := by rw [flew_next s k hlt, ← HU.out, HX.out]; exact (hit_over (x := ⟨xa, xb, xc, xd, 0, e + 1⟩) HIN.out hyo).symm
            have CH := Lib.hid (fun W => hit0_c { u with ss := s.ss } (some ⟨b0, o0, none⟩) cap W (by have := HA.out.q.h; show u.q.h < 256; omega) (by have := HA.out.s0; show u.s0 < 65536; omega))
            obtain ⟨hq, hhq⟩ : ∃ hq, hq = u.q.h - 10 := ⟨_, rfl⟩
            obtain ⟨sc, hsc⟩ : ∃ sc, sc = if u.s0 < 65535 then u.s0 + 1 else u.s0 := ⟨_, rfl⟩
            replace hu2 : { u with q := { u.q with h := hq }, s0 := sc } = flew s (k + 1) := by rw [← hu2, hhq, hsc]; rfl
            replace CH : Hid (∀ W, Calls Tryd.prog 67 #[.agg (stc { u with ss := s.ss } (some ⟨b0, o0, none⟩) cap), .int .u8 0] W fun E w' => E = .returned (.agg (stc { u with q := { u.q with h := hq }, s0 := sc, ss := s.ss } (some ⟨b0, o0, none⟩) cap)) ∧ Below W.heap.size W w') := fun W => by have := CH.out W; rw [hhq, hsc]; exact this
            have HU2 := Lib.hid hu2
            clear hu2 hhq hsc
            have lr46 := Hr44.ldA ty_state 0 rfl 0 (vs := (stc { u with ss := s.ss } (some ⟨b0, o0, none⟩) cap)) rfl (Nat.le_of_ble_eq_true rfl)
            have lr47 := Hr44.ldO ty_u8 3 rfl 4 (v := .int .u8 0) rfl
            go_wp2_with fail
            refine (CH.out _).mono ?_
            rintro E w7 ⟨rfl, hb7⟩
            clear CH
            clear lr47 lr46
            have Hr48 := Hr44.to hb7
            have Sr49 := Lib.hid (Sr45.out.to hb7)
            clear Sr45
            obtain ⟨wr51, sr52, Hr53, qr50⟩ := Hr48.stA ty_state 0 rfl 0 (stc { u with q := { u.q with h := hq }, s0 := sc, ss := s.ss } (some ⟨b0, o0, none⟩) cap) (cs' := stc { u with q := { u.q with h := hq }, s0 := sc, ss := s.ss } (some ⟨b0, o0, none⟩) cap) rfl (L' := [(w.heap.size, 30, stc { u with q := { u.q with h := hq }, s0 := sc, ss := s.ss } (some ⟨b0, o0, none⟩) cap), (w.heap.size + 1, 30, zsc), (g2, 99, #[.int .i32 0, .int .i32 0, .int .i32 65536, .int .i32 32768]), (g3, 66, #[.int .i32 (xa + xc), .int .i32 (xb + xd), .int .i32 xc, .int .i32 xd, .int .u8 0, .int .u8 (e : Int)]), (g4, 99, #[.int .i32 (xa + xc), .int .i32 (xb + xd), .int .i32 512, .int .i32 512])]) rfl (Nat.le_of_ble_eq_true rfl) rfl rfl
            have Sr54 := Lib.hid (Sr49.out.turn (by simp) qr50)
            clear qr50 Sr49
            go_wp2
            go_roundw
            case rel => exact ⟨k + 1, m, fcap, fo, { u with q := { u.q with h := hq }, s0 := sc }, by omega, by go_num, rfl, HU2.out, Hr53.drop 3 rfl, Sr54.out.less (by simp)⟩
            case measure => simp [intOf]; omega
        · obtain ⟨bo, hbo⟩ : ∃ bo, bo = decide (OvS ⟨xa + xc, xb + xd, xc, xd, 1, e⟩ u.p) := ⟨_, rfl⟩
          have CB : Hid (∀ W, Calls Tryd.prog 66 #[.agg (pcs u.p)] W fun E w' => E = .returned (.agg #[.int .i32 u.p.x, .int .i32 u.p.y, .int .i32 4096, .int .i32 4096]) ∧ Below W.heap.size W w') := fun W => boxOf_c u.p W
          have CO : Hid (∀ W, Calls Tryd.prog 65 #[.agg #[.int .i32 (xa + xc), .int .i32 (xb + xd), .int .i32 512, .int .i32 512], .agg #[.int .i32 u.p.x, .int .i32 u.p.y, .int .i32 4096, .int .i32 4096]] W fun E w' => E = .returned (.bool bo) ∧ Below W.heap.size W w') := fun W => by
            have := G.over ⟨xa + xc, xb + xd, 512, 512⟩ ⟨u.p.x, u.p.y, 4096, 4096⟩ W ⟨by unfold G.in32; dsimp only; omega, by unfold G.in32; dsimp only; omega, shot_in, shot_in⟩ ⟨by have := HA.out.p.x; unfold G.in32; dsimp only; omega, by have := HA.out.p.y; unfold G.in32; dsimp only; omega, box_in, box_in⟩
            rw [ovr_shot ⟨xa + xc, xb + xd, xc, xd, 1, e⟩ u.p, ← hbo] at this
            exact this
          have HBO := Lib.hid hbo
          clear hbo
          have hwo : IntKind.u8.wrap ((1 : Int) - 1) = 0 := by decide
          have hwo2 : IntKind.u8.wrap 0 = 0 := by decide
          go_upto_region 11 with fail
          have ar41 := Hr39.onA ty_box 4 rfl 0 (vs := #[.int .i32 (xa + xc), .int .i32 (xb + xd), .int .i32 512, .int .i32 512]) rfl (Nat.le_of_ble_eq_true rfl)
          have ar42 := Hr39.onO ty_u8 3 rfl 4 (v := .int .u8 1) rfl
          have ar43 := Hr39.onA ty_player 0 rfl 2 (vs := (pcs u.p)) rfl (Nat.le_of_ble_eq_true rfl)
          have o0' := G.On.drew w5.heap.size w5
          go_region_held3 (fun w' => G.On w5.heap.size w5 w') (first | assumption) (first | (go_at_call 66; refine (CB.out _).mono ?_; rintro E w6 ⟨rfl, hb6⟩; have o6 := G.on_step (wd := w5) (by assumption) hb6) | (go_at_call 65; refine (CO.out _).mono ?_; rintro E w6 ⟨rfl, hb6⟩; have o6 := G.on_step (wd := w5) (by assumption) hb6))
          clear ar43 ar42 ar41
          have Hr44 := Hr39.to o6
          have Sr45 := Lib.hid (Sr40.out.to o6)
          clear Sr40
          clear CB CO o0' o6 hwo hwo2
          cases bo
          · have hno := of_decide_eq_false HBO.out.symm
            clear HBO
            have lr46 := Hr44.ldO ty_u8 3 rfl 5 (v := .int .u8 (e : Int)) rfl
            by_cases hl : 0 < e
            · have hli : (0 : Int) < (e : Int) := by omega
              have hu2 : { u with ss := u.ss ++ [⟨xa + xc, xb + xd, xc, xd, 1, e⟩] } = flew s (k + 1) := by rw [flew_next s k hlt, ← HU.out, HX.out]; exact (hit_fly (x := ⟨xa, xb, xc, xd, 1, e + 1⟩) HIN.out hno hl).symm
              have HU2 := Lib.hid hu2
              clear hu2
              have hm8 : m ≤ 1000000 := by have := Sr45.out.len; omega
              have lr47 := Hr44.ldA ty_shot 3 rfl 0 (vs := #[.int .i32 (xa + xc), .int .i32 (xb + xd), .int .i32 xc, .int .i32 xd, .int .u8 1, .int .u8 (e : Int)]) rfl (Nat.le_of_ble_eq_true rfl)
              go_wp2_with (at_builtin; refine wpList_append_new rfl _ _ rfl (by simp [Act.eval]) ⟨xa + xc, xb + xd, xc, xd, 1, e⟩ _ rfl (by simp [Act.eval]) Sr45.out Hr44 (by simp) hm8 ?_; intro r5 cap5 w7 hR7 hL7; have HR7 := Lib.hid hR7; clear hR7)
              go_roundw
              case rel => exact ⟨k + 1, m + 1, cap5, some ⟨r5, 0, none⟩, { u with ss := u.ss ++ [⟨xa + xc, xb + xd, xc, xd, 1, e⟩] }, by omega, by go_num, rfl, HU2.out, hL7.drop 3 rfl, HR7.out.less (by simp)⟩
              case measure => simp [intOf]; omega
            · have hli : ¬ (0 : Int) < (e : Int) := by omega
              have hu2 : u = flew s (k + 1) := by rw [flew_next s k hlt, ← HU.out, HX.out]; exact (hit_end (x := ⟨xa, xb, xc, xd, 1, e + 1⟩) HIN.out hno hl).symm
              have HU2 := Lib.hid hu2
              clear hu2
              go_wp2
              go_roundw
              case rel => exact ⟨k + 1, m, fcap, fo, u, by omega, by go_num, rfl, HU2.out, Hr44.drop 3 rfl, Sr45.out.less (by simp)⟩
              case measure => simp [intOf]; omega
          · have hyo := of_decide_eq_true HBO.out.symm
            clear HBO
            have hu2 : (u.setPl 0 { u.pl 0 with h := (u.pl 0).h - 10 }).score 1 = flew s (k + 1) := by rw [flew_next s k hlt, ← HU.out, HX.out]; exact (hit_over (x := ⟨xa, xb, xc, xd, 1, e + 1⟩) HIN.out hyo).symm
            have CH := Lib.hid (fun W => hit1_c { u with ss := s.ss } (some ⟨b0, o0, none⟩) cap W (by have := HA.out.p.h; show u.p.h < 256; omega) (by have := HA.out.s1; show u.s1 < 65536; omega))
            obtain ⟨hq, hhq⟩ : ∃ hq, hq = u.p.h - 10 := ⟨_, rfl⟩
            obtain ⟨sc, hsc⟩ : ∃ sc, sc = if u.s1 < 65535 then u.s1 + 1 else u.s1 := ⟨_, rfl⟩
            replace hu2 : { u with p := { u.p with h := hq }, s1 := sc } = flew s (k + 1) := by rw [← hu2, hhq, hsc]; rfl
            replace CH : Hid (∀ W, Calls Tryd.prog 67 #[.agg (stc { u with ss := s.ss } (some ⟨b0, o0, none⟩) cap), .int .u8 1] W fun E w' => E = .returned (.agg (stc { u with p := { u.p with h := hq }, s1 := sc, ss := s.ss } (some ⟨b0, o0, none⟩) cap)) ∧ Below W.heap.size W w') := fun W => by have := CH.out W; rw [hhq, hsc]; exact this
            have HU2 := Lib.hid hu2
            clear hu2 hhq hsc
            have lr46 := Hr44.ldA ty_state 0 rfl 0 (vs := (stc { u with ss := s.ss } (some ⟨b0, o0, none⟩) cap)) rfl (Nat.le_of_ble_eq_true rfl)
            have lr47 := Hr44.ldO ty_u8 3 rfl 4 (v := .int .u8 1) rfl
            go_wp2_with fail
            refine (CH.out _).mono ?_
            rintro E w7 ⟨rfl, hb7⟩
            clear CH
            clear lr47 lr46
            have Hr48 := Hr44.to hb7
            have Sr49 := Lib.hid (Sr45.out.to hb7)
            clear Sr45
            obtain ⟨wr51, sr52, Hr53, qr50⟩ := Hr48.stA ty_state 0 rfl 0 (stc { u with p := { u.p with h := hq }, s1 := sc, ss := s.ss } (some ⟨b0, o0, none⟩) cap) (cs' := stc { u with p := { u.p with h := hq }, s1 := sc, ss := s.ss } (some ⟨b0, o0, none⟩) cap) rfl (L' := [(w.heap.size, 30, stc { u with p := { u.p with h := hq }, s1 := sc, ss := s.ss } (some ⟨b0, o0, none⟩) cap), (w.heap.size + 1, 30, zsc), (g2, 99, #[.int .i32 0, .int .i32 0, .int .i32 65536, .int .i32 32768]), (g3, 66, #[.int .i32 (xa + xc), .int .i32 (xb + xd), .int .i32 xc, .int .i32 xd, .int .u8 1, .int .u8 (e : Int)]), (g4, 99, #[.int .i32 (xa + xc), .int .i32 (xb + xd), .int .i32 512, .int .i32 512])]) rfl (Nat.le_of_ble_eq_true rfl) rfl rfl
            have Sr54 := Lib.hid (Sr49.out.turn (by simp) qr50)
            clear qr50 Sr49
            go_wp2
            go_roundw
            case rel => exact ⟨k + 1, m, fcap, fo, { u with p := { u.p with h := hq }, s1 := sc }, by omega, by go_num, rfl, HU2.out, Hr53.drop 3 rfl, Sr54.out.less (by simp)⟩
            case measure => simp [intOf]; omega
    · have hk2 : k = s.ss.length := by omega
      subst hk2
      have HU2 := Lib.hid (HU.out.trans (flew_all s))
      have HMU := Lib.hid HSH.out.len
      obtain ⟨we2, se3, He4, qe1⟩ := HR.out.stO ty_shots 0 rfl 16 (.slice fo m fcap) (cs' := #[.int .u64 (u.fr : Int), .int .u64 (u.sd : Int), .int .i32 u.p.x, .int .i32 u.p.y, .int .i32 u.p.vx, .int .i32 u.p.vy, .int .u8 (u.p.h : Int), .int .u8 (u.p.c : Int), .int .u8 (u.p.f : Int), .int .i32 u.q.x, .int .i32 u.q.y, .int .i32 u.q.vx, .int .i32 u.q.vy, .int .u8 (u.q.h : Int), .int .u8 (u.q.c : Int), .int .u8 (u.q.f : Int), .slice fo m fcap, .int .u16 (u.s0 : Int), .int .u16 (u.s1 : Int)]) rfl (L' := [(w.heap.size, 30, #[.int .u64 (u.fr : Int), .int .u64 (u.sd : Int), .int .i32 u.p.x, .int .i32 u.p.y, .int .i32 u.p.vx, .int .i32 u.p.vy, .int .u8 (u.p.h : Int), .int .u8 (u.p.c : Int), .int .u8 (u.p.f : Int), .int .i32 u.q.x, .int .i32 u.q.y, .int .i32 u.q.vx, .int .i32 u.q.vy, .int .u8 (u.q.h : Int), .int .u8 (u.q.c : Int), .int .u8 (u.q.f : Int), .slice fo m fcap, .int .u16 (u.s0 : Int), .int .u16 (u.s1 : Int)]), (w.heap.size + 1, 30, zsc), (g2, 99, #[.int .i32 0, .int .i32 0, .int .i32 65536, .int .i32 32768])]) rfl (Nat.le_of_ble_eq_true rfl) rfl rfl
      have Se5 := Lib.hid (HSH.out.turn (by simp) qe1)
      clear qe1 HSH
      have le6 := He4.ldA ty_state 0 rfl 0 (vs := (#[.int .u64 (u.fr : Int), .int .u64 (u.sd : Int), .int .i32 u.p.x, .int .i32 u.p.y, .int .i32 u.p.vx, .int .i32 u.p.vy, .int .u8 (u.p.h : Int), .int .u8 (u.p.c : Int), .int .u8 (u.p.f : Int), .int .i32 u.q.x, .int .i32 u.q.y, .int .i32 u.q.vx, .int .i32 u.q.vy, .int .u8 (u.q.h : Int), .int .u8 (u.q.c : Int), .int .u8 (u.q.f : Int), .slice fo m fcap, .int .u16 (u.s0 : Int), .int .u16 (u.s1 : Int)])) rfl (Nat.le_of_ble_eq_true rfl)
      obtain ⟨we8, se9, He10, qe7⟩ := He4.stA ty_state 1 rfl 0 (#[.int .u64 (u.fr : Int), .int .u64 (u.sd : Int), .int .i32 u.p.x, .int .i32 u.p.y, .int .i32 u.p.vx, .int .i32 u.p.vy, .int .u8 (u.p.h : Int), .int .u8 (u.p.c : Int), .int .u8 (u.p.f : Int), .int .i32 u.q.x, .int .i32 u.q.y, .int .i32 u.q.vx, .int .i32 u.q.vy, .int .u8 (u.q.h : Int), .int .u8 (u.q.c : Int), .int .u8 (u.q.f : Int), .slice fo m fcap, .int .u16 (u.s0 : Int), .int .u16 (u.s1 : Int)]) (cs' := #[.int .u64 (u.fr : Int), .int .u64 (u.sd : Int), .int .i32 u.p.x, .int .i32 u.p.y, .int .i32 u.p.vx, .int .i32 u.p.vy, .int .u8 (u.p.h : Int), .int .u8 (u.p.c : Int), .int .u8 (u.p.f : Int), .int .i32 u.q.x, .int .i32 u.q.y, .int .i32 u.q.vx, .int .i32 u.q.vy, .int .u8 (u.q.h : Int), .int .u8 (u.q.c : Int), .int .u8 (u.q.f : Int), .slice fo m fcap, .int .u16 (u.s0 : Int), .int .u16 (u.s1 : Int)]) rfl (L' := [(w.heap.size, 30, #[.int .u64 (u.fr : Int), .int .u64 (u.sd : Int), .int .i32 u.p.x, .int .i32 u.p.y, .int .i32 u.p.vx, .int .i32 u.p.vy, .int .u8 (u.p.h : Int), .int .u8 (u.p.c : Int), .int .u8 (u.p.f : Int), .int .i32 u.q.x, .int .i32 u.q.y, .int .i32 u.q.vx, .int .i32 u.q.vy, .int .u8 (u.q.h : Int), .int .u8 (u.q.c : Int), .int .u8 (u.q.f : Int), .slice fo m fcap, .int .u16 (u.s0 : Int), .int .u16 (u.s1 : Int)]), (w.heap.size + 1, 30, #[.int .u64 (u.fr : Int), .int .u64 (u.sd : Int), .int .i32 u.p.x, .int .i32 u.p.y, .int .i32 u.p.vx, .int .i32 u.p.vy, .int .u8 (u.p.h : Int), .int .u8 (u.p.c : Int), .int .u8 (u.p.f : Int), .int .i32 u.q.x, .int .i32 u.q.y, .int .i32 u.q.vx, .int .i32 u.q.vy, .int .u8 (u.q.h : Int), .int .u8 (u.q.c : Int), .int .u8 (u.q.f : Int), .slice fo m fcap, .int .u16 (u.s0 : Int), .int .u16 (u.s1 : Int)]), (g2, 99, #[.int .i32 0, .int .i32 0, .int .i32 65536, .int .i32 32768])]) rfl (Nat.le_of_ble_eq_true rfl) rfl rfl
      have Se11 := Lib.hid (Se5.out.turn (by simp) qe7)
      clear qe7 Se5
      go_wp2
      refine bodyPost_ret (v := .agg #[.int .u64 (u.fr : Int), .int .u64 (u.sd : Int), .int .i32 u.p.x, .int .i32 u.p.y, .int .i32 u.p.vx, .int .i32 u.p.vy, .int .u8 (u.p.h : Int), .int .u8 (u.p.c : Int), .int .u8 (u.p.f : Int), .int .i32 u.q.x, .int .i32 u.q.y, .int .i32 u.q.vx, .int .i32 u.q.vy, .int .u8 (u.q.h : Int), .int .u8 (u.q.c : Int), .int .u8 (u.q.f : Int), .slice fo m fcap, .int .u16 (u.s0 : Int), .int .u16 (u.s1 : Int)]) (ret_struct Tryd.underlying30 ty_state _ 2 _ Tryd.results45 (He10.get 1 rfl) rfl rfl) rfl ?_
      rw [← HU2.out] at HQ
      refine HQ.out _ _ ⟨fo, fcap, ?_, ?_, He10.be⟩
      · show _ = Ending.returned (Value.agg (stc _ _ _)); unfold stc; rw [HMU.out]
      · rw [HMU.out]; exact Se11.out.less (by simp)
end Go.Proofs.YtgmbdadkahcpcaaDoor
