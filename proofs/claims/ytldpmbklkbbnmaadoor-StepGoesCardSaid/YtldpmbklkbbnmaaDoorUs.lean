/- StepGoes: the walk. -/
import Derived.Test.YtldpmbklkbbnmaaDoorUr
namespace Go.Proofs.YtldpmbklkbbnmaaDoor
open Go.RowKit
set_option linter.unusedVariables false
set_option linter.unusedSimpArgs false
set_option maxRecDepth 20000

/-- Pairs can be read at this address. -/
def Prs (w : World) (lo : Option Addr) (l : List (Nat × Nat)) : Prop :=
  ∀ k (h : k < l.length), (l[k]'h).1 < 256 ∧ (l[k]'h).2 < 256 ∧ ∃ b o, lo = some ⟨b, o, none⟩ ∧ w.cell? ⟨b, o + k * 2, none⟩ = some (.int .u8 ((l[k]'h).1 : Int)) ∧ w.cell? ⟨b, o + k * 2 + 1, none⟩ = some (.int .u8 ((l[k]'h).2 : Int))
theorem prs_ld {w w' : World} {b o : Nat} {l : List (Nat × Nat)} (h : Prs w (some ⟨b, o, none⟩) l) (hb : Below w.heap.size w w') (k : Nat) (hk : k < l.length) {i j : Nat} (hx : l[k]'hk = (i, j)) :
    (ldT 33 (.pointer (some ⟨b, o + k * 2, none⟩))).run Tryd.prog w' = .ok (.agg #[.int .u8 (i : Int), .int .u8 (j : Int)]) w' := by
  obtain ⟨_, _, b', o', e, h0, h1⟩ := h k hk
  obtain ⟨rfl, rfl⟩ : b = b' ∧ o = o' := by
    injection e with e
    injection e with e1 e2
    exact ⟨e1, e2⟩
  have hlt : b < w.heap.size := World.block_lt_of_cell? w _ h0
  rw [hx] at h0 h1
  refine run_ldC ty_pair [_, _] rfl (fun q v hv => ?_)
  match q, hv with
  | 0, hv => rw [Nat.add_zero]; exact (hb.cell (p := ⟨b, o + k * 2, none⟩) hlt).trans (h0.trans hv)
  | 1, hv => exact (hb.cell (p := ⟨b, o + k * 2 + 1, none⟩) hlt).trans (h1.trans hv)
theorem fit_start0' {n : Nat} (hn : n < 18446744073709551616) : (start n).fit ∧ (start n).ss.length ≤ 8 := ⟨fit_start hn, by show 0 ≤ 8; omega⟩
attribute [local go_sem ↓] ld_pair ld_player ld_state ld_shots st_state st_player
theorem rstart_c (n : Nat) (w : World) : Calls Tryd.prog 13 #[.int .u64 (n : Int)] w fun E w' => E = .returned (.agg (stc (start n) none 0)) ∧ Below w.heap.size w w' := by
  have H0 := Lib.hid (Loc.one w 30 zsc)
  go_enter Tryd.func13, Tryd.ntmps13
  go_upto_region 1 with fail
  generalize w.alloc (.cells zsc 30) = wa at *
  obtain ⟨g1, wa1, za4, sa2, Ha3, _⟩ := H0.out.newA ty_state zsc #[.int .u64 0, .int .u64 (n : Int), .int .i32 0, .int .i32 0, .int .i32 0, .int .i32 0, .int .u8 0, .int .u8 0, .int .u8 0, .int .i32 0, .int .i32 0, .int .i32 0, .int .i32 0, .int .u8 0, .int .u8 0, .int .u8 0, .slice none 0 0, .int .u16 0, .int .u16 0] rfl rfl rfl
  replace Ha3 : Loc _ _ _ [(w.heap.size, 30, zsc), (g1, 30, #[.int .u64 0, .int .u64 (n : Int), .int .i32 0, .int .i32 0, .int .i32 0, .int .i32 0, .int .u8 0, .int .u8 0, .int .u8 0, .int .i32 0, .int .i32 0, .int .i32 0, .int .i32 0, .int .u8 0, .int .u8 0, .int .u8 0, .slice none 0 0, .int .u16 0, .int .u16 0])] := Ha3
  obtain ⟨wa5, sa6, Ha7, _⟩ := Ha3.stA ty_player 1 rfl 2 #[.int .i32 8192, .int .i32 14336, .int .i32 0, .int .i32 0, .int .u8 100, .int .u8 0, .int .u8 0] (cs' := #[.int .u64 0, .int .u64 (n : Int), .int .i32 8192, .int .i32 14336, .int .i32 0, .int .i32 0, .int .u8 100, .int .u8 0, .int .u8 0, .int .i32 0, .int .i32 0, .int .i32 0, .int .i32 0, .int .u8 0, .int .u8 0, .int .u8 0, .slice none 0 0, .int .u16 0, .int .u16 0]) rfl (L' := [(w.heap.size, 30, zsc), (g1, 30, #[.int .u64 0, .int .u64 (n : Int), .int .i32 8192, .int .i32 14336, .int .i32 0, .int .i32 0, .int .u8 100, .int .u8 0, .int .u8 0, .int .i32 0, .int .i32 0, .int .i32 0, .int .i32 0, .int .u8 0, .int .u8 0, .int .u8 0, .slice none 0 0, .int .u16 0, .int .u16 0])]) rfl (Nat.le_of_ble_eq_true rfl) rfl rfl
  obtain ⟨wa8, sa9, Ha10, _⟩ := Ha7.stA ty_player 1 rfl 9 #[.int .i32 53248, .int .i32 14336, .int .i32 0, .int .i32 0, .int .u8 100, .int .u8 0, .int .u8 1] (cs' := #[.int .u64 0, .int .u64 (n : Int), .int .i32 8192, .int .i32 14336, .int .i32 0, .int .i32 0, .int .u8 100, .int .u8 0, .int .u8 0, .int .i32 53248, .int .i32 14336, .int .i32 0, .int .i32 0, .int .u8 100, .int .u8 0, .int .u8 1, .slice none 0 0, .int .u16 0, .int .u16 0]) rfl (L' := [(w.heap.size, 30, zsc), (g1, 30, #[.int .u64 0, .int .u64 (n : Int), .int .i32 8192, .int .i32 14336, .int .i32 0, .int .i32 0, .int .u8 100, .int .u8 0, .int .u8 0, .int .i32 53248, .int .i32 14336, .int .i32 0, .int .i32 0, .int .u8 100, .int .u8 0, .int .u8 1, .slice none 0 0, .int .u16 0, .int .u16 0])]) rfl (Nat.le_of_ble_eq_true rfl) rfl rfl
  have la11 := Ha10.ldA ty_state 1 rfl 0 (vs := (#[.int .u64 0, .int .u64 (n : Int), .int .i32 8192, .int .i32 14336, .int .i32 0, .int .i32 0, .int .u8 100, .int .u8 0, .int .u8 0, .int .i32 53248, .int .i32 14336, .int .i32 0, .int .i32 0, .int .u8 100, .int .u8 0, .int .u8 1, .slice none 0 0, .int .u16 0, .int .u16 0])) rfl (Nat.le_of_ble_eq_true rfl)
  obtain ⟨wa12, sa13, Ha14, _⟩ := Ha10.stA ty_state 0 rfl 0 (#[.int .u64 0, .int .u64 (n : Int), .int .i32 8192, .int .i32 14336, .int .i32 0, .int .i32 0, .int .u8 100, .int .u8 0, .int .u8 0, .int .i32 53248, .int .i32 14336, .int .i32 0, .int .i32 0, .int .u8 100, .int .u8 0, .int .u8 1, .slice none 0 0, .int .u16 0, .int .u16 0]) (cs' := #[.int .u64 0, .int .u64 (n : Int), .int .i32 8192, .int .i32 14336, .int .i32 0, .int .i32 0, .int .u8 100, .int .u8 0, .int .u8 0, .int .i32 53248, .int .i32 14336, .int .i32 0, .int .i32 0, .int .u8 100, .int .u8 0, .int .u8 1, .slice none 0 0, .int .u16 0, .int .u16 0]) rfl (L' := [(w.heap.size, 30, #[.int .u64 0, .int .u64 (n : Int), .int .i32 8192, .int .i32 14336, .int .i32 0, .int .i32 0, .int .u8 100, .int .u8 0, .int .u8 0, .int .i32 53248, .int .i32 14336, .int .i32 0, .int .i32 0, .int .u8 100, .int .u8 0, .int .u8 1, .slice none 0 0, .int .u16 0, .int .u16 0]), (g1, 30, #[.int .u64 0, .int .u64 (n : Int), .int .i32 8192, .int .i32 14336, .int .i32 0, .int .i32 0, .int .u8 100, .int .u8 0, .int .u8 0, .int .i32 53248, .int .i32 14336, .int .i32 0, .int .i32 0, .int .u8 100, .int .u8 0, .int .u8 1, .slice none 0 0, .int .u16 0, .int .u16 0])]) rfl (Nat.le_of_ble_eq_true rfl) rfl rfl
  go_wp2
  refine bodyPost_ret (v := .agg #[.int .u64 0, .int .u64 (n : Int), .int .i32 8192, .int .i32 14336, .int .i32 0, .int .i32 0, .int .u8 100, .int .u8 0, .int .u8 0, .int .i32 53248, .int .i32 14336, .int .i32 0, .int .i32 0, .int .u8 100, .int .u8 0, .int .u8 1, .slice none 0 0, .int .u16 0, .int .u16 0]) (ret_struct Tryd.underlying30 ty_state _ 2 _ Tryd.results13 (Ha14.get 0 rfl) rfl rfl) rfl ⟨rfl, Ha14.be⟩
set_option maxHeartbeats 4000000 in
theorem law_goes (seed : Nat) (l : List (Nat × Nat)) (lo : Option Addr) (cap : Nat) (w : World) (hs : seed < 18446744073709551616) (hP : Prs w lo l) (hl : l.length ≤ maxLen) (hL : Laid w) :
    Calls Tryd.prog 4 #[.int .u64 (seed : Int), .slice lo l.length cap] w fun E w' => E = .returned (.bool true) ∧ Below w.heap.size w w' := by
  have HP := Lib.hid hP
  have HL := Lib.hid hL
  have HS := Lib.hid (fit_start0' hs)
  have H0 := Lib.hid (Loc.nil (B := w.heap.size) (w := w) (Nat.le_refl _))
  clear hP hL hs
  go_enter Tryd.func4, Tryd.ntmps4
  by_cases h300 : 300 < l.length
  · have h300i : (300 : Int) < (l.length : Int) := by omega
    go_wp2_with fail
    refine (awake_c w HL.out).mono ?_
    rintro E w1 ⟨rfl, hb1⟩
    go_wp2
    go_ret
    exact ⟨rfl, hb1⟩
  · have h300i : ¬ (300 : Int) < (l.length : Int) := by omega
    go_wp2_with fail
    refine (rstart_c seed _).mono ?_
    rintro E w1 ⟨rfl, hb1⟩
    have Ha1 := H0.out.to hb1
    obtain ⟨g1, wa2, za5, sa3, Ha4, _⟩ := Ha1.newA ty_state zsc (stc (start seed) none 0) rfl rfl rfl
    replace Ha4 : Loc _ _ _ [(g1, 30, (stc (start seed) none 0))] := Ha4
    go_wp2_with fail
    refine (rstart_c seed _).mono ?_
    rintro E w2 ⟨rfl, hb2⟩
    clear za5 sa3
    have Ha6 := Ha4.to hb2
    obtain ⟨g2, wa7, za10, sa8, Ha9, _⟩ := Ha6.newA ty_state zsc (stc (start seed) none 0) rfl rfl rfl
    replace Ha9 : Loc _ _ _ [(g1, 30, (stc (start seed) none 0)), (g2, 30, (stc (start seed) none 0))] := Ha9
    go_upto_region 6 with fail
    go_loopw [7] (fun v wr => ∃ (k : Nat) (X : St) (ao1 ao2 : Option Addr) (cap1 cap2 : Nat), k ≤ l.length ∧ v = .int .i64 k ∧ Hid (X.fit ∧ X.ss.length ≤ 8) ∧ Hid (Loc w.heap.size w wr [(g1, 30, stc X ao1 cap1), (g2, 30, stc X ao2 cap2)]) ∧ Hid (Shr w.heap.size wr [g1, g2] ao1 X.ss.length cap1 X.ss) ∧ Hid (Shr w.heap.size wr [g1, g2] ao2 X.ss.length cap2 X.ss)) (fun v _ => l.length - (intOf v).toNat)
    case atStart => exact ⟨0, start seed, none, none, 0, 0, by omega, rfl, HS.out, Ha9, Shr.none _ _ _ (fun b hb => by simp only [List.mem_cons, List.not_mem_nil, or_false] at hb; rcases hb with rfl | rfl; exact (Ha9.get 0 rfl).lt; exact (Ha9.get 1 rfl).lt), Shr.none _ _ _ (fun b hb => by simp only [List.mem_cons, List.not_mem_nil, or_false] at hb; rcases hb with rfl | rfl; exact (Ha9.get 0 rfl).lt; exact (Ha9.get 1 rfl).lt)⟩
    case round =>
      clear za10 sa8 Ha9 hb1 hb2 H0
      obtain ⟨k, X, ao1, ao2, cap1, cap2, hk, rfl, HX, HR, HS1, HS2⟩ := hrel
      by_cases hlt : k < l.length
      · obtain ⟨b0, o0, rfl⟩ : ∃ b o, lo = some ⟨b, o, none⟩ := by
          obtain ⟨_, _, b, o, e, _⟩ := HP.out k hlt
          exact ⟨b, o, e⟩
        obtain ⟨⟨i, j⟩, hx⟩ : ∃ p, l[k]'hlt = p := ⟨_, rfl⟩
        have hij : i < 256 ∧ j < 256 := by have := HP.out k hlt; rw [hx] at this; exact ⟨this.1, this.2.1⟩
        have HIJ := Lib.hid hij
        have HXK := Lib.hid hx
        clear hx hij
        obtain ⟨T, hT⟩ : ∃ T, T = stp X i j := ⟨_, rfl⟩
        have HT := Lib.hid hT
        have HTF : Hid (T.fit ∧ T.ss.length ≤ 8) := by show _ ∧ _; rw [hT]; exact ⟨stp_fit HX.out.1 i j, stp_len HX.out.1 (Nat.le_refl _) HX.out.2 i j⟩
        clear hT
        go_upto_region 8 with fail
        have a1 := HR.out.onA ty_state 0 rfl 0 (vs := stc X ao1 cap1) rfl (Nat.le_of_ble_eq_true rfl)
        have a2 : ∀ W, G.On wr.heap.size wr W → (ldT 33 (.pointer (some ⟨b0, o0 + k * 2, none⟩))).run Tryd.prog W = .ok (.agg #[.int .u8 (i : Int), .int .u8 (j : Int)]) W := fun W hW => prs_ld HP.out (HR.out.to hW).be k hlt HXK.out
        have o0' := G.On.drew wr.heap.size wr
        refine wp_region_till (S := fun w' => G.On wr.heap.size wr w') (by kernel_rfl) ?_
        refine wpTill_take (i := 0) (v := ?vg00) rfl (by kernel_rfl) (fun _ _ _ h => h) (Or.inl ⟨by rfl, ?hyg00⟩) o0' ?restg00
        case hyg00 => (intro W hW; (try dsimp only at hW); go_simp; try with_reducible rfl)
        simp only [Act.put, List.setIfInBounds_toArray, List.set_cons_zero, List.set_cons_succ]
        refine wpTill_take (i := 1) (v := ?vg01) rfl (by kernel_rfl) (fun _ _ _ h => h) (Or.inl ⟨by rfl, ?hyg01⟩) o0' ?restg01
        case hyg01 => (intro W hW; (try dsimp only at hW); go_simp; try with_reducible rfl)
        simp only [Act.put, List.setIfInBounds_toArray, List.set_cons_zero, List.set_cons_succ]
        refine wpTill_take (i := 2) (v := ?vg02) rfl (by kernel_rfl) (fun _ _ _ h => h) (Or.inl ⟨by rfl, ?hyg02⟩) o0' ?restg02
        case hyg02 => (intro W hW; (try dsimp only at hW); go_simp; try with_reducible rfl)
        simp only [Act.put, List.setIfInBounds_toArray, List.set_cons_zero, List.set_cons_succ]
        refine wpTill_take (i := 3) (v := ?vg03) rfl (by kernel_rfl) (fun _ _ _ h => h) (Or.inl ⟨by rfl, ?hyg03⟩) o0' ?restg03
        case hyg03 => (intro W hW; (try dsimp only at hW); go_simp; try with_reducible rfl)
        simp only [Act.put, List.setIfInBounds_toArray, List.set_cons_zero, List.set_cons_succ]
        refine wpTill_take (i := 4) (v := ?vg04) rfl (by kernel_rfl) (fun _ _ _ h => h) (Or.inl ⟨by rfl, ?hyg04⟩) o0' ?restg04
        case hyg04 => (intro W hW; (try dsimp only at hW); go_simp; try with_reducible rfl)
        simp only [Act.put, List.setIfInBounds_toArray, List.set_cons_zero, List.set_cons_succ]
        refine wpTill_run (i := 5) (by kernel_rfl) rfl o0' (fun K hK => ?_)
        go_simp
        go_at_call 10
        refine (step_c X ao1 cap1 i j wr.drew ((HS1.out.to (Below.refl _ _).drew).shs HX.out.1.2.2.2.2.1) HS1.out.nil (by have := HX.out.2; omega) HX.out.1 HIJ.out.1 HIJ.out.2 (HL.out.to HR.out.drew.be).t (HL.out.to HR.out.drew.be).f).mono ?_
        rw [← HT.out]
        rintro E w4 ⟨ao4, cap4, rfl, hR4, hb4⟩
        have o4 : G.On wr.heap.size wr w4 := Below.trans o0' hb4
        have HN1' : Hid (Shr w.heap.size w4 [g1, g2] ao4 T.ss.length cap4 T.ss) := (hR4.apart (by intro b hb; have h1 := (HR.out.get 0 rfl).lt; have h2 := (HR.out.get 1 rfl).lt; simp only [List.mem_cons, List.not_mem_nil, or_false] at hb; show b < wr.heap.size; rcases hb with rfl | rfl <;> assumption) hb4.size).low HR.out.size
        have HO1' := Lib.hid (HS2.out.to o4)
        clear hR4 hb4
        refine hK _ _ ?_
        clear hK K
        refine wpTill_run (i := 6) (by kernel_rfl) rfl o4 (fun K hK => ?_)
        have Hr1 := HR.out.to o4
        obtain ⟨wr2, sr3, Hr4, hq0⟩ := Hr1.stA ty_state 0 rfl 0 (stc T ao4 cap4) (cs' := stc T ao4 cap4) rfl (L' := [(g1, 30, stc T ao4 cap4), (g2, 30, #[.int .u64 (X.fr : Int), .int .u64 (X.sd : Int), .int .i32 X.p.x, .int .i32 X.p.y, .int .i32 X.p.vx, .int .i32 X.p.vy, .int .u8 (X.p.h : Int), .int .u8 (X.p.c : Int), .int .u8 (X.p.f : Int), .int .i32 X.q.x, .int .i32 X.q.y, .int .i32 X.q.vx, .int .i32 X.q.vy, .int .u8 (X.q.h : Int), .int .u8 (X.q.c : Int), .int .u8 (X.q.f : Int), .slice ao2 X.ss.length cap2, .int .u16 (X.s0 : Int), .int .u16 (X.s1 : Int)])]) rfl (Nat.le_of_ble_eq_true rfl) rfl rfl
        go_simp
        refine hK _ _ ?_
        clear hK K
        refine wpTill_done (by kernel_rfl) ?_
        have HN1 := Lib.hid (HN1'.out.turn (by simp) hq0)
        have HS2b := Lib.hid (HO1'.out.turn (by simp) hq0)
        clear a1 a2 o0' o4 HN1' HO1' hq0 sr3
        go_upto_region 9 with fail
        have a1 := Hr4.onA ty_state 1 rfl 0 (vs := stc X ao2 cap2) rfl (Nat.le_of_ble_eq_true rfl)
        have a2 : ∀ W, G.On wr2.heap.size wr2 W → (ldT 33 (.pointer (some ⟨b0, o0 + k * 2, none⟩))).run Tryd.prog W = .ok (.agg #[.int .u8 (i : Int), .int .u8 (j : Int)]) W := fun W hW => prs_ld HP.out (Hr4.to hW).be k hlt HXK.out
        have o0' := G.On.drew wr2.heap.size wr2
        refine wp_region_till (S := fun w' => G.On wr2.heap.size wr2 w') (by kernel_rfl) ?_
        refine wpTill_take (i := 0) (v := ?vg10) rfl (by kernel_rfl) (fun _ _ _ h => h) (Or.inl ⟨by rfl, ?hyg10⟩) o0' ?restg10
        case hyg10 => (intro W hW; (try dsimp only at hW); go_simp; try with_reducible rfl)
        simp only [Act.put, List.setIfInBounds_toArray, List.set_cons_zero, List.set_cons_succ]
        refine wpTill_take (i := 1) (v := ?vg11) rfl (by kernel_rfl) (fun _ _ _ h => h) (Or.inl ⟨by rfl, ?hyg11⟩) o0' ?restg11
        case hyg11 => (intro W hW; (try dsimp only at hW); go_simp; try with_reducible rfl)
        simp only [Act.put, List.setIfInBounds_toArray, List.set_cons_zero, List.set_cons_succ]
        refine wpTill_take (i := 2) (v := ?vg12) rfl (by kernel_rfl) (fun _ _ _ h => h) (Or.inl ⟨by rfl, ?hyg12⟩) o0' ?restg12
        case hyg12 => (intro W hW; (try dsimp only at hW); go_simp; try with_reducible rfl)
        simp only [Act.put, List.setIfInBounds_toArray, List.set_cons_zero, List.set_cons_succ]
        refine wpTill_take (i := 3) (v := ?vg13) rfl (by kernel_rfl) (fun _ _ _ h => h) (Or.inl ⟨by rfl, ?hyg13⟩) o0' ?restg13
        case hyg13 => (intro W hW; (try dsimp only at hW); go_simp; try with_reducible rfl)
        simp only [Act.put, List.setIfInBounds_toArray, List.set_cons_zero, List.set_cons_succ]
        refine wpTill_take (i := 4) (v := ?vg14) rfl (by kernel_rfl) (fun _ _ _ h => h) (Or.inl ⟨by rfl, ?hyg14⟩) o0' ?restg14
        case hyg14 => (intro W hW; (try dsimp only at hW); go_simp; try with_reducible rfl)
        simp only [Act.put, List.setIfInBounds_toArray, List.set_cons_zero, List.set_cons_succ]
        refine wpTill_run (i := 5) (by kernel_rfl) rfl o0' (fun K hK => ?_)
        go_simp
        go_at_call 12
        refine (refStep_c X ao2 cap2 i j wr2.drew ((HS2b.out.to (Below.refl _ _).drew).shs HX.out.1.2.2.2.2.1) HS2b.out.nil (by have := HX.out.2; omega) HX.out.1 HIJ.out.1 HIJ.out.2).mono ?_
        rw [← HT.out]
        rintro E w5 ⟨ao5, cap5, rfl, hR5, hb5⟩
        have o5 : G.On wr2.heap.size wr2 w5 := Below.trans o0' hb5
        have HN2' : Hid (Shr w.heap.size w5 [g1, g2] ao5 T.ss.length cap5 T.ss) := (hR5.apart (by intro b hb; have h1 := (Hr4.get 0 rfl).lt; have h2 := (Hr4.get 1 rfl).lt; simp only [List.mem_cons, List.not_mem_nil, or_false] at hb; show b < wr2.heap.size; rcases hb with rfl | rfl <;> assumption) hb5.size).low Hr4.size
        have HO2' := Lib.hid (HN1.out.to o5)
        clear hR5 hb5
        refine hK _ _ ?_
        clear hK K
        refine wpTill_run (i := 6) (by kernel_rfl) rfl o5 (fun K hK => ?_)
        have Hr5 := Hr4.to o5
        obtain ⟨wr6, sr7, Hr8, hq1⟩ := Hr5.stA ty_state 1 rfl 0 (stc T ao5 cap5) (cs' := stc T ao5 cap5) rfl (L' := [(g1, 30, #[.int .u64 (T.fr : Int), .int .u64 (T.sd : Int), .int .i32 T.p.x, .int .i32 T.p.y, .int .i32 T.p.vx, .int .i32 T.p.vy, .int .u8 (T.p.h : Int), .int .u8 (T.p.c : Int), .int .u8 (T.p.f : Int), .int .i32 T.q.x, .int .i32 T.q.y, .int .i32 T.q.vx, .int .i32 T.q.vy, .int .u8 (T.q.h : Int), .int .u8 (T.q.c : Int), .int .u8 (T.q.f : Int), .slice ao4 T.ss.length cap4, .int .u16 (T.s0 : Int), .int .u16 (T.s1 : Int)]), (g2, 30, stc T ao5 cap5)]) rfl (Nat.le_of_ble_eq_true rfl) rfl rfl
        go_simp
        refine hK _ _ ?_
        clear hK K
        refine wpTill_done (by kernel_rfl) ?_
        have HN2 := Lib.hid (HN2'.out.turn (by simp) hq1)
        have HN1b := Lib.hid (HO2'.out.turn (by simp) hq1)
        clear a1 a2 o0' o5 HN2' HO2' hq1 sr7
        have lr9 := Hr8.ldA ty_state 0 rfl 0 (vs := (stc T ao4 cap4)) rfl (Nat.le_of_ble_eq_true rfl)
        have lr10 := Hr8.ldA ty_state 1 rfl 0 (vs := (stc T ao5 cap5)) rfl (Nat.le_of_ble_eq_true rfl)
        go_wp2_with fail
        refine (refSame_self T ao4 ao5 cap4 cap5 wr6 (HN1b.out.shs HTF.out.1.2.2.2.2.1) (HN2.out.shs HTF.out.1.2.2.2.2.1) (by have := HTF.out.2; unfold maxLen; omega)).mono ?_
        rintro E w9 ⟨rfl, hb9⟩
        have HB9 := Lib.hid (below_of_grown hb9)
        clear hb9
        have Hr11 := Hr8.to HB9.out
        go_wp2
        go_roundw
        case rel => exact ⟨k + 1, T, ao4, ao5, cap4, cap5, by omega, by go_num, HTF.out, Hr11, HN1b.out.to HB9.out, HN2.out.to HB9.out⟩
        case measure => simp [intOf]; omega
      · go_wp2_with fail
        refine (awake_c wr (HL.out.to HR.out.be)).mono ?_
        rintro E w9 ⟨rfl, hb9⟩
        go_wp2
        go_ret
        exact ⟨rfl, (HR.out.to hb9).be⟩
end Go.Proofs.YtldpmbklkbbnmaaDoor
