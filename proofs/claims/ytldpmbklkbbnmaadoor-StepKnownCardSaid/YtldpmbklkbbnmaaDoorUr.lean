/- StepMakes: the walk. -/
import Derived.Test.YtldpmbklkbbnmaaDoorUq
import Derived.Test.YtldpmbklkbbnmaaDoorAe
namespace Go.Proofs.YtldpmbklkbbnmaaDoor
open Go.RowKit
set_option linter.unusedVariables false
set_option linter.unusedSimpArgs false
set_option maxRecDepth 20000

theorem stp_fit {s : St} (hf : s.fit) (i j : Nat) : (stp s i j).fit := by
  unfold stp
  split
  · rename_i h; exact (frame_right src_ok h.1 hf _ _).2.1
  · exact hf
theorem stp_len {s : St} (hf : s.fit) {n : Nat} (h8 : 8 ≤ n) (hl : s.ss.length ≤ n) (i j : Nat) : (stp s i j).ss.length ≤ n := by
  unfold stp
  split
  · rename_i h
    have := (st_ok_of (frame_right src_ok h.1 hf (inp i) (inp j)).1 (frame_right src_ok h.1 hf (inp i) (inp j)).2.1).1.n
    omega
  · exact hl
/-- A row of one's own can be written. -/
def Live (w : World) (B : Nat) (bs : List Nat) (ao : Option Addr) (n : Nat) : Prop := 0 < n → ∃ g cs, ao = some ⟨g, 0, none⟩ ∧ B ≤ g ∧ Cells w g 39 cs ∧ n * 6 ≤ cs.size ∧ ∀ b ∈ bs, b ≠ g
theorem live_of {B : Nat} {w : World} {bs : List Nat} {ao : Option Addr} {n cap : Nat} {l : List Sh} (h : Shr B w bs ao n cap l) : Live w B bs ao n := fun hn => by
  rcases h.own.2 with ⟨_, h0⟩ | ⟨g, c, cur, e, hb, hg, hc, _, hz, _⟩
  · omega
  · injection e with e1 e2 e3
    subst e1
    refine ⟨g, cur, rfl, hb, hg, by rw [hz]; exact Nat.mul_le_mul_right 6 hc, fun b hbb e => ?_⟩
    exact h.far b hbb (by rw [e]; rfl)
theorem live_st {w : World} {g k : Nat} {cs : Array Value} (hc : Cells w g 39 cs) (hk : k * 6 + 6 ≤ cs.size) (vs : Array Value) (hv : vs.size = 6) (h1 : vs.toList.all Value.oneCell' = true) :
    ∃ w', (stT 39 (.pointer (some ⟨g, k * 6, none⟩)) (.agg vs)).run Tryd.prog w = .ok () w' ∧ w.grownBy w' (some g) ∧ ∃ cs', Cells w' g 39 cs' ∧ cs'.size = cs.size :=
  ⟨_, run_stA ty_shot hc (k * 6) hk hv h1, grown_setRow _ _ _, _, setRow_heap _ _ _ _ _ _ hc, by simp; omega⟩
attribute [local go_sem ↓] ld_pair ld_state ld_shots st_state st_shot
set_option maxHeartbeats 4000000 in
theorem law_makes (s : St) (ao : Option Addr) (cap i j : Nat) (w : World) (hS : Shs w ao s.ss) (hn : ao = none → cap = 0) (hl : s.ss.length ≤ maxLen) (hf : s.fit) (hi : i < 256) (hj : j < 256) (hL : Laid w) :
    Calls Tryd.prog 3 #[sv s ao cap, .agg #[.int .u8 (i : Int), .int .u8 (j : Int)]] w fun E w' => E = .returned (.bool true) ∧ Below w.heap.size w w' := by
  have HS := Lib.hid hS
  have HN := Lib.hid hn
  have HFT := Lib.hid hf
  have HL := Lib.hid hL
  have HIJ := Lib.hid (show i < 256 ∧ j < 256 from ⟨hi, hj⟩)
  have H0 := Lib.hid (Loc.two w 30 33 (stc s ao cap) #[.int .u8 (i : Int), .int .u8 (j : Int)])
  have HML := Lib.hid hl
  clear hS hn hf hi hj hL hl
  go_enter Tryd.func3, Tryd.ntmps3
  go_upto_region 1 with fail
  generalize (w.alloc (.cells (stc s ao cap) 30)).alloc (.cells #[.int .u8 (i : Int), .int .u8 (j : Int)] 33) = wa at *
  have la1 := H0.out.ldO ty_shots 0 rfl 16 (v := .slice ao s.ss.length cap) rfl
  by_cases h100 : 100 < s.ss.length
  · have h100i : (100 : Int) < (s.ss.length : Int) := by omega
    go_wp2_with fail
    refine (awake_c wa (HL.out.to H0.out.be)).mono ?_
    rintro E w1 ⟨rfl, hb1⟩
    go_wp2
    go_ret
    exact ⟨rfl, (H0.out.to hb1).be⟩
  · have h100i : ¬ (100 : Int) < (s.ss.length : Int) := by omega
    go_upto_region 3 with fail
    clear la1
    have la2 := H0.out.ldA ty_state 0 rfl 0 (vs := (stc s ao cap)) rfl (Nat.le_of_ble_eq_true rfl)
    go_wp2_with fail
    refine (refCopy_c s ao cap wa (Shs_grown HS.out (grown_of_below (r := none) H0.out.be) (by simp)) HN.out (by omega)).mono ?_
    rintro E w1 ⟨ao1, cap1, rfl, hown, hn1, hg1⟩
    clear la2
    have HR1 := Lib.hid (shr_of (bs := []) hown rfl hn1 (by simp) hg1.size)
    have hb1 := below_of_grown hg1
    clear hown hn1
    have Ha3 := H0.out.to hb1
    obtain ⟨g3, wa4, za7, sa5, Ha6, qa8⟩ := Ha3.newA ty_state zsc (stc s ao1 cap1) rfl rfl rfl
    replace Ha6 : Loc _ _ _ [(w.heap.size, 30, #[.int .u64 (s.fr : Int), .int .u64 (s.sd : Int), .int .i32 s.p.x, .int .i32 s.p.y, .int .i32 s.p.vx, .int .i32 s.p.vy, .int .u8 (s.p.h : Int), .int .u8 (s.p.c : Int), .int .u8 (s.p.f : Int), .int .i32 s.q.x, .int .i32 s.q.y, .int .i32 s.q.vx, .int .i32 s.q.vy, .int .u8 (s.q.h : Int), .int .u8 (s.q.c : Int), .int .u8 (s.q.f : Int), .slice ao s.ss.length cap, .int .u16 (s.s0 : Int), .int .u16 (s.s1 : Int)]), (w.heap.size + 1, 33, #[.int .u8 (i : Int), .int .u8 (j : Int)]), (g3, 30, #[.int .u64 (s.fr : Int), .int .u64 (s.sd : Int), .int .i32 s.p.x, .int .i32 s.p.y, .int .i32 s.p.vx, .int .i32 s.p.vy, .int .u8 (s.p.h : Int), .int .u8 (s.p.c : Int), .int .u8 (s.p.f : Int), .int .i32 s.q.x, .int .i32 s.q.y, .int .i32 s.q.vx, .int .i32 s.q.vy, .int .u8 (s.q.h : Int), .int .u8 (s.q.c : Int), .int .u8 (s.q.f : Int), .slice ao1 s.ss.length cap1, .int .u16 (s.s0 : Int), .int .u16 (s.s1 : Int)])] := Ha6
    have Sa9 := Lib.hid (HR1.out.fresh qa8 za7 (Ha6.get 2 rfl).lt)
    clear qa8 HR1
    have la10 := Ha6.ldA ty_state 2 rfl 0 (vs := (stc s ao1 cap1)) rfl (Nat.le_of_ble_eq_true rfl)
    have la11 := Ha6.ldA ty_pair 1 rfl 0 (vs := #[.int .u8 (i : Int), .int .u8 (j : Int)]) rfl (Nat.le_of_ble_eq_true rfl)
    have HLT : Hid (w.heap.size < wa4.heap.size ∧ w.heap.size + 1 < wa4.heap.size ∧ g3 < wa4.heap.size) := ⟨(Ha6.get 0 rfl).lt, (Ha6.get 1 rfl).lt, (Ha6.get 2 rfl).lt⟩
    have HS1 : Hid (Shs wa4 ao1 s.ss) := Sa9.out.shs HFT.out.2.2.2.2.1
    obtain ⟨T, hT⟩ : ∃ T, T = stp s i j := ⟨_, rfl⟩
    have HTF : Hid (T.fit ∧ T.ss.length ≤ maxLen) := by show _ ∧ _; rw [hT]; exact ⟨stp_fit HFT.out i j, stp_len HFT.out (by unfold maxLen; decide) HML.out i j⟩
    have CS := Lib.hid (step_c s ao1 cap1 i j wa4 HS1.out Sa9.out.nil (by omega) HFT.out HIJ.out.1 HIJ.out.2 (HL.out.to Ha6.be).t (HL.out.to Ha6.be).f)
    rw [← hT] at CS
    have HTT := Lib.hid hT
    clear hT
    go_wp2_with fail
    refine CS.out.mono ?_
    rintro E w5 ⟨ao2, cap2, rfl, hR5, hb5⟩
    clear CS
    clear la11 la10 za7 sa5
    have Ha12 := Ha6.to hb5
    have HR5 := Lib.hid hR5
    have HB5 := Lib.hid hb5
    clear hR5 hb5
    obtain ⟨g4, wa13, za16, sa14, Ha15, qa17⟩ := Ha12.newA ty_state zsc (stc T ao2 cap2) rfl rfl rfl
    replace Ha15 : Loc _ _ _ [(w.heap.size, 30, #[.int .u64 (s.fr : Int), .int .u64 (s.sd : Int), .int .i32 s.p.x, .int .i32 s.p.y, .int .i32 s.p.vx, .int .i32 s.p.vy, .int .u8 (s.p.h : Int), .int .u8 (s.p.c : Int), .int .u8 (s.p.f : Int), .int .i32 s.q.x, .int .i32 s.q.y, .int .i32 s.q.vx, .int .i32 s.q.vy, .int .u8 (s.q.h : Int), .int .u8 (s.q.c : Int), .int .u8 (s.q.f : Int), .slice ao s.ss.length cap, .int .u16 (s.s0 : Int), .int .u16 (s.s1 : Int)]), (w.heap.size + 1, 33, #[.int .u8 (i : Int), .int .u8 (j : Int)]), (g3, 30, #[.int .u64 (s.fr : Int), .int .u64 (s.sd : Int), .int .i32 s.p.x, .int .i32 s.p.y, .int .i32 s.p.vx, .int .i32 s.p.vy, .int .u8 (s.p.h : Int), .int .u8 (s.p.c : Int), .int .u8 (s.p.f : Int), .int .i32 s.q.x, .int .i32 s.q.y, .int .i32 s.q.vx, .int .i32 s.q.vy, .int .u8 (s.q.h : Int), .int .u8 (s.q.c : Int), .int .u8 (s.q.f : Int), .slice ao1 s.ss.length cap1, .int .u16 (s.s0 : Int), .int .u16 (s.s1 : Int)]), (g4, 30, #[.int .u64 (T.fr : Int), .int .u64 (T.sd : Int), .int .i32 T.p.x, .int .i32 T.p.y, .int .i32 T.p.vx, .int .i32 T.p.vy, .int .u8 (T.p.h : Int), .int .u8 (T.p.c : Int), .int .u8 (T.p.f : Int), .int .i32 T.q.x, .int .i32 T.q.y, .int .i32 T.q.vx, .int .i32 T.q.vy, .int .u8 (T.q.h : Int), .int .u8 (T.q.c : Int), .int .u8 (T.q.f : Int), .slice ao2 T.ss.length cap2, .int .u16 (T.s0 : Int), .int .u16 (T.s1 : Int)])] := Ha15
    have HBN := Lib.hid (below_of_grown qa17)
    have Sa18 := Lib.hid (HR5.out.fresh qa17 za16 (Ha15.get 3 rfl).lt)
    clear qa17 HR5
    have HB56 : Hid (Below w5.heap.size w5 wa13) := HBN.out
    go_upto_region 5 with fail
    clear za16 sa14
    have a1 := Ha15.onA ty_state 3 rfl 0 (vs := stc T ao2 cap2) rfl (Nat.le_of_ble_eq_true rfl)
    have a2 := Ha15.onA ty_state 0 rfl 0 (vs := stc s ao cap) rfl (Nat.le_of_ble_eq_true rfl)
    have a3 := Ha15.onA ty_pair 1 rfl 0 (vs := #[.int .u8 (i : Int), .int .u8 (j : Int)]) rfl (Nat.le_of_ble_eq_true rfl)
    have o0 := G.On.drew wa13.heap.size wa13
    refine wp_region_till (S := fun w' => G.On wa13.heap.size wa13 w') (by kernel_rfl) ?_
    refine wpTill_take (i := 0) (v := ?vm0) rfl (by kernel_rfl) (fun _ _ _ h => h) (Or.inl ⟨by rfl, ?hym0⟩) o0 ?restm0
    case hym0 => (intro W hW; (try dsimp only at hW); go_simp; try with_reducible rfl)
    simp only [Act.put, List.setIfInBounds_toArray, List.set_cons_zero, List.set_cons_succ]
    refine wpTill_take (i := 1) (v := ?vm1) rfl (by kernel_rfl) (fun _ _ _ h => h) (Or.inl ⟨by rfl, ?hym1⟩) o0 ?restm1
    case hym1 => (intro W hW; (try dsimp only at hW); go_simp; try with_reducible rfl)
    simp only [Act.put, List.setIfInBounds_toArray, List.set_cons_zero, List.set_cons_succ]
    refine wpTill_take (i := 2) (v := ?vm2) rfl (by kernel_rfl) (fun _ _ _ h => h) (Or.inl ⟨by rfl, ?hym2⟩) o0 ?restm2
    case hym2 => (intro W hW; (try dsimp only at hW); go_simp; try with_reducible rfl)
    simp only [Act.put, List.setIfInBounds_toArray, List.set_cons_zero, List.set_cons_succ]
    refine wpTill_run (i := 3) (by kernel_rfl) rfl o0 (fun K hK => ?_)
    go_simp
    go_at_call 12
    refine (refStep_c s ao cap i j wa13.drew (Shs_grown HS.out (grown_of_below (r := none) Ha15.drew.be) (by simp)) HN.out (by omega) HFT.out HIJ.out.1 HIJ.out.2).mono ?_
    rw [← HTT.out]
    rintro E w7 ⟨ao7, cap7, rfl, hR7, hb7⟩
    have o7 : G.On wa13.heap.size wa13 w7 := Below.trans o0 hb7
    have HS7 : Hid (Shs w7 ao7 T.ss) := hR7.shs HTF.out.1.2.2.2.2.1
    clear hR7 hb7
    refine hK _ _ ?_
    clear hK K
    refine wpTill_run (i := 4) (by kernel_rfl) rfl o7 (fun K hK => ?_)
    go_simp
    go_at_call 11
    refine (refSame_self T ao2 ao7 cap2 cap7 w7 (Shs_grown (Sa18.out.shs HTF.out.1.2.2.2.2.1) (grown_of_below (r := none) o7) (by simp)) HS7.out HTF.out.2).mono ?_
    rintro E w8 ⟨rfl, hb8⟩
    have o8 : G.On wa13.heap.size wa13 w8 := Below.trans o7 ((below_of_grown hb8).mono o7.size)
    refine hK _ _ ?_
    clear hK K
    refine wpTill_run (i := 5) (by kernel_rfl) rfl o8 (fun K hK => ?_)
    go_simp
    refine hK _ _ ?_
    clear hK K
    refine wpTill_done (by kernel_rfl) ?_
    have HO8 := Lib.hid o8
    have Ha19 := Ha15.to HO8.out
    have HV : Hid (Live w8 wa4.heap.size [g4] ao2 T.ss.length) := live_of (Sa18.out.to HO8.out)
    have HB48 : Hid (Below wa4.heap.size wa4 w8) := HB5.out.trans ((HB56.out.mono (Nat.le_refl _) |>.trans (HO8.out.mono HB56.out.size)).mono HB5.out.size)
    clear a1 a2 a3 o0 o7 o8 HS7 hb8 Sa18 HO8 HB56 HB5 Ha15 Sa9
    go_upto_region 8 with fail
    have hTl : T.ss.length ≤ 9223372036854775807 := HTF.out.2
    go_loopw [7] (fun v wr => ∃ k : Nat, k ≤ T.ss.length ∧ v = .int .i64 k ∧ Hid (Loc w.heap.size w wr [(w.heap.size, 30, stc s ao cap), (w.heap.size + 1, 33, #[.int .u8 (i : Int), .int .u8 (j : Int)]), (g3, 30, stc s ao1 cap1), (g4, 30, stc T ao2 cap2)]) ∧ Hid (Below wa4.heap.size wa4 wr) ∧ Hid (Live wr wa4.heap.size [g4] ao2 T.ss.length)) (fun v _ => T.ss.length - (intOf v).toNat)
    case atStart => exact ⟨0, by omega, rfl, Ha19, HB48.out, HV.out⟩
    case round =>
      clear Ha19 HB48 HV
      obtain ⟨k, hk, rfl, HR, HB4, HV⟩ := hrel
      by_cases hlt : k < T.ss.length
      · obtain ⟨g, cs, rfl, hBg, hc, hz, hne⟩ := HV.out (by omega)
        have ll1 := HR.out.ldO ty_shots 3 rfl 16 (v := .slice (some ⟨g, 0, none⟩) T.ss.length cap2) rfl
        obtain ⟨w9, s9, hg9, cs9, hc9, hz9⟩ := live_st hc (k := k) (by omega) #[.int .i32 (-1), .int .i32 0, .int .i32 0, .int .i32 0, .int .u8 0, .int .u8 0] rfl rfl
        have HR9 := Lib.hid (HR.out.row hg9 (by have := HLT.out.1; omega) (fun e he q => by
          simp only [List.mem_cons, List.not_mem_nil, or_false] at he
          have h1 := HLT.out
          rcases he with rfl | rfl | rfl | rfl
          · dsimp only at q; omega
          · dsimp only at q; omega
          · dsimp only at q; omega
          · exact hne g4 (by simp) q))
        have HB9 : Hid (Below wa4.heap.size wa4 w9) := HB4.out.trans (grown_nb hg9 (fun q e => by cases e; exact hBg) HB4.out.size)
        have HV9 : Hid (Live w9 wa4.heap.size [g4] (some ⟨g, 0, none⟩) T.ss.length) := fun _ => ⟨g, cs9, rfl, hBg, hc9, by omega, hne⟩
        clear hg9 hc9 hz9 hc hz hne hBg
        go_wp2
        go_roundw
        case rel => exact ⟨k + 1, by omega, by go_num, HR9, HB9, HV9⟩
        case measure => simp [intOf]; omega
      · have ln1 := HR.out.ldO ty_shots 3 rfl 16 (v := .slice ao2 T.ss.length cap2) rfl
        have ln2 := HR.out.ldA ty_state 2 rfl 0 (vs := (stc s ao1 cap1)) rfl (Nat.le_of_ble_eq_true rfl)
        have ln3 := HR.out.ldA ty_state 0 rfl 0 (vs := (stc s ao cap)) rfl (Nat.le_of_ble_eq_true rfl)
        go_wp2_with fail
        refine (refSame_self s ao1 ao cap1 cap wr (Shs_grown HS1.out (grown_of_below (r := none) HB4.out) (by simp)) (Shs_grown HS.out (grown_of_below (r := none) HR.out.be) (by simp)) HML.out).mono ?_
        rintro E w10 ⟨rfl, hb10⟩
        have Hn4 := HR.out.to (below_of_grown hb10)
        go_wp2_with fail
        refine (awake_c w10 (HL.out.to Hn4.be)).mono ?_
        rintro E w11 ⟨rfl, hb11⟩
        go_wp2
        go_ret
        exact ⟨rfl, (Hn4.to hb11).be⟩
end Go.Proofs.YtldpmbklkbbnmaaDoor
