/- CheckpointCut: the walk. Conditions: the two listed variables lie as they are laid. -/
import Derived.Test.YtacgmadgkmcmoaaGreatDoorJx
import Derived.Test.YtacgmadgkmcmoaaGreatDoorJm
import Derived.Test.YtacgmadgkmcmoaaGreatDoorJr
namespace Go.Proofs.YtacgmadgkmcmoaaGreatDoor
open Go.RowKit
set_option linter.unusedVariables false
set_option linter.unusedSimpArgs false
set_option maxRecDepth 20000
section
variable {P : Program} {ops : Array Oper} {Q : Exit → Act → World → Prop} {md : Region.Mode} {S : World → Prop}
theorem wpTill_tri {i j k n : Nat} {oi oj ok : Oper} {listed : Array Bool} {a : Act} {w : World} (hr : Region.ready md ops listed = [i, j, k]) (hi : ops[i]? = some oi) (hj : ops[j]? = some oj) (hk : ops[k]? = some ok) (hS : S w)
    (h1 : ∀ K' : Act → World → Prop, (∀ a' w', wpTill P md ops Q S n (listed.setIfInBounds i true) a' w' → K' a' w') → if Region.wanted oi (yielded ops a.tmps) = true then Oper.wp P oi a w K' Q else K' (a.put oi.dst undef) w)
    (h2 : ∀ K' : Act → World → Prop, (∀ a' w', wpTill P md ops Q S n (listed.setIfInBounds j true) a' w' → K' a' w') → if Region.wanted oj (yielded ops a.tmps) = true then Oper.wp P oj a w K' Q else K' (a.put oj.dst undef) w)
    (h3 : ∀ K' : Act → World → Prop, (∀ a' w', wpTill P md ops Q S n (listed.setIfInBounds k true) a' w' → K' a' w') → if Region.wanted ok (yielded ops a.tmps) = true then Oper.wp P ok a w K' Q else K' (a.put ok.dst undef) w) :
    wpTill P md ops Q S (n + 1) listed a w :=
  ⟨fun k => (by rw [hr] at k; cases k), fun _ => hS, fun l hl => by
    rw [hr] at hl
    rcases List.mem_cons.1 hl with rfl | hl
    · exact wpOp_step hi h1
    · rcases List.mem_cons.1 hl with rfl | hl
      · exact wpOp_step hj h2
      · rw [List.mem_singleton] at hl
        subst hl
        exact wpOp_step hk h3⟩
end
/-- Both states lie in blocks of their own, made since. -/
structure Two18 (wd : World) (g1 g2 : Nat) (s t : St) (so : Option Addr) (sc : Nat) (to_ : Option Addr) (tc : Nat) (wx : World) : Prop where
  be : Below wd.heap.size wd wx
  b1 : Cells wx g1 34 (stc s so sc)
  b2 : Cells wx g2 34 (stc t to_ tc)
  s1 : Shs wx so s.ss
  s2 : Shs wx to_ t.ss
  l1 : wd.heap.size ≤ g1
  l2 : wd.heap.size ≤ g2
  r1 : ∀ a, so = some a → s.ss ≠ [] → wd.heap.size ≤ a.block
  r2 : ∀ a, to_ = some a → t.ss ≠ [] → wd.heap.size ≤ a.block
/-- Its cut: fuses, numbers, whether both frames are the same. -/
def ccs (fo : Option Addr) (n fc : Nat) (ko : Option Addr) (m kc : Nat) (z : Bool) : Array Value := #[.slice fo n fc, .slice ko m kc, .bool z]
/-- A row of bytes, read where it lies. -/
def U8s (w : World) (fo : Option Addr) (F : List Nat) : Prop :=
  ∀ k (h : k < F.length), F[k]'h < 256 ∧ ∃ b o, fo = some ⟨b, o, none⟩ ∧ w.cell? ⟨b, o + k, none⟩ = some (.int .u8 ((F[k]'h : Nat) : Int))
theorem U8s.tu {S : Nat → Prop} {w w' : World} {fo : Option Addr} {F : List Nat} (h : U8s w fo F) (k : Tu S w w') (hs : ∀ x, x < w.heap.size → ¬ S x) : U8s w' fo F := fun i hi => by
  obtain ⟨h1, b, o, e, hc⟩ := h i hi
  have hl := World.block_lt_of_cell? w _ hc
  exact ⟨h1, b, o, e, (World.cell?_of_block (w := w) (k.block b hl (hs b hl))).trans hc⟩
theorem ld_cu18 (v : Value) : Instr.loadAt 73 v = ldT 73 v := rfl
attribute [local go_sem ↓] ld_state st_state
set_option maxHeartbeats 32000000 in
theorem law_cut (a b : St) (ao bo : Option Addr) (ac bc : Nat) (F : List Nat) (Ks : List Int) (fo ko : Option Addr) (fc kc : Nat) (z : Bool) (w : World) (hs1 : Shs w ao a.ss) (hs2 : Shs w bo b.ss) (hf1 : a.fit) (hf2 : b.fit) (hl1 : a.ss.length ≤ maxLen) (hl2 : b.ss.length ≤ maxLen) (hF : U8s w fo F) (hFl : F.length ≤ maxLen) (hK : Ints w ko Ks) (hKl : Ks.length ≤ maxLen) (ht : Tab w) (hb : BTab w) :
    Calls Tryz.prog 5 #[sv a ao ac, sv b bo bc, .agg (ccs fo F.length fc ko Ks.length kc z)] w fun E w' => E = .returned (.bool true) ∧ Below w.heap.size w w' := by
  have H0 := Loc.three w 34 34 73 (stc a ao ac) (stc b bo bc) (ccs fo F.length fc ko Ks.length kc z)
  have HT := Lib.hid ht
  have HBT := Lib.hid hb
  have HS1 := Lib.hid hs1
  have HS2 := Lib.hid hs2
  have HF1 := Lib.hid hf1
  have HF2 := Lib.hid hf2
  have HL := Lib.hid (And.intro hl1 hl2)
  have HFF := Lib.hid hF
  have HKK := Lib.hid hK
  simp only [maxLen] at hFl hKl
  clear ht hb hs1 hs2 hf1 hf2 hl1 hl2 hF hK
  go_enter Tryz.func5, Tryz.ntmps5
  go_upto_region 1 with fail
  generalize ((w.alloc (.cells (stc a ao ac) 34)).alloc (.cells (stc b bo bc) 34)).alloc (.cells (ccs fo F.length fc ko Ks.length kc z) 73) = wa at *
  have HL0 := Lib.hid H0
  have c1 : wa.cell? ⟨w.heap.size + 2, 1, none⟩ = some (.slice ko Ks.length kc) := (H0.get 2 rfl).cell 1
  have HB0 := Lib.hid H0.be
  have HA0 : w.heap.size + 3 ≤ wa.heap.size := H0.low (e := (w.heap.size + 2, 73, ccs fo F.length fc ko Ks.length kc z)) (by simp)
  clear H0
  by_cases h20 : 20 < Ks.length
  · have i20 : (20 : Int) < (Ks.length : Int) := by omega
    clear h20
    go_wp2_with fail
    clear c1
    refine (works18_c wa (HT.out.lo HB0.out) (btab_lo HBT.out HB0.out)).mono ?_
    rintro R wz ⟨rfl, hbz⟩
    go_wp2
    go_ret
    exact ⟨rfl, HB0.out.trans (hbz.mono HB0.out.size)⟩
  have i20 : ¬ (20 : Int) < (Ks.length : Int) := by omega
  have HK20 := Lib.hid (show Ks.length ≤ 20 by omega)
  clear h20
  have KN : Hid (Calls Tryz.prog 28 #[.int .i64 100000] wa (NewPost 100000 wa)) := new_c 100000 wa
  go_wp2_with fail
  clear i20 c1
  refine KN.out.mono ?_
  rintro R w1 ⟨hb1, (⟨_, _, v, rfl, hd1⟩ | ⟨h1, _⟩)⟩
  rotate_left
  · omega
  obtain ⟨gd, rfl⟩ := hd1.ptr1
  have HL1 := Lib.hid (HL0.out.to hb1)
  have KP : Hid (Calls Tryz.prog 29 #[.pointer (some ⟨gd, 0, none⟩), .int .i64 (-1), .slice none 0 0] w1 (NewPw (fun x => wa.heap.size ≤ x) w1 (.pointer (some ⟨gd, 0, none⟩)) 100000 (-1) [] [])) := pnew_c (-1) none [] 0 w1 hd1 (fun j hj => by cases hj) (by simp)
  have HW1 := Lib.hid hb1.size
  clear hd1 hb1 KN HL0 HB0
  go_wp2_with fail
  refine KP.out.mono ?_
  rintro R w2 ⟨g, gko, gkc, rfl, hg, hko, hp2, hb2⟩
  have HL2 := Lib.hid (HL1.out.to hb2)
  have HP2 := Lib.hid (show PwC (fun x => wa.heap.size ≤ x ∧ x < w1.heap.size) w2 g (.pointer (some ⟨gd, 0, none⟩)) 100000 gko gkc (pon 0 []) from hp2)
  have HG := Lib.hid (And.intro (Nat.le_trans HW1.out hg) hp2.lt)
  have HW2 := Lib.hid hb2.size
  have HWA := Lib.hid (show w.heap.size + 3 ≤ wa.heap.size from HA0)
  have c2 : w2.cell? ⟨w.heap.size + 2, 2, none⟩ = some (.bool z) := (HL2.out.get 2 rfl).cell 2
  clear hp2 hb2 hg hko KP HL1
  cases z
  · go_upto_region 8 with fail
    clear c2
    obtain ⟨wd, hwd⟩ : ∃ wd, wd = w2.drew := ⟨_, rfl⟩
    have bd : Below w2.heap.size w2 wd := hwd ▸ (Below.refl _ w2).drew
    have LD := Lib.hid (HL2.out.to bd)
    have HPD := Lib.hid (HP2.out.new bd)
    have HDS := Lib.hid (show w2.heap.size = wd.heap.size from by rw [hwd]; rfl)
    have ha := LD.out.get 0 rfl
    have hbb := LD.out.get 1 rfl
    have ldA3 : ∀ W, Below wd.heap.size wd W → (ldT 34 (.pointer (some ⟨w.heap.size, 0, none⟩))).run Tryz.prog W = .ok (.agg (stc a ao ac)) W := fun W hW => run_ldA ty_state (ha.below hW ha.lt) 0 (Nat.le_of_ble_eq_true rfl)
    have ldA4 : ∀ W, Below wd.heap.size wd W → (ldT 34 (.pointer (some ⟨w.heap.size + 1, 0, none⟩))).run Tryz.prog W = .ok (.agg (stc b bo bc)) W := fun W hW => run_ldA ty_state (hbb.below hW hbb.lt) 0 (Nat.le_of_ble_eq_true rfl)
    have R1 : Hid (∀ W, Below wd.heap.size wd W → Calls Tryz.prog 30 #[sv a ao ac, .int .u64 3] W (RgPost a 3 W)) := fun W hW => right_c a 3 ao ac W (shs_to (shs_to HS1.out LD.out.be) hW) HF1.out HL.out.1
    have R2 : Hid (∀ W, Below wd.heap.size wd W → Calls Tryz.prog 30 #[sv b bo bc, .int .u64 4] W (RgPost b 4 W)) := fun W hW => right_c b 4 bo bc W (shs_to (shs_to HS2.out LD.out.be) hW) HF2.out HL.out.2
    have HSG := Lib.hid (show (rgt a 3).good = true ∧ (rgt a 3).fit ∧ (rgt a 3).fr = 3 ∧ (rgt a 3).ss.length ≤ 8 from ⟨rgt_good _ _, rgt_fit HF1.out (by decide), rfl, rgt_few _ _⟩)
    have HTG := Lib.hid (show (rgt b 4).good = true ∧ (rgt b 4).fit ∧ (rgt b 4).fr = 4 ∧ (rgt b 4).ss.length ≤ 8 from ⟨rgt_good _ _, rgt_fit HF2.out (by decide), rfl, rgt_few _ _⟩)
    unfold RgPost at R1 R2
    obtain ⟨s0, hs0⟩ : ∃ s, s = rgt a 3 := ⟨_, rfl⟩
    obtain ⟨t0, ht0⟩ : ∃ t, t = rgt b 4 := ⟨_, rfl⟩
    rw [← hs0] at R1 HSG
    rw [← ht0] at R2 HTG
    clear hs0 ht0 ha hbb bd HP2 HL2
    go_cut [10, 11] (fun v10 v11 wx => ∃ g1 g2 so sc to_ tc, v10 = .pointer (some ⟨g1, 0, none⟩) ∧ v11 = .pointer (some ⟨g2, 0, none⟩) ∧ Hid (∃ wy, wy = wx ∧ Two18 wd g1 g2 s0 t0 so sc to_ tc wy))
    case first =>
      have LL := Lib.hid (Loc.nil (B := wd.heap.size) (w := wd) (Nat.le_refl _))
      have t0' : Below wd.heap.size wd wd := Below.refl _ _
      refine wp_region_till (S := fun W => Below wd.heap.size wd W) (by kernel_rfl) ?_
      rw [← hwd]
      clear hwd
      refine wpTill_take (i := 0) (v := ?vq1) rfl (by kernel_rfl) (fun _ _ _ h => h) (Or.inl ⟨by rfl, ?hq1⟩) t0' ?rq1
      case hq1 => (intro W hW; (try dsimp only at hW); go_simp; try with_reducible rfl)
      simp only [Act.put, List.setIfInBounds_toArray, List.set_cons_zero, List.set_cons_succ, List.getElem_toArray, List.getElem_cons_succ, List.getElem_cons_zero]
      refine wpTill_take (i := 2) (v := ?vq2) rfl (by kernel_rfl) (fun _ _ _ h => h) (Or.inl ⟨by rfl, ?hq2⟩) t0' ?rq2
      case hq2 => (intro W hW; (try dsimp only at hW); go_simp; try with_reducible rfl)
      simp only [Act.put, List.setIfInBounds_toArray, List.set_cons_zero, List.set_cons_succ, List.getElem_toArray, List.getElem_cons_succ, List.getElem_cons_zero]
      refine wpTill_take (i := 3) (v := ?vq3) rfl (by kernel_rfl) (fun _ _ _ h => h) (Or.inl ⟨by rfl, ?hq3⟩) t0' ?rq3
      case hq3 => (intro W hW; (try dsimp only at hW); go_simp; try with_reducible rfl)
      simp only [Act.put, List.setIfInBounds_toArray, List.set_cons_zero, List.set_cons_succ, List.getElem_toArray, List.getElem_cons_succ, List.getElem_cons_zero]
      clear t0'
      refine wpTill_tri (i := 1) (j := 5) (k := 6) (by kernel_rfl) rfl rfl rfl (LL.out.be) (fun K hK => ?_) (fun K hK => ?_) (fun K hK => ?_) 
      · go_simp
        go_at_call 30
        refine (R1.out wd LL.out.be).mono ?_
        rintro R v1 ⟨ao1, cap1, rfl, hs1, hr1, hb1⟩
        have L1 := Lib.hid (LL.out.to hb1)
        have Hs1 := Lib.hid hs1
        have Bs1 := Lib.hid (show ∀ a, ao1 = some a → s0.ss ≠ [] → wd.heap.size ≤ a.block from fun a e hn => Nat.le_trans LL.out.be.size (hr1 a e hn))
        clear hs1 hr1 hb1
        refine hK _ _ ?_
        clear hK K
        refine wpTill_tri (i := 4) (j := 5) (k := 6) (by kernel_rfl) rfl rfl rfl (L1.out.be) (fun K hK => ?_) (fun K hK => ?_) (fun K hK => ?_) 
        · go_simp
          go_at_call 30
          refine (R2.out v1 L1.out.be).mono ?_
          rintro R v2 ⟨ao2, cap2, rfl, hs2, hr2, hb2⟩
          have L2 := Lib.hid (L1.out.to hb2)
          have Hs1_2 := Lib.hid (shs_to Hs1.out hb2)
          have Ht2 := Lib.hid hs2
          have Bt2 := Lib.hid (show ∀ a, ao2 = some a → t0.ss ≠ [] → wd.heap.size ≤ a.block from fun a e hn => Nat.le_trans L1.out.be.size (hr2 a e hn))
          clear hs2 hr2 hb2
          refine hK _ _ ?_
          clear hK K
          refine wpTill_pair (i := 5) (j := 6) (by kernel_rfl) rfl rfl (L2.out.be) (fun K hK => ?_) (fun K hK => ?_) 
          · go_simp
            obtain ⟨v3, hv3⟩ : ∃ v, v = v2.alloc (.cells #[.int .u64 0, .int .u64 0, .int .i32 0, .int .i32 0, .int .i32 0, .int .i32 0, .int .u8 0, .int .u8 0, .int .u8 0, .int .i32 0, .int .i32 0, .int .i32 0, .int .i32 0, .int .u8 0, .int .u8 0, .int .u8 0, .slice none 0 0, .int .u16 0, .int .u16 0] 34) := ⟨_, rfl⟩
            obtain ⟨k3, hk3⟩ : ∃ k, k = v2.heap.size := ⟨_, rfl⟩
            rw [← hv3, ← hk3]
            have L3 := Lib.hid (show Loc wd.heap.size wd v3 [(k3, 34, #[.int .u64 0, .int .u64 0, .int .i32 0, .int .i32 0, .int .i32 0, .int .i32 0, .int .u8 0, .int .u8 0, .int .u8 0, .int .i32 0, .int .i32 0, .int .i32 0, .int .i32 0, .int .u8 0, .int .u8 0, .int .u8 0, .slice none 0 0, .int .u16 0, .int .u16 0])] from hv3 ▸ hk3 ▸ (L2.out.more 34 #[.int .u64 0, .int .u64 0, .int .i32 0, .int .i32 0, .int .i32 0, .int .i32 0, .int .u8 0, .int .u8 0, .int .u8 0, .int .i32 0, .int .i32 0, .int .i32 0, .int .i32 0, .int .u8 0, .int .u8 0, .int .u8 0, .slice none 0 0, .int .u16 0, .int .u16 0]))
            have b3 : Below v2.heap.size v2 v3 := hv3 ▸ kb_alloc v2 _
            have Hs1_2_3 := Lib.hid (shs_to Hs1_2.out b3)
            have nes5_3 := Lib.hid (show ∀ a, ao1 = some a → s0.ss ≠ [] → a.block ≠ k3 from fun a e hn => by have := shs_lt Hs1_2.out a e hn; omega)
            have Ht2_3 := Lib.hid (shs_to Ht2.out b3)
            have net5_3 := Lib.hid (show ∀ a, ao2 = some a → t0.ss ≠ [] → a.block ≠ k3 from fun a e hn => by have := shs_lt Ht2.out a e hn; omega)
            clear hv3 b3 hk3
            refine hK _ _ ?_
            clear hK K
            refine wpTill_run (i := 6) (by kernel_rfl) rfl (L3.out.be) (fun K hK => ?_) 
            go_simp
            obtain ⟨v4, hv4⟩ : ∃ v, v = v3.alloc (.cells #[.int .u64 0, .int .u64 0, .int .i32 0, .int .i32 0, .int .i32 0, .int .i32 0, .int .u8 0, .int .u8 0, .int .u8 0, .int .i32 0, .int .i32 0, .int .i32 0, .int .i32 0, .int .u8 0, .int .u8 0, .int .u8 0, .slice none 0 0, .int .u16 0, .int .u16 0] 34) := ⟨_, rfl⟩
            obtain ⟨k4, hk4⟩ : ∃ k, k = v3.heap.size := ⟨_, rfl⟩
            rw [← hv4, ← hk4]
            have L4 := Lib.hid (show Loc wd.heap.size wd v4 [(k3, 34, #[.int .u64 0, .int .u64 0, .int .i32 0, .int .i32 0, .int .i32 0, .int .i32 0, .int .u8 0, .int .u8 0, .int .u8 0, .int .i32 0, .int .i32 0, .int .i32 0, .int .i32 0, .int .u8 0, .int .u8 0, .int .u8 0, .slice none 0 0, .int .u16 0, .int .u16 0]), (k4, 34, #[.int .u64 0, .int .u64 0, .int .i32 0, .int .i32 0, .int .i32 0, .int .i32 0, .int .u8 0, .int .u8 0, .int .u8 0, .int .i32 0, .int .i32 0, .int .i32 0, .int .i32 0, .int .u8 0, .int .u8 0, .int .u8 0, .slice none 0 0, .int .u16 0, .int .u16 0])] from hv4 ▸ hk4 ▸ (L3.out.more 34 #[.int .u64 0, .int .u64 0, .int .i32 0, .int .i32 0, .int .i32 0, .int .i32 0, .int .u8 0, .int .u8 0, .int .u8 0, .int .i32 0, .int .i32 0, .int .i32 0, .int .i32 0, .int .u8 0, .int .u8 0, .int .u8 0, .slice none 0 0, .int .u16 0, .int .u16 0]))
            have b4 : Below v3.heap.size v3 v4 := hv4 ▸ kb_alloc v3 _
            have Hs1_2_3_4 := Lib.hid (shs_to Hs1_2_3.out b4)
            have nes6_4 := Lib.hid (show ∀ a, ao1 = some a → s0.ss ≠ [] → a.block ≠ k4 from fun a e hn => by have := shs_lt Hs1_2_3.out a e hn; omega)
            have Ht2_3_4 := Lib.hid (shs_to Ht2_3.out b4)
            have net6_4 := Lib.hid (show ∀ a, ao2 = some a → t0.ss ≠ [] → a.block ≠ k4 from fun a e hn => by have := shs_lt Ht2_3.out a e hn; omega)
            clear hv4 b4 hk4
            refine hK _ _ ?_
            clear hK K
            refine wpTill_run (i := 7) (by kernel_rfl) rfl (L4.out.be) (fun K hK => ?_) 
            obtain ⟨v5, st5, l5, q5⟩ := L4.out.stA ty_state 0 rfl 0 (stc s0 ao1 cap1) (cs' := stc s0 ao1 cap1) rfl (L' := [(k3, 34, stc s0 ao1 cap1), (k4, 34, #[.int .u64 0, .int .u64 0, .int .i32 0, .int .i32 0, .int .i32 0, .int .i32 0, .int .u8 0, .int .u8 0, .int .u8 0, .int .i32 0, .int .i32 0, .int .i32 0, .int .i32 0, .int .u8 0, .int .u8 0, .int .u8 0, .slice none 0 0, .int .u16 0, .int .u16 0])]) rfl (Nat.le_of_ble_eq_true rfl) rfl rfl
            have L5 := Lib.hid l5
            have Hs1_2_3_4_5 := Lib.hid (shs_turn Hs1_2_3_4.out q5 nes5_3.out)
            have Ht2_3_4_5 := Lib.hid (shs_turn Ht2_3_4.out q5 net5_3.out)
            go_simp
            clear l5 q5 st5
            refine hK _ _ ?_
            clear hK K
            refine wpTill_run (i := 8) (by kernel_rfl) rfl (L5.out.be) (fun K hK => ?_) 
            obtain ⟨v6, st6, l6, q6⟩ := L5.out.stA ty_state 1 rfl 0 (stc t0 ao2 cap2) (cs' := stc t0 ao2 cap2) rfl (L' := [(k3, 34, stc s0 ao1 cap1), (k4, 34, stc t0 ao2 cap2)]) rfl (Nat.le_of_ble_eq_true rfl) rfl rfl
            have L6 := Lib.hid l6
            have Hs1_2_3_4_5_6 := Lib.hid (shs_turn Hs1_2_3_4_5.out q6 nes6_4.out)
            have Ht2_3_4_5_6 := Lib.hid (shs_turn Ht2_3_4_5.out q6 net6_4.out)
            go_simp
            clear l6 q6 st6
            refine hK _ _ ?_
            clear hK K
            refine wpTill_done (by kernel_rfl) ?_
            go_wp2_with fail
            go_meet
            exact ⟨k3, k4, ao1, cap1, ao2, cap2, rfl, rfl, ⟨_, rfl, ⟨L6.out.be, L6.out.get 0 rfl, L6.out.get 1 rfl, Hs1_2_3_4_5_6.out, Ht2_3_4_5_6.out, L6.out.bge 0 rfl, L6.out.bge 1 rfl, Bs1.out, Bt2.out⟩⟩⟩
          · go_simp
            obtain ⟨v7, hv7⟩ : ∃ v, v = v2.alloc (.cells #[.int .u64 0, .int .u64 0, .int .i32 0, .int .i32 0, .int .i32 0, .int .i32 0, .int .u8 0, .int .u8 0, .int .u8 0, .int .i32 0, .int .i32 0, .int .i32 0, .int .i32 0, .int .u8 0, .int .u8 0, .int .u8 0, .slice none 0 0, .int .u16 0, .int .u16 0] 34) := ⟨_, rfl⟩
            obtain ⟨k7, hk7⟩ : ∃ k, k = v2.heap.size := ⟨_, rfl⟩
            rw [← hv7, ← hk7]
            have L7 := Lib.hid (show Loc wd.heap.size wd v7 [(k7, 34, #[.int .u64 0, .int .u64 0, .int .i32 0, .int .i32 0, .int .i32 0, .int .i32 0, .int .u8 0, .int .u8 0, .int .u8 0, .int .i32 0, .int .i32 0, .int .i32 0, .int .i32 0, .int .u8 0, .int .u8 0, .int .u8 0, .slice none 0 0, .int .u16 0, .int .u16 0])] from hv7 ▸ hk7 ▸ (L2.out.more 34 #[.int .u64 0, .int .u64 0, .int .i32 0, .int .i32 0, .int .i32 0, .int .i32 0, .int .u8 0, .int .u8 0, .int .u8 0, .int .i32 0, .int .i32 0, .int .i32 0, .int .i32 0, .int .u8 0, .int .u8 0, .int .u8 0, .slice none 0 0, .int .u16 0, .int .u16 0]))
            have b7 : Below v2.heap.size v2 v7 := hv7 ▸ kb_alloc v2 _
            have Hs1_2_7 := Lib.hid (shs_to Hs1_2.out b7)
            have nes6_7 := Lib.hid (show ∀ a, ao1 = some a → s0.ss ≠ [] → a.block ≠ k7 from fun a e hn => by have := shs_lt Hs1_2.out a e hn; omega)
            have Ht2_7 := Lib.hid (shs_to Ht2.out b7)
            have net6_7 := Lib.hid (show ∀ a, ao2 = some a → t0.ss ≠ [] → a.block ≠ k7 from fun a e hn => by have := shs_lt Ht2.out a e hn; omega)
            clear hv7 b7 hk7
            refine hK _ _ ?_
            clear hK K
            refine wpTill_run (i := 5) (by kernel_rfl) rfl (L7.out.be) (fun K hK => ?_) 
            go_simp
            obtain ⟨v8, hv8⟩ : ∃ v, v = v7.alloc (.cells #[.int .u64 0, .int .u64 0, .int .i32 0, .int .i32 0, .int .i32 0, .int .i32 0, .int .u8 0, .int .u8 0, .int .u8 0, .int .i32 0, .int .i32 0, .int .i32 0, .int .i32 0, .int .u8 0, .int .u8 0, .int .u8 0, .slice none 0 0, .int .u16 0, .int .u16 0] 34) := ⟨_, rfl⟩
            obtain ⟨k8, hk8⟩ : ∃ k, k = v7.heap.size := ⟨_, rfl⟩
            rw [← hv8, ← hk8]
            have L8 := Lib.hid (show Loc wd.heap.size wd v8 [(k7, 34, #[.int .u64 0, .int .u64 0, .int .i32 0, .int .i32 0, .int .i32 0, .int .i32 0, .int .u8 0, .int .u8 0, .int .u8 0, .int .i32 0, .int .i32 0, .int .i32 0, .int .i32 0, .int .u8 0, .int .u8 0, .int .u8 0, .slice none 0 0, .int .u16 0, .int .u16 0]), (k8, 34, #[.int .u64 0, .int .u64 0, .int .i32 0, .int .i32 0, .int .i32 0, .int .i32 0, .int .u8 0, .int .u8 0, .int .u8 0, .int .i32 0, .int .i32 0, .int .i32 0, .int .i32 0, .int .u8 0, .int .u8 0, .int .u8 0, .slice none 0 0, .int .u16 0, .int .u16 0])] from hv8 ▸ hk8 ▸ (L7.out.more 34 #[.int .u64 0, .int .u64 0, .int .i32 0, .int .i32 0, .int .i32 0, .int .i32 0, .int .u8 0, .int .u8 0, .int .u8 0, .int .i32 0, .int .i32 0, .int .i32 0, .int .i32 0, .int .u8 0, .int .u8 0, .int .u8 0, .slice none 0 0, .int .u16 0, .int .u16 0]))
            have b8 : Below v7.heap.size v7 v8 := hv8 ▸ kb_alloc v7 _
            have Hs1_2_7_8 := Lib.hid (shs_to Hs1_2_7.out b8)
            have nes5_8 := Lib.hid (show ∀ a, ao1 = some a → s0.ss ≠ [] → a.block ≠ k8 from fun a e hn => by have := shs_lt Hs1_2_7.out a e hn; omega)
            have Ht2_7_8 := Lib.hid (shs_to Ht2_7.out b8)
            have net5_8 := Lib.hid (show ∀ a, ao2 = some a → t0.ss ≠ [] → a.block ≠ k8 from fun a e hn => by have := shs_lt Ht2_7.out a e hn; omega)
            clear hv8 b8 hk8
            refine hK _ _ ?_
            clear hK K
            refine wpTill_run (i := 7) (by kernel_rfl) rfl (L8.out.be) (fun K hK => ?_) 
            obtain ⟨v9, st9, l9, q9⟩ := L8.out.stA ty_state 1 rfl 0 (stc s0 ao1 cap1) (cs' := stc s0 ao1 cap1) rfl (L' := [(k7, 34, #[.int .u64 0, .int .u64 0, .int .i32 0, .int .i32 0, .int .i32 0, .int .i32 0, .int .u8 0, .int .u8 0, .int .u8 0, .int .i32 0, .int .i32 0, .int .i32 0, .int .i32 0, .int .u8 0, .int .u8 0, .int .u8 0, .slice none 0 0, .int .u16 0, .int .u16 0]), (k8, 34, stc s0 ao1 cap1)]) rfl (Nat.le_of_ble_eq_true rfl) rfl rfl
            have L9 := Lib.hid l9
            have Hs1_2_7_8_9 := Lib.hid (shs_turn Hs1_2_7_8.out q9 nes5_8.out)
            have Ht2_7_8_9 := Lib.hid (shs_turn Ht2_7_8.out q9 net5_8.out)
            go_simp
            clear l9 q9 st9
            refine hK _ _ ?_
            clear hK K
            refine wpTill_run (i := 8) (by kernel_rfl) rfl (L9.out.be) (fun K hK => ?_) 
            obtain ⟨v10, st10, l10, q10⟩ := L9.out.stA ty_state 0 rfl 0 (stc t0 ao2 cap2) (cs' := stc t0 ao2 cap2) rfl (L' := [(k7, 34, stc t0 ao2 cap2), (k8, 34, stc s0 ao1 cap1)]) rfl (Nat.le_of_ble_eq_true rfl) rfl rfl
            have L10 := Lib.hid l10
            have Hs1_2_7_8_9_10 := Lib.hid (shs_turn Hs1_2_7_8_9.out q10 nes6_7.out)
            have Ht2_7_8_9_10 := Lib.hid (shs_turn Ht2_7_8_9.out q10 net6_7.out)
            go_simp
            clear l10 q10 st10
            refine hK _ _ ?_
            clear hK K
            refine wpTill_done (by kernel_rfl) ?_
            go_wp2_with fail
            go_meet
            exact ⟨k8, k7, ao1, cap1, ao2, cap2, rfl, rfl, ⟨_, rfl, ⟨L10.out.be, L10.out.get 1 rfl, L10.out.get 0 rfl, Hs1_2_7_8_9_10.out, Ht2_7_8_9_10.out, L10.out.bge 1 rfl, L10.out.bge 0 rfl, Bs1.out, Bt2.out⟩⟩⟩
        · go_simp
          obtain ⟨v11, hv11⟩ : ∃ v, v = v1.alloc (.cells #[.int .u64 0, .int .u64 0, .int .i32 0, .int .i32 0, .int .i32 0, .int .i32 0, .int .u8 0, .int .u8 0, .int .u8 0, .int .i32 0, .int .i32 0, .int .i32 0, .int .i32 0, .int .u8 0, .int .u8 0, .int .u8 0, .slice none 0 0, .int .u16 0, .int .u16 0] 34) := ⟨_, rfl⟩
          obtain ⟨k11, hk11⟩ : ∃ k, k = v1.heap.size := ⟨_, rfl⟩
          rw [← hv11, ← hk11]
          have L11 := Lib.hid (show Loc wd.heap.size wd v11 [(k11, 34, #[.int .u64 0, .int .u64 0, .int .i32 0, .int .i32 0, .int .i32 0, .int .i32 0, .int .u8 0, .int .u8 0, .int .u8 0, .int .i32 0, .int .i32 0, .int .i32 0, .int .i32 0, .int .u8 0, .int .u8 0, .int .u8 0, .slice none 0 0, .int .u16 0, .int .u16 0])] from hv11 ▸ hk11 ▸ (L1.out.more 34 #[.int .u64 0, .int .u64 0, .int .i32 0, .int .i32 0, .int .i32 0, .int .i32 0, .int .u8 0, .int .u8 0, .int .u8 0, .int .i32 0, .int .i32 0, .int .i32 0, .int .i32 0, .int .u8 0, .int .u8 0, .int .u8 0, .slice none 0 0, .int .u16 0, .int .u16 0]))
          have b11 : Below v1.heap.size v1 v11 := hv11 ▸ kb_alloc v1 _
          have Hs1_11 := Lib.hid (shs_to Hs1.out b11)
          have nes5_11 := Lib.hid (show ∀ a, ao1 = some a → s0.ss ≠ [] → a.block ≠ k11 from fun a e hn => by have := shs_lt Hs1.out a e hn; omega)
          clear hv11 b11 hk11
          refine hK _ _ ?_
          clear hK K
          refine wpTill_pair (i := 4) (j := 6) (by kernel_rfl) rfl rfl (L11.out.be) (fun K hK => ?_) (fun K hK => ?_) 
          · go_simp
            go_at_call 30
            refine (R2.out v11 L11.out.be).mono ?_
            rintro R v12 ⟨ao12, cap12, rfl, hs12, hr12, hb12⟩
            have L12 := Lib.hid (L11.out.to hb12)
            have net5_12 := Lib.hid (show ∀ a, ao12 = some a → t0.ss ≠ [] → a.block ≠ k11 from fun a e hn => by have h1 := hr12 a e hn; have h2 := L11.out.low (e := (k11, 34, #[.int .u64 0, .int .u64 0, .int .i32 0, .int .i32 0, .int .i32 0, .int .i32 0, .int .u8 0, .int .u8 0, .int .u8 0, .int .i32 0, .int .i32 0, .int .i32 0, .int .i32 0, .int .u8 0, .int .u8 0, .int .u8 0, .slice none 0 0, .int .u16 0, .int .u16 0])) (by simp); dsimp only at h2; omega)
            have Hs1_11_12 := Lib.hid (shs_to Hs1_11.out hb12)
            have Ht12 := Lib.hid hs12
            have Bt12 := Lib.hid (show ∀ a, ao12 = some a → t0.ss ≠ [] → wd.heap.size ≤ a.block from fun a e hn => Nat.le_trans L11.out.be.size (hr12 a e hn))
            clear hs12 hr12 hb12
            refine hK _ _ ?_
            clear hK K
            refine wpTill_run (i := 6) (by kernel_rfl) rfl (L12.out.be) (fun K hK => ?_) 
            go_simp
            obtain ⟨v13, hv13⟩ : ∃ v, v = v12.alloc (.cells #[.int .u64 0, .int .u64 0, .int .i32 0, .int .i32 0, .int .i32 0, .int .i32 0, .int .u8 0, .int .u8 0, .int .u8 0, .int .i32 0, .int .i32 0, .int .i32 0, .int .i32 0, .int .u8 0, .int .u8 0, .int .u8 0, .slice none 0 0, .int .u16 0, .int .u16 0] 34) := ⟨_, rfl⟩
            obtain ⟨k13, hk13⟩ : ∃ k, k = v12.heap.size := ⟨_, rfl⟩
            rw [← hv13, ← hk13]
            have L13 := Lib.hid (show Loc wd.heap.size wd v13 [(k11, 34, #[.int .u64 0, .int .u64 0, .int .i32 0, .int .i32 0, .int .i32 0, .int .i32 0, .int .u8 0, .int .u8 0, .int .u8 0, .int .i32 0, .int .i32 0, .int .i32 0, .int .i32 0, .int .u8 0, .int .u8 0, .int .u8 0, .slice none 0 0, .int .u16 0, .int .u16 0]), (k13, 34, #[.int .u64 0, .int .u64 0, .int .i32 0, .int .i32 0, .int .i32 0, .int .i32 0, .int .u8 0, .int .u8 0, .int .u8 0, .int .i32 0, .int .i32 0, .int .i32 0, .int .i32 0, .int .u8 0, .int .u8 0, .int .u8 0, .slice none 0 0, .int .u16 0, .int .u16 0])] from hv13 ▸ hk13 ▸ (L12.out.more 34 #[.int .u64 0, .int .u64 0, .int .i32 0, .int .i32 0, .int .i32 0, .int .i32 0, .int .u8 0, .int .u8 0, .int .u8 0, .int .i32 0, .int .i32 0, .int .i32 0, .int .i32 0, .int .u8 0, .int .u8 0, .int .u8 0, .slice none 0 0, .int .u16 0, .int .u16 0]))
            have b13 : Below v12.heap.size v12 v13 := hv13 ▸ kb_alloc v12 _
            have Hs1_11_12_13 := Lib.hid (shs_to Hs1_11_12.out b13)
            have nes6_13 := Lib.hid (show ∀ a, ao1 = some a → s0.ss ≠ [] → a.block ≠ k13 from fun a e hn => by have := shs_lt Hs1_11_12.out a e hn; omega)
            have Ht12_13 := Lib.hid (shs_to Ht12.out b13)
            have net6_13 := Lib.hid (show ∀ a, ao12 = some a → t0.ss ≠ [] → a.block ≠ k13 from fun a e hn => by have := shs_lt Ht12.out a e hn; omega)
            clear hv13 b13 hk13
            refine hK _ _ ?_
            clear hK K
            refine wpTill_run (i := 7) (by kernel_rfl) rfl (L13.out.be) (fun K hK => ?_) 
            obtain ⟨v14, st14, l14, q14⟩ := L13.out.stA ty_state 0 rfl 0 (stc s0 ao1 cap1) (cs' := stc s0 ao1 cap1) rfl (L' := [(k11, 34, stc s0 ao1 cap1), (k13, 34, #[.int .u64 0, .int .u64 0, .int .i32 0, .int .i32 0, .int .i32 0, .int .i32 0, .int .u8 0, .int .u8 0, .int .u8 0, .int .i32 0, .int .i32 0, .int .i32 0, .int .i32 0, .int .u8 0, .int .u8 0, .int .u8 0, .slice none 0 0, .int .u16 0, .int .u16 0])]) rfl (Nat.le_of_ble_eq_true rfl) rfl rfl
            have L14 := Lib.hid l14
            have Hs1_11_12_13_14 := Lib.hid (shs_turn Hs1_11_12_13.out q14 nes5_11.out)
            have Ht12_13_14 := Lib.hid (shs_turn Ht12_13.out q14 net5_12.out)
            go_simp
            clear l14 q14 st14
            refine hK _ _ ?_
            clear hK K
            refine wpTill_run (i := 8) (by kernel_rfl) rfl (L14.out.be) (fun K hK => ?_) 
            obtain ⟨v15, st15, l15, q15⟩ := L14.out.stA ty_state 1 rfl 0 (stc t0 ao12 cap12) (cs' := stc t0 ao12 cap12) rfl (L' := [(k11, 34, stc s0 ao1 cap1), (k13, 34, stc t0 ao12 cap12)]) rfl (Nat.le_of_ble_eq_true rfl) rfl rfl
            have L15 := Lib.hid l15
            have Hs1_11_12_13_14_15 := Lib.hid (shs_turn Hs1_11_12_13_14.out q15 nes6_13.out)
            have Ht12_13_14_15 := Lib.hid (shs_turn Ht12_13_14.out q15 net6_13.out)
            go_simp
            clear l15 q15 st15
            refine hK _ _ ?_
            clear hK K
            refine wpTill_done (by kernel_rfl) ?_
            go_wp2_with fail
            go_meet
            exact ⟨k11, k13, ao1, cap1, ao12, cap12, rfl, rfl, ⟨_, rfl, ⟨L15.out.be, L15.out.get 0 rfl, L15.out.get 1 rfl, Hs1_11_12_13_14_15.out, Ht12_13_14_15.out, L15.out.bge 0 rfl, L15.out.bge 1 rfl, Bs1.out, Bt12.out⟩⟩⟩
          · go_simp
            obtain ⟨v16, hv16⟩ : ∃ v, v = v11.alloc (.cells #[.int .u64 0, .int .u64 0, .int .i32 0, .int .i32 0, .int .i32 0, .int .i32 0, .int .u8 0, .int .u8 0, .int .u8 0, .int .i32 0, .int .i32 0, .int .i32 0, .int .i32 0, .int .u8 0, .int .u8 0, .int .u8 0, .slice none 0 0, .int .u16 0, .int .u16 0] 34) := ⟨_, rfl⟩
            obtain ⟨k16, hk16⟩ : ∃ k, k = v11.heap.size := ⟨_, rfl⟩
            rw [← hv16, ← hk16]
            have L16 := Lib.hid (show Loc wd.heap.size wd v16 [(k11, 34, #[.int .u64 0, .int .u64 0, .int .i32 0, .int .i32 0, .int .i32 0, .int .i32 0, .int .u8 0, .int .u8 0, .int .u8 0, .int .i32 0, .int .i32 0, .int .i32 0, .int .i32 0, .int .u8 0, .int .u8 0, .int .u8 0, .slice none 0 0, .int .u16 0, .int .u16 0]), (k16, 34, #[.int .u64 0, .int .u64 0, .int .i32 0, .int .i32 0, .int .i32 0, .int .i32 0, .int .u8 0, .int .u8 0, .int .u8 0, .int .i32 0, .int .i32 0, .int .i32 0, .int .i32 0, .int .u8 0, .int .u8 0, .int .u8 0, .slice none 0 0, .int .u16 0, .int .u16 0])] from hv16 ▸ hk16 ▸ (L11.out.more 34 #[.int .u64 0, .int .u64 0, .int .i32 0, .int .i32 0, .int .i32 0, .int .i32 0, .int .u8 0, .int .u8 0, .int .u8 0, .int .i32 0, .int .i32 0, .int .i32 0, .int .i32 0, .int .u8 0, .int .u8 0, .int .u8 0, .slice none 0 0, .int .u16 0, .int .u16 0]))
            have b16 : Below v11.heap.size v11 v16 := hv16 ▸ kb_alloc v11 _
            have Hs1_11_16 := Lib.hid (shs_to Hs1_11.out b16)
            have nes6_16 := Lib.hid (show ∀ a, ao1 = some a → s0.ss ≠ [] → a.block ≠ k16 from fun a e hn => by have := shs_lt Hs1_11.out a e hn; omega)
            clear hv16 b16 hk16
            refine hK _ _ ?_
            clear hK K
            refine wpTill_run (i := 4) (by kernel_rfl) rfl (L16.out.be) (fun K hK => ?_) 
            go_simp
            go_at_call 30
            refine (R2.out v16 L16.out.be).mono ?_
            rintro R v17 ⟨ao17, cap17, rfl, hs17, hr17, hb17⟩
            have L17 := Lib.hid (L16.out.to hb17)
            have net5_17 := Lib.hid (show ∀ a, ao17 = some a → t0.ss ≠ [] → a.block ≠ k11 from fun a e hn => by have h1 := hr17 a e hn; have h2 := L16.out.low (e := (k11, 34, #[.int .u64 0, .int .u64 0, .int .i32 0, .int .i32 0, .int .i32 0, .int .i32 0, .int .u8 0, .int .u8 0, .int .u8 0, .int .i32 0, .int .i32 0, .int .i32 0, .int .i32 0, .int .u8 0, .int .u8 0, .int .u8 0, .slice none 0 0, .int .u16 0, .int .u16 0])) (by simp); dsimp only at h2; omega)
            have net6_17 := Lib.hid (show ∀ a, ao17 = some a → t0.ss ≠ [] → a.block ≠ k16 from fun a e hn => by have h1 := hr17 a e hn; have h2 := L16.out.low (e := (k16, 34, #[.int .u64 0, .int .u64 0, .int .i32 0, .int .i32 0, .int .i32 0, .int .i32 0, .int .u8 0, .int .u8 0, .int .u8 0, .int .i32 0, .int .i32 0, .int .i32 0, .int .i32 0, .int .u8 0, .int .u8 0, .int .u8 0, .slice none 0 0, .int .u16 0, .int .u16 0])) (by simp); dsimp only at h2; omega)
            have Hs1_11_16_17 := Lib.hid (shs_to Hs1_11_16.out hb17)
            have Ht17 := Lib.hid hs17
            have Bt17 := Lib.hid (show ∀ a, ao17 = some a → t0.ss ≠ [] → wd.heap.size ≤ a.block from fun a e hn => Nat.le_trans L16.out.be.size (hr17 a e hn))
            clear hs17 hr17 hb17
            refine hK _ _ ?_
            clear hK K
            refine wpTill_run (i := 7) (by kernel_rfl) rfl (L17.out.be) (fun K hK => ?_) 
            obtain ⟨v18, st18, l18, q18⟩ := L17.out.stA ty_state 0 rfl 0 (stc s0 ao1 cap1) (cs' := stc s0 ao1 cap1) rfl (L' := [(k11, 34, stc s0 ao1 cap1), (k16, 34, #[.int .u64 0, .int .u64 0, .int .i32 0, .int .i32 0, .int .i32 0, .int .i32 0, .int .u8 0, .int .u8 0, .int .u8 0, .int .i32 0, .int .i32 0, .int .i32 0, .int .i32 0, .int .u8 0, .int .u8 0, .int .u8 0, .slice none 0 0, .int .u16 0, .int .u16 0])]) rfl (Nat.le_of_ble_eq_true rfl) rfl rfl
            have L18 := Lib.hid l18
            have Hs1_11_16_17_18 := Lib.hid (shs_turn Hs1_11_16_17.out q18 nes5_11.out)
            have Ht17_18 := Lib.hid (shs_turn Ht17.out q18 net5_17.out)
            go_simp
            clear l18 q18 st18
            refine hK _ _ ?_
            clear hK K
            refine wpTill_run (i := 8) (by kernel_rfl) rfl (L18.out.be) (fun K hK => ?_) 
            obtain ⟨v19, st19, l19, q19⟩ := L18.out.stA ty_state 1 rfl 0 (stc t0 ao17 cap17) (cs' := stc t0 ao17 cap17) rfl (L' := [(k11, 34, stc s0 ao1 cap1), (k16, 34, stc t0 ao17 cap17)]) rfl (Nat.le_of_ble_eq_true rfl) rfl rfl
            have L19 := Lib.hid l19
            have Hs1_11_16_17_18_19 := Lib.hid (shs_turn Hs1_11_16_17_18.out q19 nes6_16.out)
            have Ht17_18_19 := Lib.hid (shs_turn Ht17_18.out q19 net6_17.out)
            go_simp
            clear l19 q19 st19
            refine hK _ _ ?_
            clear hK K
            refine wpTill_done (by kernel_rfl) ?_
            go_wp2_with fail
            go_meet
            exact ⟨k11, k16, ao1, cap1, ao17, cap17, rfl, rfl, ⟨_, rfl, ⟨L19.out.be, L19.out.get 0 rfl, L19.out.get 1 rfl, Hs1_11_16_17_18_19.out, Ht17_18_19.out, L19.out.bge 0 rfl, L19.out.bge 1 rfl, Bs1.out, Bt17.out⟩⟩⟩
        · go_simp
          obtain ⟨v20, hv20⟩ : ∃ v, v = v1.alloc (.cells #[.int .u64 0, .int .u64 0, .int .i32 0, .int .i32 0, .int .i32 0, .int .i32 0, .int .u8 0, .int .u8 0, .int .u8 0, .int .i32 0, .int .i32 0, .int .i32 0, .int .i32 0, .int .u8 0, .int .u8 0, .int .u8 0, .slice none 0 0, .int .u16 0, .int .u16 0] 34) := ⟨_, rfl⟩
          obtain ⟨k20, hk20⟩ : ∃ k, k = v1.heap.size := ⟨_, rfl⟩
          rw [← hv20, ← hk20]
          have L20 := Lib.hid (show Loc wd.heap.size wd v20 [(k20, 34, #[.int .u64 0, .int .u64 0, .int .i32 0, .int .i32 0, .int .i32 0, .int .i32 0, .int .u8 0, .int .u8 0, .int .u8 0, .int .i32 0, .int .i32 0, .int .i32 0, .int .i32 0, .int .u8 0, .int .u8 0, .int .u8 0, .slice none 0 0, .int .u16 0, .int .u16 0])] from hv20 ▸ hk20 ▸ (L1.out.more 34 #[.int .u64 0, .int .u64 0, .int .i32 0, .int .i32 0, .int .i32 0, .int .i32 0, .int .u8 0, .int .u8 0, .int .u8 0, .int .i32 0, .int .i32 0, .int .i32 0, .int .i32 0, .int .u8 0, .int .u8 0, .int .u8 0, .slice none 0 0, .int .u16 0, .int .u16 0]))
          have b20 : Below v1.heap.size v1 v20 := hv20 ▸ kb_alloc v1 _
          have Hs1_20 := Lib.hid (shs_to Hs1.out b20)
          have nes6_20 := Lib.hid (show ∀ a, ao1 = some a → s0.ss ≠ [] → a.block ≠ k20 from fun a e hn => by have := shs_lt Hs1.out a e hn; omega)
          clear hv20 b20 hk20
          refine hK _ _ ?_
          clear hK K
          refine wpTill_pair (i := 4) (j := 5) (by kernel_rfl) rfl rfl (L20.out.be) (fun K hK => ?_) (fun K hK => ?_) 
          · go_simp
            go_at_call 30
            refine (R2.out v20 L20.out.be).mono ?_
            rintro R v21 ⟨ao21, cap21, rfl, hs21, hr21, hb21⟩
            have L21 := Lib.hid (L20.out.to hb21)
            have net6_21 := Lib.hid (show ∀ a, ao21 = some a → t0.ss ≠ [] → a.block ≠ k20 from fun a e hn => by have h1 := hr21 a e hn; have h2 := L20.out.low (e := (k20, 34, #[.int .u64 0, .int .u64 0, .int .i32 0, .int .i32 0, .int .i32 0, .int .i32 0, .int .u8 0, .int .u8 0, .int .u8 0, .int .i32 0, .int .i32 0, .int .i32 0, .int .i32 0, .int .u8 0, .int .u8 0, .int .u8 0, .slice none 0 0, .int .u16 0, .int .u16 0])) (by simp); dsimp only at h2; omega)
            have Hs1_20_21 := Lib.hid (shs_to Hs1_20.out hb21)
            have Ht21 := Lib.hid hs21
            have Bt21 := Lib.hid (show ∀ a, ao21 = some a → t0.ss ≠ [] → wd.heap.size ≤ a.block from fun a e hn => Nat.le_trans L20.out.be.size (hr21 a e hn))
            clear hs21 hr21 hb21
            refine hK _ _ ?_
            clear hK K
            refine wpTill_run (i := 5) (by kernel_rfl) rfl (L21.out.be) (fun K hK => ?_) 
            go_simp
            obtain ⟨v22, hv22⟩ : ∃ v, v = v21.alloc (.cells #[.int .u64 0, .int .u64 0, .int .i32 0, .int .i32 0, .int .i32 0, .int .i32 0, .int .u8 0, .int .u8 0, .int .u8 0, .int .i32 0, .int .i32 0, .int .i32 0, .int .i32 0, .int .u8 0, .int .u8 0, .int .u8 0, .slice none 0 0, .int .u16 0, .int .u16 0] 34) := ⟨_, rfl⟩
            obtain ⟨k22, hk22⟩ : ∃ k, k = v21.heap.size := ⟨_, rfl⟩
            rw [← hv22, ← hk22]
            have L22 := Lib.hid (show Loc wd.heap.size wd v22 [(k20, 34, #[.int .u64 0, .int .u64 0, .int .i32 0, .int .i32 0, .int .i32 0, .int .i32 0, .int .u8 0, .int .u8 0, .int .u8 0, .int .i32 0, .int .i32 0, .int .i32 0, .int .i32 0, .int .u8 0, .int .u8 0, .int .u8 0, .slice none 0 0, .int .u16 0, .int .u16 0]), (k22, 34, #[.int .u64 0, .int .u64 0, .int .i32 0, .int .i32 0, .int .i32 0, .int .i32 0, .int .u8 0, .int .u8 0, .int .u8 0, .int .i32 0, .int .i32 0, .int .i32 0, .int .i32 0, .int .u8 0, .int .u8 0, .int .u8 0, .slice none 0 0, .int .u16 0, .int .u16 0])] from hv22 ▸ hk22 ▸ (L21.out.more 34 #[.int .u64 0, .int .u64 0, .int .i32 0, .int .i32 0, .int .i32 0, .int .i32 0, .int .u8 0, .int .u8 0, .int .u8 0, .int .i32 0, .int .i32 0, .int .i32 0, .int .i32 0, .int .u8 0, .int .u8 0, .int .u8 0, .slice none 0 0, .int .u16 0, .int .u16 0]))
            have b22 : Below v21.heap.size v21 v22 := hv22 ▸ kb_alloc v21 _
            have Hs1_20_21_22 := Lib.hid (shs_to Hs1_20_21.out b22)
            have nes5_22 := Lib.hid (show ∀ a, ao1 = some a → s0.ss ≠ [] → a.block ≠ k22 from fun a e hn => by have := shs_lt Hs1_20_21.out a e hn; omega)
            have Ht21_22 := Lib.hid (shs_to Ht21.out b22)
            have net5_22 := Lib.hid (show ∀ a, ao21 = some a → t0.ss ≠ [] → a.block ≠ k22 from fun a e hn => by have := shs_lt Ht21.out a e hn; omega)
            clear hv22 b22 hk22
            refine hK _ _ ?_
            clear hK K
            refine wpTill_run (i := 7) (by kernel_rfl) rfl (L22.out.be) (fun K hK => ?_) 
            obtain ⟨v23, st23, l23, q23⟩ := L22.out.stA ty_state 1 rfl 0 (stc s0 ao1 cap1) (cs' := stc s0 ao1 cap1) rfl (L' := [(k20, 34, #[.int .u64 0, .int .u64 0, .int .i32 0, .int .i32 0, .int .i32 0, .int .i32 0, .int .u8 0, .int .u8 0, .int .u8 0, .int .i32 0, .int .i32 0, .int .i32 0, .int .i32 0, .int .u8 0, .int .u8 0, .int .u8 0, .slice none 0 0, .int .u16 0, .int .u16 0]), (k22, 34, stc s0 ao1 cap1)]) rfl (Nat.le_of_ble_eq_true rfl) rfl rfl
            have L23 := Lib.hid l23
            have Hs1_20_21_22_23 := Lib.hid (shs_turn Hs1_20_21_22.out q23 nes5_22.out)
            have Ht21_22_23 := Lib.hid (shs_turn Ht21_22.out q23 net5_22.out)
            go_simp
            clear l23 q23 st23
            refine hK _ _ ?_
            clear hK K
            refine wpTill_run (i := 8) (by kernel_rfl) rfl (L23.out.be) (fun K hK => ?_) 
            obtain ⟨v24, st24, l24, q24⟩ := L23.out.stA ty_state 0 rfl 0 (stc t0 ao21 cap21) (cs' := stc t0 ao21 cap21) rfl (L' := [(k20, 34, stc t0 ao21 cap21), (k22, 34, stc s0 ao1 cap1)]) rfl (Nat.le_of_ble_eq_true rfl) rfl rfl
            have L24 := Lib.hid l24
            have Hs1_20_21_22_23_24 := Lib.hid (shs_turn Hs1_20_21_22_23.out q24 nes6_20.out)
            have Ht21_22_23_24 := Lib.hid (shs_turn Ht21_22_23.out q24 net6_21.out)
            go_simp
            clear l24 q24 st24
            refine hK _ _ ?_
            clear hK K
            refine wpTill_done (by kernel_rfl) ?_
            go_wp2_with fail
            go_meet
            exact ⟨k22, k20, ao1, cap1, ao21, cap21, rfl, rfl, ⟨_, rfl, ⟨L24.out.be, L24.out.get 1 rfl, L24.out.get 0 rfl, Hs1_20_21_22_23_24.out, Ht21_22_23_24.out, L24.out.bge 1 rfl, L24.out.bge 0 rfl, Bs1.out, Bt21.out⟩⟩⟩
          · go_simp
            obtain ⟨v25, hv25⟩ : ∃ v, v = v20.alloc (.cells #[.int .u64 0, .int .u64 0, .int .i32 0, .int .i32 0, .int .i32 0, .int .i32 0, .int .u8 0, .int .u8 0, .int .u8 0, .int .i32 0, .int .i32 0, .int .i32 0, .int .i32 0, .int .u8 0, .int .u8 0, .int .u8 0, .slice none 0 0, .int .u16 0, .int .u16 0] 34) := ⟨_, rfl⟩
            obtain ⟨k25, hk25⟩ : ∃ k, k = v20.heap.size := ⟨_, rfl⟩
            rw [← hv25, ← hk25]
            have L25 := Lib.hid (show Loc wd.heap.size wd v25 [(k20, 34, #[.int .u64 0, .int .u64 0, .int .i32 0, .int .i32 0, .int .i32 0, .int .i32 0, .int .u8 0, .int .u8 0, .int .u8 0, .int .i32 0, .int .i32 0, .int .i32 0, .int .i32 0, .int .u8 0, .int .u8 0, .int .u8 0, .slice none 0 0, .int .u16 0, .int .u16 0]), (k25, 34, #[.int .u64 0, .int .u64 0, .int .i32 0, .int .i32 0, .int .i32 0, .int .i32 0, .int .u8 0, .int .u8 0, .int .u8 0, .int .i32 0, .int .i32 0, .int .i32 0, .int .i32 0, .int .u8 0, .int .u8 0, .int .u8 0, .slice none 0 0, .int .u16 0, .int .u16 0])] from hv25 ▸ hk25 ▸ (L20.out.more 34 #[.int .u64 0, .int .u64 0, .int .i32 0, .int .i32 0, .int .i32 0, .int .i32 0, .int .u8 0, .int .u8 0, .int .u8 0, .int .i32 0, .int .i32 0, .int .i32 0, .int .i32 0, .int .u8 0, .int .u8 0, .int .u8 0, .slice none 0 0, .int .u16 0, .int .u16 0]))
            have b25 : Below v20.heap.size v20 v25 := hv25 ▸ kb_alloc v20 _
            have Hs1_20_25 := Lib.hid (shs_to Hs1_20.out b25)
            have nes5_25 := Lib.hid (show ∀ a, ao1 = some a → s0.ss ≠ [] → a.block ≠ k25 from fun a e hn => by have := shs_lt Hs1_20.out a e hn; omega)
            clear hv25 b25 hk25
            refine hK _ _ ?_
            clear hK K
            refine wpTill_run (i := 4) (by kernel_rfl) rfl (L25.out.be) (fun K hK => ?_) 
            go_simp
            go_at_call 30
            refine (R2.out v25 L25.out.be).mono ?_
            rintro R v26 ⟨ao26, cap26, rfl, hs26, hr26, hb26⟩
            have L26 := Lib.hid (L25.out.to hb26)
            have net6_26 := Lib.hid (show ∀ a, ao26 = some a → t0.ss ≠ [] → a.block ≠ k20 from fun a e hn => by have h1 := hr26 a e hn; have h2 := L25.out.low (e := (k20, 34, #[.int .u64 0, .int .u64 0, .int .i32 0, .int .i32 0, .int .i32 0, .int .i32 0, .int .u8 0, .int .u8 0, .int .u8 0, .int .i32 0, .int .i32 0, .int .i32 0, .int .i32 0, .int .u8 0, .int .u8 0, .int .u8 0, .slice none 0 0, .int .u16 0, .int .u16 0])) (by simp); dsimp only at h2; omega)
            have net5_26 := Lib.hid (show ∀ a, ao26 = some a → t0.ss ≠ [] → a.block ≠ k25 from fun a e hn => by have h1 := hr26 a e hn; have h2 := L25.out.low (e := (k25, 34, #[.int .u64 0, .int .u64 0, .int .i32 0, .int .i32 0, .int .i32 0, .int .i32 0, .int .u8 0, .int .u8 0, .int .u8 0, .int .i32 0, .int .i32 0, .int .i32 0, .int .i32 0, .int .u8 0, .int .u8 0, .int .u8 0, .slice none 0 0, .int .u16 0, .int .u16 0])) (by simp); dsimp only at h2; omega)
            have Hs1_20_25_26 := Lib.hid (shs_to Hs1_20_25.out hb26)
            have Ht26 := Lib.hid hs26
            have Bt26 := Lib.hid (show ∀ a, ao26 = some a → t0.ss ≠ [] → wd.heap.size ≤ a.block from fun a e hn => Nat.le_trans L25.out.be.size (hr26 a e hn))
            clear hs26 hr26 hb26
            refine hK _ _ ?_
            clear hK K
            refine wpTill_run (i := 7) (by kernel_rfl) rfl (L26.out.be) (fun K hK => ?_) 
            obtain ⟨v27, st27, l27, q27⟩ := L26.out.stA ty_state 1 rfl 0 (stc s0 ao1 cap1) (cs' := stc s0 ao1 cap1) rfl (L' := [(k20, 34, #[.int .u64 0, .int .u64 0, .int .i32 0, .int .i32 0, .int .i32 0, .int .i32 0, .int .u8 0, .int .u8 0, .int .u8 0, .int .i32 0, .int .i32 0, .int .i32 0, .int .i32 0, .int .u8 0, .int .u8 0, .int .u8 0, .slice none 0 0, .int .u16 0, .int .u16 0]), (k25, 34, stc s0 ao1 cap1)]) rfl (Nat.le_of_ble_eq_true rfl) rfl rfl
            have L27 := Lib.hid l27
            have Hs1_20_25_26_27 := Lib.hid (shs_turn Hs1_20_25_26.out q27 nes5_25.out)
            have Ht26_27 := Lib.hid (shs_turn Ht26.out q27 net5_26.out)
            go_simp
            clear l27 q27 st27
            refine hK _ _ ?_
            clear hK K
            refine wpTill_run (i := 8) (by kernel_rfl) rfl (L27.out.be) (fun K hK => ?_) 
            obtain ⟨v28, st28, l28, q28⟩ := L27.out.stA ty_state 0 rfl 0 (stc t0 ao26 cap26) (cs' := stc t0 ao26 cap26) rfl (L' := [(k20, 34, stc t0 ao26 cap26), (k25, 34, stc s0 ao1 cap1)]) rfl (Nat.le_of_ble_eq_true rfl) rfl rfl
            have L28 := Lib.hid l28
            have Hs1_20_25_26_27_28 := Lib.hid (shs_turn Hs1_20_25_26_27.out q28 nes6_20.out)
            have Ht26_27_28 := Lib.hid (shs_turn Ht26_27.out q28 net6_26.out)
            go_simp
            clear l28 q28 st28
            refine hK _ _ ?_
            clear hK K
            refine wpTill_done (by kernel_rfl) ?_
            go_wp2_with fail
            go_meet
            exact ⟨k25, k20, ao1, cap1, ao26, cap26, rfl, rfl, ⟨_, rfl, ⟨L28.out.be, L28.out.get 1 rfl, L28.out.get 0 rfl, Hs1_20_25_26_27_28.out, Ht26_27_28.out, L28.out.bge 1 rfl, L28.out.bge 0 rfl, Bs1.out, Bt26.out⟩⟩⟩
      · go_simp
        obtain ⟨v29, hv29⟩ : ∃ v, v = wd.alloc (.cells #[.int .u64 0, .int .u64 0, .int .i32 0, .int .i32 0, .int .i32 0, .int .i32 0, .int .u8 0, .int .u8 0, .int .u8 0, .int .i32 0, .int .i32 0, .int .i32 0, .int .i32 0, .int .u8 0, .int .u8 0, .int .u8 0, .slice none 0 0, .int .u16 0, .int .u16 0] 34) := ⟨_, rfl⟩
        obtain ⟨k29, hk29⟩ : ∃ k, k = wd.heap.size := ⟨_, rfl⟩
        rw [← hv29, ← hk29]
        have L29 := Lib.hid (show Loc wd.heap.size wd v29 [(k29, 34, #[.int .u64 0, .int .u64 0, .int .i32 0, .int .i32 0, .int .i32 0, .int .i32 0, .int .u8 0, .int .u8 0, .int .u8 0, .int .i32 0, .int .i32 0, .int .i32 0, .int .i32 0, .int .u8 0, .int .u8 0, .int .u8 0, .slice none 0 0, .int .u16 0, .int .u16 0])] from hv29 ▸ hk29 ▸ (LL.out.more 34 #[.int .u64 0, .int .u64 0, .int .i32 0, .int .i32 0, .int .i32 0, .int .i32 0, .int .u8 0, .int .u8 0, .int .u8 0, .int .i32 0, .int .i32 0, .int .i32 0, .int .i32 0, .int .u8 0, .int .u8 0, .int .u8 0, .slice none 0 0, .int .u16 0, .int .u16 0]))
        have b29 : Below wd.heap.size wd v29 := hv29 ▸ kb_alloc wd _
        clear hv29 b29 hk29
        refine hK _ _ ?_
        clear hK K
        refine wpTill_pair (i := 1) (j := 6) (by kernel_rfl) rfl rfl (L29.out.be) (fun K hK => ?_) (fun K hK => ?_) 
        · go_simp
          go_at_call 30
          refine (R1.out v29 L29.out.be).mono ?_
          rintro R v30 ⟨ao30, cap30, rfl, hs30, hr30, hb30⟩
          have L30 := Lib.hid (L29.out.to hb30)
          have nes5_30 := Lib.hid (show ∀ a, ao30 = some a → s0.ss ≠ [] → a.block ≠ k29 from fun a e hn => by have h1 := hr30 a e hn; have h2 := L29.out.low (e := (k29, 34, #[.int .u64 0, .int .u64 0, .int .i32 0, .int .i32 0, .int .i32 0, .int .i32 0, .int .u8 0, .int .u8 0, .int .u8 0, .int .i32 0, .int .i32 0, .int .i32 0, .int .i32 0, .int .u8 0, .int .u8 0, .int .u8 0, .slice none 0 0, .int .u16 0, .int .u16 0])) (by simp); dsimp only at h2; omega)
          have Hs30 := Lib.hid hs30
          have Bs30 := Lib.hid (show ∀ a, ao30 = some a → s0.ss ≠ [] → wd.heap.size ≤ a.block from fun a e hn => Nat.le_trans L29.out.be.size (hr30 a e hn))
          clear hs30 hr30 hb30
          refine hK _ _ ?_
          clear hK K
          refine wpTill_pair (i := 4) (j := 6) (by kernel_rfl) rfl rfl (L30.out.be) (fun K hK => ?_) (fun K hK => ?_) 
          · go_simp
            go_at_call 30
            refine (R2.out v30 L30.out.be).mono ?_
            rintro R v31 ⟨ao31, cap31, rfl, hs31, hr31, hb31⟩
            have L31 := Lib.hid (L30.out.to hb31)
            have net5_31 := Lib.hid (show ∀ a, ao31 = some a → t0.ss ≠ [] → a.block ≠ k29 from fun a e hn => by have h1 := hr31 a e hn; have h2 := L30.out.low (e := (k29, 34, #[.int .u64 0, .int .u64 0, .int .i32 0, .int .i32 0, .int .i32 0, .int .i32 0, .int .u8 0, .int .u8 0, .int .u8 0, .int .i32 0, .int .i32 0, .int .i32 0, .int .i32 0, .int .u8 0, .int .u8 0, .int .u8 0, .slice none 0 0, .int .u16 0, .int .u16 0])) (by simp); dsimp only at h2; omega)
            have Hs30_31 := Lib.hid (shs_to Hs30.out hb31)
            have Ht31 := Lib.hid hs31
            have Bt31 := Lib.hid (show ∀ a, ao31 = some a → t0.ss ≠ [] → wd.heap.size ≤ a.block from fun a e hn => Nat.le_trans L30.out.be.size (hr31 a e hn))
            clear hs31 hr31 hb31
            refine hK _ _ ?_
            clear hK K
            refine wpTill_run (i := 6) (by kernel_rfl) rfl (L31.out.be) (fun K hK => ?_) 
            go_simp
            obtain ⟨v32, hv32⟩ : ∃ v, v = v31.alloc (.cells #[.int .u64 0, .int .u64 0, .int .i32 0, .int .i32 0, .int .i32 0, .int .i32 0, .int .u8 0, .int .u8 0, .int .u8 0, .int .i32 0, .int .i32 0, .int .i32 0, .int .i32 0, .int .u8 0, .int .u8 0, .int .u8 0, .slice none 0 0, .int .u16 0, .int .u16 0] 34) := ⟨_, rfl⟩
            obtain ⟨k32, hk32⟩ : ∃ k, k = v31.heap.size := ⟨_, rfl⟩
            rw [← hv32, ← hk32]
            have L32 := Lib.hid (show Loc wd.heap.size wd v32 [(k29, 34, #[.int .u64 0, .int .u64 0, .int .i32 0, .int .i32 0, .int .i32 0, .int .i32 0, .int .u8 0, .int .u8 0, .int .u8 0, .int .i32 0, .int .i32 0, .int .i32 0, .int .i32 0, .int .u8 0, .int .u8 0, .int .u8 0, .slice none 0 0, .int .u16 0, .int .u16 0]), (k32, 34, #[.int .u64 0, .int .u64 0, .int .i32 0, .int .i32 0, .int .i32 0, .int .i32 0, .int .u8 0, .int .u8 0, .int .u8 0, .int .i32 0, .int .i32 0, .int .i32 0, .int .i32 0, .int .u8 0, .int .u8 0, .int .u8 0, .slice none 0 0, .int .u16 0, .int .u16 0])] from hv32 ▸ hk32 ▸ (L31.out.more 34 #[.int .u64 0, .int .u64 0, .int .i32 0, .int .i32 0, .int .i32 0, .int .i32 0, .int .u8 0, .int .u8 0, .int .u8 0, .int .i32 0, .int .i32 0, .int .i32 0, .int .i32 0, .int .u8 0, .int .u8 0, .int .u8 0, .slice none 0 0, .int .u16 0, .int .u16 0]))
            have b32 : Below v31.heap.size v31 v32 := hv32 ▸ kb_alloc v31 _
            have Hs30_31_32 := Lib.hid (shs_to Hs30_31.out b32)
            have nes6_32 := Lib.hid (show ∀ a, ao30 = some a → s0.ss ≠ [] → a.block ≠ k32 from fun a e hn => by have := shs_lt Hs30_31.out a e hn; omega)
            have Ht31_32 := Lib.hid (shs_to Ht31.out b32)
            have net6_32 := Lib.hid (show ∀ a, ao31 = some a → t0.ss ≠ [] → a.block ≠ k32 from fun a e hn => by have := shs_lt Ht31.out a e hn; omega)
            clear hv32 b32 hk32
            refine hK _ _ ?_
            clear hK K
            refine wpTill_run (i := 7) (by kernel_rfl) rfl (L32.out.be) (fun K hK => ?_) 
            obtain ⟨v33, st33, l33, q33⟩ := L32.out.stA ty_state 0 rfl 0 (stc s0 ao30 cap30) (cs' := stc s0 ao30 cap30) rfl (L' := [(k29, 34, stc s0 ao30 cap30), (k32, 34, #[.int .u64 0, .int .u64 0, .int .i32 0, .int .i32 0, .int .i32 0, .int .i32 0, .int .u8 0, .int .u8 0, .int .u8 0, .int .i32 0, .int .i32 0, .int .i32 0, .int .i32 0, .int .u8 0, .int .u8 0, .int .u8 0, .slice none 0 0, .int .u16 0, .int .u16 0])]) rfl (Nat.le_of_ble_eq_true rfl) rfl rfl
            have L33 := Lib.hid l33
            have Hs30_31_32_33 := Lib.hid (shs_turn Hs30_31_32.out q33 nes5_30.out)
            have Ht31_32_33 := Lib.hid (shs_turn Ht31_32.out q33 net5_31.out)
            go_simp
            clear l33 q33 st33
            refine hK _ _ ?_
            clear hK K
            refine wpTill_run (i := 8) (by kernel_rfl) rfl (L33.out.be) (fun K hK => ?_) 
            obtain ⟨v34, st34, l34, q34⟩ := L33.out.stA ty_state 1 rfl 0 (stc t0 ao31 cap31) (cs' := stc t0 ao31 cap31) rfl (L' := [(k29, 34, stc s0 ao30 cap30), (k32, 34, stc t0 ao31 cap31)]) rfl (Nat.le_of_ble_eq_true rfl) rfl rfl
            have L34 := Lib.hid l34
            have Hs30_31_32_33_34 := Lib.hid (shs_turn Hs30_31_32_33.out q34 nes6_32.out)
            have Ht31_32_33_34 := Lib.hid (shs_turn Ht31_32_33.out q34 net6_32.out)
            go_simp
            clear l34 q34 st34
            refine hK _ _ ?_
            clear hK K
            refine wpTill_done (by kernel_rfl) ?_
            go_wp2_with fail
            go_meet
            exact ⟨k29, k32, ao30, cap30, ao31, cap31, rfl, rfl, ⟨_, rfl, ⟨L34.out.be, L34.out.get 0 rfl, L34.out.get 1 rfl, Hs30_31_32_33_34.out, Ht31_32_33_34.out, L34.out.bge 0 rfl, L34.out.bge 1 rfl, Bs30.out, Bt31.out⟩⟩⟩
          · go_simp
            obtain ⟨v35, hv35⟩ : ∃ v, v = v30.alloc (.cells #[.int .u64 0, .int .u64 0, .int .i32 0, .int .i32 0, .int .i32 0, .int .i32 0, .int .u8 0, .int .u8 0, .int .u8 0, .int .i32 0, .int .i32 0, .int .i32 0, .int .i32 0, .int .u8 0, .int .u8 0, .int .u8 0, .slice none 0 0, .int .u16 0, .int .u16 0] 34) := ⟨_, rfl⟩
            obtain ⟨k35, hk35⟩ : ∃ k, k = v30.heap.size := ⟨_, rfl⟩
            rw [← hv35, ← hk35]
            have L35 := Lib.hid (show Loc wd.heap.size wd v35 [(k29, 34, #[.int .u64 0, .int .u64 0, .int .i32 0, .int .i32 0, .int .i32 0, .int .i32 0, .int .u8 0, .int .u8 0, .int .u8 0, .int .i32 0, .int .i32 0, .int .i32 0, .int .i32 0, .int .u8 0, .int .u8 0, .int .u8 0, .slice none 0 0, .int .u16 0, .int .u16 0]), (k35, 34, #[.int .u64 0, .int .u64 0, .int .i32 0, .int .i32 0, .int .i32 0, .int .i32 0, .int .u8 0, .int .u8 0, .int .u8 0, .int .i32 0, .int .i32 0, .int .i32 0, .int .i32 0, .int .u8 0, .int .u8 0, .int .u8 0, .slice none 0 0, .int .u16 0, .int .u16 0])] from hv35 ▸ hk35 ▸ (L30.out.more 34 #[.int .u64 0, .int .u64 0, .int .i32 0, .int .i32 0, .int .i32 0, .int .i32 0, .int .u8 0, .int .u8 0, .int .u8 0, .int .i32 0, .int .i32 0, .int .i32 0, .int .i32 0, .int .u8 0, .int .u8 0, .int .u8 0, .slice none 0 0, .int .u16 0, .int .u16 0]))
            have b35 : Below v30.heap.size v30 v35 := hv35 ▸ kb_alloc v30 _
            have Hs30_35 := Lib.hid (shs_to Hs30.out b35)
            have nes6_35 := Lib.hid (show ∀ a, ao30 = some a → s0.ss ≠ [] → a.block ≠ k35 from fun a e hn => by have := shs_lt Hs30.out a e hn; omega)
            clear hv35 b35 hk35
            refine hK _ _ ?_
            clear hK K
            refine wpTill_run (i := 4) (by kernel_rfl) rfl (L35.out.be) (fun K hK => ?_) 
            go_simp
            go_at_call 30
            refine (R2.out v35 L35.out.be).mono ?_
            rintro R v36 ⟨ao36, cap36, rfl, hs36, hr36, hb36⟩
            have L36 := Lib.hid (L35.out.to hb36)
            have net5_36 := Lib.hid (show ∀ a, ao36 = some a → t0.ss ≠ [] → a.block ≠ k29 from fun a e hn => by have h1 := hr36 a e hn; have h2 := L35.out.low (e := (k29, 34, #[.int .u64 0, .int .u64 0, .int .i32 0, .int .i32 0, .int .i32 0, .int .i32 0, .int .u8 0, .int .u8 0, .int .u8 0, .int .i32 0, .int .i32 0, .int .i32 0, .int .i32 0, .int .u8 0, .int .u8 0, .int .u8 0, .slice none 0 0, .int .u16 0, .int .u16 0])) (by simp); dsimp only at h2; omega)
            have net6_36 := Lib.hid (show ∀ a, ao36 = some a → t0.ss ≠ [] → a.block ≠ k35 from fun a e hn => by have h1 := hr36 a e hn; have h2 := L35.out.low (e := (k35, 34, #[.int .u64 0, .int .u64 0, .int .i32 0, .int .i32 0, .int .i32 0, .int .i32 0, .int .u8 0, .int .u8 0, .int .u8 0, .int .i32 0, .int .i32 0, .int .i32 0, .int .i32 0, .int .u8 0, .int .u8 0, .int .u8 0, .slice none 0 0, .int .u16 0, .int .u16 0])) (by simp); dsimp only at h2; omega)
            have Hs30_35_36 := Lib.hid (shs_to Hs30_35.out hb36)
            have Ht36 := Lib.hid hs36
            have Bt36 := Lib.hid (show ∀ a, ao36 = some a → t0.ss ≠ [] → wd.heap.size ≤ a.block from fun a e hn => Nat.le_trans L35.out.be.size (hr36 a e hn))
            clear hs36 hr36 hb36
            refine hK _ _ ?_
            clear hK K
            refine wpTill_run (i := 7) (by kernel_rfl) rfl (L36.out.be) (fun K hK => ?_) 
            obtain ⟨v37, st37, l37, q37⟩ := L36.out.stA ty_state 0 rfl 0 (stc s0 ao30 cap30) (cs' := stc s0 ao30 cap30) rfl (L' := [(k29, 34, stc s0 ao30 cap30), (k35, 34, #[.int .u64 0, .int .u64 0, .int .i32 0, .int .i32 0, .int .i32 0, .int .i32 0, .int .u8 0, .int .u8 0, .int .u8 0, .int .i32 0, .int .i32 0, .int .i32 0, .int .i32 0, .int .u8 0, .int .u8 0, .int .u8 0, .slice none 0 0, .int .u16 0, .int .u16 0])]) rfl (Nat.le_of_ble_eq_true rfl) rfl rfl
            have L37 := Lib.hid l37
            have Hs30_35_36_37 := Lib.hid (shs_turn Hs30_35_36.out q37 nes5_30.out)
            have Ht36_37 := Lib.hid (shs_turn Ht36.out q37 net5_36.out)
            go_simp
            clear l37 q37 st37
            refine hK _ _ ?_
            clear hK K
            refine wpTill_run (i := 8) (by kernel_rfl) rfl (L37.out.be) (fun K hK => ?_) 
            obtain ⟨v38, st38, l38, q38⟩ := L37.out.stA ty_state 1 rfl 0 (stc t0 ao36 cap36) (cs' := stc t0 ao36 cap36) rfl (L' := [(k29, 34, stc s0 ao30 cap30), (k35, 34, stc t0 ao36 cap36)]) rfl (Nat.le_of_ble_eq_true rfl) rfl rfl
            have L38 := Lib.hid l38
            have Hs30_35_36_37_38 := Lib.hid (shs_turn Hs30_35_36_37.out q38 nes6_35.out)
            have Ht36_37_38 := Lib.hid (shs_turn Ht36_37.out q38 net6_36.out)
            go_simp
            clear l38 q38 st38
            refine hK _ _ ?_
            clear hK K
            refine wpTill_done (by kernel_rfl) ?_
            go_wp2_with fail
            go_meet
            exact ⟨k29, k35, ao30, cap30, ao36, cap36, rfl, rfl, ⟨_, rfl, ⟨L38.out.be, L38.out.get 0 rfl, L38.out.get 1 rfl, Hs30_35_36_37_38.out, Ht36_37_38.out, L38.out.bge 0 rfl, L38.out.bge 1 rfl, Bs30.out, Bt36.out⟩⟩⟩
        · go_simp
          obtain ⟨v39, hv39⟩ : ∃ v, v = v29.alloc (.cells #[.int .u64 0, .int .u64 0, .int .i32 0, .int .i32 0, .int .i32 0, .int .i32 0, .int .u8 0, .int .u8 0, .int .u8 0, .int .i32 0, .int .i32 0, .int .i32 0, .int .i32 0, .int .u8 0, .int .u8 0, .int .u8 0, .slice none 0 0, .int .u16 0, .int .u16 0] 34) := ⟨_, rfl⟩
          obtain ⟨k39, hk39⟩ : ∃ k, k = v29.heap.size := ⟨_, rfl⟩
          rw [← hv39, ← hk39]
          have L39 := Lib.hid (show Loc wd.heap.size wd v39 [(k29, 34, #[.int .u64 0, .int .u64 0, .int .i32 0, .int .i32 0, .int .i32 0, .int .i32 0, .int .u8 0, .int .u8 0, .int .u8 0, .int .i32 0, .int .i32 0, .int .i32 0, .int .i32 0, .int .u8 0, .int .u8 0, .int .u8 0, .slice none 0 0, .int .u16 0, .int .u16 0]), (k39, 34, #[.int .u64 0, .int .u64 0, .int .i32 0, .int .i32 0, .int .i32 0, .int .i32 0, .int .u8 0, .int .u8 0, .int .u8 0, .int .i32 0, .int .i32 0, .int .i32 0, .int .i32 0, .int .u8 0, .int .u8 0, .int .u8 0, .slice none 0 0, .int .u16 0, .int .u16 0])] from hv39 ▸ hk39 ▸ (L29.out.more 34 #[.int .u64 0, .int .u64 0, .int .i32 0, .int .i32 0, .int .i32 0, .int .i32 0, .int .u8 0, .int .u8 0, .int .u8 0, .int .i32 0, .int .i32 0, .int .i32 0, .int .i32 0, .int .u8 0, .int .u8 0, .int .u8 0, .slice none 0 0, .int .u16 0, .int .u16 0]))
          have b39 : Below v29.heap.size v29 v39 := hv39 ▸ kb_alloc v29 _
          clear hv39 b39 hk39
          refine hK _ _ ?_
          clear hK K
          refine wpTill_run (i := 1) (by kernel_rfl) rfl (L39.out.be) (fun K hK => ?_) 
          go_simp
          go_at_call 30
          refine (R1.out v39 L39.out.be).mono ?_
          rintro R v40 ⟨ao40, cap40, rfl, hs40, hr40, hb40⟩
          have L40 := Lib.hid (L39.out.to hb40)
          have nes5_40 := Lib.hid (show ∀ a, ao40 = some a → s0.ss ≠ [] → a.block ≠ k29 from fun a e hn => by have h1 := hr40 a e hn; have h2 := L39.out.low (e := (k29, 34, #[.int .u64 0, .int .u64 0, .int .i32 0, .int .i32 0, .int .i32 0, .int .i32 0, .int .u8 0, .int .u8 0, .int .u8 0, .int .i32 0, .int .i32 0, .int .i32 0, .int .i32 0, .int .u8 0, .int .u8 0, .int .u8 0, .slice none 0 0, .int .u16 0, .int .u16 0])) (by simp); dsimp only at h2; omega)
          have nes6_40 := Lib.hid (show ∀ a, ao40 = some a → s0.ss ≠ [] → a.block ≠ k39 from fun a e hn => by have h1 := hr40 a e hn; have h2 := L39.out.low (e := (k39, 34, #[.int .u64 0, .int .u64 0, .int .i32 0, .int .i32 0, .int .i32 0, .int .i32 0, .int .u8 0, .int .u8 0, .int .u8 0, .int .i32 0, .int .i32 0, .int .i32 0, .int .i32 0, .int .u8 0, .int .u8 0, .int .u8 0, .slice none 0 0, .int .u16 0, .int .u16 0])) (by simp); dsimp only at h2; omega)
          have Hs40 := Lib.hid hs40
          have Bs40 := Lib.hid (show ∀ a, ao40 = some a → s0.ss ≠ [] → wd.heap.size ≤ a.block from fun a e hn => Nat.le_trans L39.out.be.size (hr40 a e hn))
          clear hs40 hr40 hb40
          refine hK _ _ ?_
          clear hK K
          refine wpTill_run (i := 4) (by kernel_rfl) rfl (L40.out.be) (fun K hK => ?_) 
          go_simp
          go_at_call 30
          refine (R2.out v40 L40.out.be).mono ?_
          rintro R v41 ⟨ao41, cap41, rfl, hs41, hr41, hb41⟩
          have L41 := Lib.hid (L40.out.to hb41)
          have net5_41 := Lib.hid (show ∀ a, ao41 = some a → t0.ss ≠ [] → a.block ≠ k29 from fun a e hn => by have h1 := hr41 a e hn; have h2 := L40.out.low (e := (k29, 34, #[.int .u64 0, .int .u64 0, .int .i32 0, .int .i32 0, .int .i32 0, .int .i32 0, .int .u8 0, .int .u8 0, .int .u8 0, .int .i32 0, .int .i32 0, .int .i32 0, .int .i32 0, .int .u8 0, .int .u8 0, .int .u8 0, .slice none 0 0, .int .u16 0, .int .u16 0])) (by simp); dsimp only at h2; omega)
          have net6_41 := Lib.hid (show ∀ a, ao41 = some a → t0.ss ≠ [] → a.block ≠ k39 from fun a e hn => by have h1 := hr41 a e hn; have h2 := L40.out.low (e := (k39, 34, #[.int .u64 0, .int .u64 0, .int .i32 0, .int .i32 0, .int .i32 0, .int .i32 0, .int .u8 0, .int .u8 0, .int .u8 0, .int .i32 0, .int .i32 0, .int .i32 0, .int .i32 0, .int .u8 0, .int .u8 0, .int .u8 0, .slice none 0 0, .int .u16 0, .int .u16 0])) (by simp); dsimp only at h2; omega)
          have Hs40_41 := Lib.hid (shs_to Hs40.out hb41)
          have Ht41 := Lib.hid hs41
          have Bt41 := Lib.hid (show ∀ a, ao41 = some a → t0.ss ≠ [] → wd.heap.size ≤ a.block from fun a e hn => Nat.le_trans L40.out.be.size (hr41 a e hn))
          clear hs41 hr41 hb41
          refine hK _ _ ?_
          clear hK K
          refine wpTill_run (i := 7) (by kernel_rfl) rfl (L41.out.be) (fun K hK => ?_) 
          obtain ⟨v42, st42, l42, q42⟩ := L41.out.stA ty_state 0 rfl 0 (stc s0 ao40 cap40) (cs' := stc s0 ao40 cap40) rfl (L' := [(k29, 34, stc s0 ao40 cap40), (k39, 34, #[.int .u64 0, .int .u64 0, .int .i32 0, .int .i32 0, .int .i32 0, .int .i32 0, .int .u8 0, .int .u8 0, .int .u8 0, .int .i32 0, .int .i32 0, .int .i32 0, .int .i32 0, .int .u8 0, .int .u8 0, .int .u8 0, .slice none 0 0, .int .u16 0, .int .u16 0])]) rfl (Nat.le_of_ble_eq_true rfl) rfl rfl
          have L42 := Lib.hid l42
          have Hs40_41_42 := Lib.hid (shs_turn Hs40_41.out q42 nes5_40.out)
          have Ht41_42 := Lib.hid (shs_turn Ht41.out q42 net5_41.out)
          go_simp
          clear l42 q42 st42
          refine hK _ _ ?_
          clear hK K
          refine wpTill_run (i := 8) (by kernel_rfl) rfl (L42.out.be) (fun K hK => ?_) 
          obtain ⟨v43, st43, l43, q43⟩ := L42.out.stA ty_state 1 rfl 0 (stc t0 ao41 cap41) (cs' := stc t0 ao41 cap41) rfl (L' := [(k29, 34, stc s0 ao40 cap40), (k39, 34, stc t0 ao41 cap41)]) rfl (Nat.le_of_ble_eq_true rfl) rfl rfl
          have L43 := Lib.hid l43
          have Hs40_41_42_43 := Lib.hid (shs_turn Hs40_41_42.out q43 nes6_40.out)
          have Ht41_42_43 := Lib.hid (shs_turn Ht41_42.out q43 net6_41.out)
          go_simp
          clear l43 q43 st43
          refine hK _ _ ?_
          clear hK K
          refine wpTill_done (by kernel_rfl) ?_
          go_wp2_with fail
          go_meet
          exact ⟨k29, k39, ao40, cap40, ao41, cap41, rfl, rfl, ⟨_, rfl, ⟨L43.out.be, L43.out.get 0 rfl, L43.out.get 1 rfl, Hs40_41_42_43.out, Ht41_42_43.out, L43.out.bge 0 rfl, L43.out.bge 1 rfl, Bs40.out, Bt41.out⟩⟩⟩
      · go_simp
        obtain ⟨v44, hv44⟩ : ∃ v, v = wd.alloc (.cells #[.int .u64 0, .int .u64 0, .int .i32 0, .int .i32 0, .int .i32 0, .int .i32 0, .int .u8 0, .int .u8 0, .int .u8 0, .int .i32 0, .int .i32 0, .int .i32 0, .int .i32 0, .int .u8 0, .int .u8 0, .int .u8 0, .slice none 0 0, .int .u16 0, .int .u16 0] 34) := ⟨_, rfl⟩
        obtain ⟨k44, hk44⟩ : ∃ k, k = wd.heap.size := ⟨_, rfl⟩
        rw [← hv44, ← hk44]
        have L44 := Lib.hid (show Loc wd.heap.size wd v44 [(k44, 34, #[.int .u64 0, .int .u64 0, .int .i32 0, .int .i32 0, .int .i32 0, .int .i32 0, .int .u8 0, .int .u8 0, .int .u8 0, .int .i32 0, .int .i32 0, .int .i32 0, .int .i32 0, .int .u8 0, .int .u8 0, .int .u8 0, .slice none 0 0, .int .u16 0, .int .u16 0])] from hv44 ▸ hk44 ▸ (LL.out.more 34 #[.int .u64 0, .int .u64 0, .int .i32 0, .int .i32 0, .int .i32 0, .int .i32 0, .int .u8 0, .int .u8 0, .int .u8 0, .int .i32 0, .int .i32 0, .int .i32 0, .int .i32 0, .int .u8 0, .int .u8 0, .int .u8 0, .slice none 0 0, .int .u16 0, .int .u16 0]))
        have b44 : Below wd.heap.size wd v44 := hv44 ▸ kb_alloc wd _
        clear hv44 b44 hk44
        refine hK _ _ ?_
        clear hK K
        refine wpTill_pair (i := 1) (j := 5) (by kernel_rfl) rfl rfl (L44.out.be) (fun K hK => ?_) (fun K hK => ?_) 
        · go_simp
          go_at_call 30
          refine (R1.out v44 L44.out.be).mono ?_
          rintro R v45 ⟨ao45, cap45, rfl, hs45, hr45, hb45⟩
          have L45 := Lib.hid (L44.out.to hb45)
          have nes6_45 := Lib.hid (show ∀ a, ao45 = some a → s0.ss ≠ [] → a.block ≠ k44 from fun a e hn => by have h1 := hr45 a e hn; have h2 := L44.out.low (e := (k44, 34, #[.int .u64 0, .int .u64 0, .int .i32 0, .int .i32 0, .int .i32 0, .int .i32 0, .int .u8 0, .int .u8 0, .int .u8 0, .int .i32 0, .int .i32 0, .int .i32 0, .int .i32 0, .int .u8 0, .int .u8 0, .int .u8 0, .slice none 0 0, .int .u16 0, .int .u16 0])) (by simp); dsimp only at h2; omega)
          have Hs45 := Lib.hid hs45
          have Bs45 := Lib.hid (show ∀ a, ao45 = some a → s0.ss ≠ [] → wd.heap.size ≤ a.block from fun a e hn => Nat.le_trans L44.out.be.size (hr45 a e hn))
          clear hs45 hr45 hb45
          refine hK _ _ ?_
          clear hK K
          refine wpTill_pair (i := 4) (j := 5) (by kernel_rfl) rfl rfl (L45.out.be) (fun K hK => ?_) (fun K hK => ?_) 
          · go_simp
            go_at_call 30
            refine (R2.out v45 L45.out.be).mono ?_
            rintro R v46 ⟨ao46, cap46, rfl, hs46, hr46, hb46⟩
            have L46 := Lib.hid (L45.out.to hb46)
            have net6_46 := Lib.hid (show ∀ a, ao46 = some a → t0.ss ≠ [] → a.block ≠ k44 from fun a e hn => by have h1 := hr46 a e hn; have h2 := L45.out.low (e := (k44, 34, #[.int .u64 0, .int .u64 0, .int .i32 0, .int .i32 0, .int .i32 0, .int .i32 0, .int .u8 0, .int .u8 0, .int .u8 0, .int .i32 0, .int .i32 0, .int .i32 0, .int .i32 0, .int .u8 0, .int .u8 0, .int .u8 0, .slice none 0 0, .int .u16 0, .int .u16 0])) (by simp); dsimp only at h2; omega)
            have Hs45_46 := Lib.hid (shs_to Hs45.out hb46)
            have Ht46 := Lib.hid hs46
            have Bt46 := Lib.hid (show ∀ a, ao46 = some a → t0.ss ≠ [] → wd.heap.size ≤ a.block from fun a e hn => Nat.le_trans L45.out.be.size (hr46 a e hn))
            clear hs46 hr46 hb46
            refine hK _ _ ?_
            clear hK K
            refine wpTill_run (i := 5) (by kernel_rfl) rfl (L46.out.be) (fun K hK => ?_) 
            go_simp
            obtain ⟨v47, hv47⟩ : ∃ v, v = v46.alloc (.cells #[.int .u64 0, .int .u64 0, .int .i32 0, .int .i32 0, .int .i32 0, .int .i32 0, .int .u8 0, .int .u8 0, .int .u8 0, .int .i32 0, .int .i32 0, .int .i32 0, .int .i32 0, .int .u8 0, .int .u8 0, .int .u8 0, .slice none 0 0, .int .u16 0, .int .u16 0] 34) := ⟨_, rfl⟩
            obtain ⟨k47, hk47⟩ : ∃ k, k = v46.heap.size := ⟨_, rfl⟩
            rw [← hv47, ← hk47]
            have L47 := Lib.hid (show Loc wd.heap.size wd v47 [(k44, 34, #[.int .u64 0, .int .u64 0, .int .i32 0, .int .i32 0, .int .i32 0, .int .i32 0, .int .u8 0, .int .u8 0, .int .u8 0, .int .i32 0, .int .i32 0, .int .i32 0, .int .i32 0, .int .u8 0, .int .u8 0, .int .u8 0, .slice none 0 0, .int .u16 0, .int .u16 0]), (k47, 34, #[.int .u64 0, .int .u64 0, .int .i32 0, .int .i32 0, .int .i32 0, .int .i32 0, .int .u8 0, .int .u8 0, .int .u8 0, .int .i32 0, .int .i32 0, .int .i32 0, .int .i32 0, .int .u8 0, .int .u8 0, .int .u8 0, .slice none 0 0, .int .u16 0, .int .u16 0])] from hv47 ▸ hk47 ▸ (L46.out.more 34 #[.int .u64 0, .int .u64 0, .int .i32 0, .int .i32 0, .int .i32 0, .int .i32 0, .int .u8 0, .int .u8 0, .int .u8 0, .int .i32 0, .int .i32 0, .int .i32 0, .int .i32 0, .int .u8 0, .int .u8 0, .int .u8 0, .slice none 0 0, .int .u16 0, .int .u16 0]))
            have b47 : Below v46.heap.size v46 v47 := hv47 ▸ kb_alloc v46 _
            have Hs45_46_47 := Lib.hid (shs_to Hs45_46.out b47)
            have nes5_47 := Lib.hid (show ∀ a, ao45 = some a → s0.ss ≠ [] → a.block ≠ k47 from fun a e hn => by have := shs_lt Hs45_46.out a e hn; omega)
            have Ht46_47 := Lib.hid (shs_to Ht46.out b47)
            have net5_47 := Lib.hid (show ∀ a, ao46 = some a → t0.ss ≠ [] → a.block ≠ k47 from fun a e hn => by have := shs_lt Ht46.out a e hn; omega)
            clear hv47 b47 hk47
            refine hK _ _ ?_
            clear hK K
            refine wpTill_run (i := 7) (by kernel_rfl) rfl (L47.out.be) (fun K hK => ?_) 
            obtain ⟨v48, st48, l48, q48⟩ := L47.out.stA ty_state 1 rfl 0 (stc s0 ao45 cap45) (cs' := stc s0 ao45 cap45) rfl (L' := [(k44, 34, #[.int .u64 0, .int .u64 0, .int .i32 0, .int .i32 0, .int .i32 0, .int .i32 0, .int .u8 0, .int .u8 0, .int .u8 0, .int .i32 0, .int .i32 0, .int .i32 0, .int .i32 0, .int .u8 0, .int .u8 0, .int .u8 0, .slice none 0 0, .int .u16 0, .int .u16 0]), (k47, 34, stc s0 ao45 cap45)]) rfl (Nat.le_of_ble_eq_true rfl) rfl rfl
            have L48 := Lib.hid l48
            have Hs45_46_47_48 := Lib.hid (shs_turn Hs45_46_47.out q48 nes5_47.out)
            have Ht46_47_48 := Lib.hid (shs_turn Ht46_47.out q48 net5_47.out)
            go_simp
            clear l48 q48 st48
            refine hK _ _ ?_
            clear hK K
            refine wpTill_run (i := 8) (by kernel_rfl) rfl (L48.out.be) (fun K hK => ?_) 
            obtain ⟨v49, st49, l49, q49⟩ := L48.out.stA ty_state 0 rfl 0 (stc t0 ao46 cap46) (cs' := stc t0 ao46 cap46) rfl (L' := [(k44, 34, stc t0 ao46 cap46), (k47, 34, stc s0 ao45 cap45)]) rfl (Nat.le_of_ble_eq_true rfl) rfl rfl
            have L49 := Lib.hid l49
            have Hs45_46_47_48_49 := Lib.hid (shs_turn Hs45_46_47_48.out q49 nes6_45.out)
            have Ht46_47_48_49 := Lib.hid (shs_turn Ht46_47_48.out q49 net6_46.out)
            go_simp
            clear l49 q49 st49
            refine hK _ _ ?_
            clear hK K
            refine wpTill_done (by kernel_rfl) ?_
            go_wp2_with fail
            go_meet
            exact ⟨k47, k44, ao45, cap45, ao46, cap46, rfl, rfl, ⟨_, rfl, ⟨L49.out.be, L49.out.get 1 rfl, L49.out.get 0 rfl, Hs45_46_47_48_49.out, Ht46_47_48_49.out, L49.out.bge 1 rfl, L49.out.bge 0 rfl, Bs45.out, Bt46.out⟩⟩⟩
          · go_simp
            obtain ⟨v50, hv50⟩ : ∃ v, v = v45.alloc (.cells #[.int .u64 0, .int .u64 0, .int .i32 0, .int .i32 0, .int .i32 0, .int .i32 0, .int .u8 0, .int .u8 0, .int .u8 0, .int .i32 0, .int .i32 0, .int .i32 0, .int .i32 0, .int .u8 0, .int .u8 0, .int .u8 0, .slice none 0 0, .int .u16 0, .int .u16 0] 34) := ⟨_, rfl⟩
            obtain ⟨k50, hk50⟩ : ∃ k, k = v45.heap.size := ⟨_, rfl⟩
            rw [← hv50, ← hk50]
            have L50 := Lib.hid (show Loc wd.heap.size wd v50 [(k44, 34, #[.int .u64 0, .int .u64 0, .int .i32 0, .int .i32 0, .int .i32 0, .int .i32 0, .int .u8 0, .int .u8 0, .int .u8 0, .int .i32 0, .int .i32 0, .int .i32 0, .int .i32 0, .int .u8 0, .int .u8 0, .int .u8 0, .slice none 0 0, .int .u16 0, .int .u16 0]), (k50, 34, #[.int .u64 0, .int .u64 0, .int .i32 0, .int .i32 0, .int .i32 0, .int .i32 0, .int .u8 0, .int .u8 0, .int .u8 0, .int .i32 0, .int .i32 0, .int .i32 0, .int .i32 0, .int .u8 0, .int .u8 0, .int .u8 0, .slice none 0 0, .int .u16 0, .int .u16 0])] from hv50 ▸ hk50 ▸ (L45.out.more 34 #[.int .u64 0, .int .u64 0, .int .i32 0, .int .i32 0, .int .i32 0, .int .i32 0, .int .u8 0, .int .u8 0, .int .u8 0, .int .i32 0, .int .i32 0, .int .i32 0, .int .i32 0, .int .u8 0, .int .u8 0, .int .u8 0, .slice none 0 0, .int .u16 0, .int .u16 0]))
            have b50 : Below v45.heap.size v45 v50 := hv50 ▸ kb_alloc v45 _
            have Hs45_50 := Lib.hid (shs_to Hs45.out b50)
            have nes5_50 := Lib.hid (show ∀ a, ao45 = some a → s0.ss ≠ [] → a.block ≠ k50 from fun a e hn => by have := shs_lt Hs45.out a e hn; omega)
            clear hv50 b50 hk50
            refine hK _ _ ?_
            clear hK K
            refine wpTill_run (i := 4) (by kernel_rfl) rfl (L50.out.be) (fun K hK => ?_) 
            go_simp
            go_at_call 30
            refine (R2.out v50 L50.out.be).mono ?_
            rintro R v51 ⟨ao51, cap51, rfl, hs51, hr51, hb51⟩
            have L51 := Lib.hid (L50.out.to hb51)
            have net6_51 := Lib.hid (show ∀ a, ao51 = some a → t0.ss ≠ [] → a.block ≠ k44 from fun a e hn => by have h1 := hr51 a e hn; have h2 := L50.out.low (e := (k44, 34, #[.int .u64 0, .int .u64 0, .int .i32 0, .int .i32 0, .int .i32 0, .int .i32 0, .int .u8 0, .int .u8 0, .int .u8 0, .int .i32 0, .int .i32 0, .int .i32 0, .int .i32 0, .int .u8 0, .int .u8 0, .int .u8 0, .slice none 0 0, .int .u16 0, .int .u16 0])) (by simp); dsimp only at h2; omega)
            have net5_51 := Lib.hid (show ∀ a, ao51 = some a → t0.ss ≠ [] → a.block ≠ k50 from fun a e hn => by have h1 := hr51 a e hn; have h2 := L50.out.low (e := (k50, 34, #[.int .u64 0, .int .u64 0, .int .i32 0, .int .i32 0, .int .i32 0, .int .i32 0, .int .u8 0, .int .u8 0, .int .u8 0, .int .i32 0, .int .i32 0, .int .i32 0, .int .i32 0, .int .u8 0, .int .u8 0, .int .u8 0, .slice none 0 0, .int .u16 0, .int .u16 0])) (by simp); dsimp only at h2; omega)
            have Hs45_50_51 := Lib.hid (shs_to Hs45_50.out hb51)
            have Ht51 := Lib.hid hs51
            have Bt51 := Lib.hid (show ∀ a, ao51 = some a → t0.ss ≠ [] → wd.heap.size ≤ a.block from fun a e hn => Nat.le_trans L50.out.be.size (hr51 a e hn))
            clear hs51 hr51 hb51
            refine hK _ _ ?_
            clear hK K
            refine wpTill_run (i := 7) (by kernel_rfl) rfl (L51.out.be) (fun K hK => ?_) 
            obtain ⟨v52, st52, l52, q52⟩ := L51.out.stA ty_state 1 rfl 0 (stc s0 ao45 cap45) (cs' := stc s0 ao45 cap45) rfl (L' := [(k44, 34, #[.int .u64 0, .int .u64 0, .int .i32 0, .int .i32 0, .int .i32 0, .int .i32 0, .int .u8 0, .int .u8 0, .int .u8 0, .int .i32 0, .int .i32 0, .int .i32 0, .int .i32 0, .int .u8 0, .int .u8 0, .int .u8 0, .slice none 0 0, .int .u16 0, .int .u16 0]), (k50, 34, stc s0 ao45 cap45)]) rfl (Nat.le_of_ble_eq_true rfl) rfl rfl
            have L52 := Lib.hid l52
            have Hs45_50_51_52 := Lib.hid (shs_turn Hs45_50_51.out q52 nes5_50.out)
            have Ht51_52 := Lib.hid (shs_turn Ht51.out q52 net5_51.out)
            go_simp
            clear l52 q52 st52
            refine hK _ _ ?_
            clear hK K
            refine wpTill_run (i := 8) (by kernel_rfl) rfl (L52.out.be) (fun K hK => ?_) 
            obtain ⟨v53, st53, l53, q53⟩ := L52.out.stA ty_state 0 rfl 0 (stc t0 ao51 cap51) (cs' := stc t0 ao51 cap51) rfl (L' := [(k44, 34, stc t0 ao51 cap51), (k50, 34, stc s0 ao45 cap45)]) rfl (Nat.le_of_ble_eq_true rfl) rfl rfl
            have L53 := Lib.hid l53
            have Hs45_50_51_52_53 := Lib.hid (shs_turn Hs45_50_51_52.out q53 nes6_45.out)
            have Ht51_52_53 := Lib.hid (shs_turn Ht51_52.out q53 net6_51.out)
            go_simp
            clear l53 q53 st53
            refine hK _ _ ?_
            clear hK K
            refine wpTill_done (by kernel_rfl) ?_
            go_wp2_with fail
            go_meet
            exact ⟨k50, k44, ao45, cap45, ao51, cap51, rfl, rfl, ⟨_, rfl, ⟨L53.out.be, L53.out.get 1 rfl, L53.out.get 0 rfl, Hs45_50_51_52_53.out, Ht51_52_53.out, L53.out.bge 1 rfl, L53.out.bge 0 rfl, Bs45.out, Bt51.out⟩⟩⟩
        · go_simp
          obtain ⟨v54, hv54⟩ : ∃ v, v = v44.alloc (.cells #[.int .u64 0, .int .u64 0, .int .i32 0, .int .i32 0, .int .i32 0, .int .i32 0, .int .u8 0, .int .u8 0, .int .u8 0, .int .i32 0, .int .i32 0, .int .i32 0, .int .i32 0, .int .u8 0, .int .u8 0, .int .u8 0, .slice none 0 0, .int .u16 0, .int .u16 0] 34) := ⟨_, rfl⟩
          obtain ⟨k54, hk54⟩ : ∃ k, k = v44.heap.size := ⟨_, rfl⟩
          rw [← hv54, ← hk54]
          have L54 := Lib.hid (show Loc wd.heap.size wd v54 [(k44, 34, #[.int .u64 0, .int .u64 0, .int .i32 0, .int .i32 0, .int .i32 0, .int .i32 0, .int .u8 0, .int .u8 0, .int .u8 0, .int .i32 0, .int .i32 0, .int .i32 0, .int .i32 0, .int .u8 0, .int .u8 0, .int .u8 0, .slice none 0 0, .int .u16 0, .int .u16 0]), (k54, 34, #[.int .u64 0, .int .u64 0, .int .i32 0, .int .i32 0, .int .i32 0, .int .i32 0, .int .u8 0, .int .u8 0, .int .u8 0, .int .i32 0, .int .i32 0, .int .i32 0, .int .i32 0, .int .u8 0, .int .u8 0, .int .u8 0, .slice none 0 0, .int .u16 0, .int .u16 0])] from hv54 ▸ hk54 ▸ (L44.out.more 34 #[.int .u64 0, .int .u64 0, .int .i32 0, .int .i32 0, .int .i32 0, .int .i32 0, .int .u8 0, .int .u8 0, .int .u8 0, .int .i32 0, .int .i32 0, .int .i32 0, .int .i32 0, .int .u8 0, .int .u8 0, .int .u8 0, .slice none 0 0, .int .u16 0, .int .u16 0]))
          have b54 : Below v44.heap.size v44 v54 := hv54 ▸ kb_alloc v44 _
          clear hv54 b54 hk54
          refine hK _ _ ?_
          clear hK K
          refine wpTill_run (i := 1) (by kernel_rfl) rfl (L54.out.be) (fun K hK => ?_) 
          go_simp
          go_at_call 30
          refine (R1.out v54 L54.out.be).mono ?_
          rintro R v55 ⟨ao55, cap55, rfl, hs55, hr55, hb55⟩
          have L55 := Lib.hid (L54.out.to hb55)
          have nes6_55 := Lib.hid (show ∀ a, ao55 = some a → s0.ss ≠ [] → a.block ≠ k44 from fun a e hn => by have h1 := hr55 a e hn; have h2 := L54.out.low (e := (k44, 34, #[.int .u64 0, .int .u64 0, .int .i32 0, .int .i32 0, .int .i32 0, .int .i32 0, .int .u8 0, .int .u8 0, .int .u8 0, .int .i32 0, .int .i32 0, .int .i32 0, .int .i32 0, .int .u8 0, .int .u8 0, .int .u8 0, .slice none 0 0, .int .u16 0, .int .u16 0])) (by simp); dsimp only at h2; omega)
          have nes5_55 := Lib.hid (show ∀ a, ao55 = some a → s0.ss ≠ [] → a.block ≠ k54 from fun a e hn => by have h1 := hr55 a e hn; have h2 := L54.out.low (e := (k54, 34, #[.int .u64 0, .int .u64 0, .int .i32 0, .int .i32 0, .int .i32 0, .int .i32 0, .int .u8 0, .int .u8 0, .int .u8 0, .int .i32 0, .int .i32 0, .int .i32 0, .int .i32 0, .int .u8 0, .int .u8 0, .int .u8 0, .slice none 0 0, .int .u16 0, .int .u16 0])) (by simp); dsimp only at h2; omega)
          have Hs55 := Lib.hid hs55
          have Bs55 := Lib.hid (show ∀ a, ao55 = some a → s0.ss ≠ [] → wd.heap.size ≤ a.block from fun a e hn => Nat.le_trans L54.out.be.size (hr55 a e hn))
          clear hs55 hr55 hb55
          refine hK _ _ ?_
          clear hK K
          refine wpTill_run (i := 4) (by kernel_rfl) rfl (L55.out.be) (fun K hK => ?_) 
          go_simp
          go_at_call 30
          refine (R2.out v55 L55.out.be).mono ?_
          rintro R v56 ⟨ao56, cap56, rfl, hs56, hr56, hb56⟩
          have L56 := Lib.hid (L55.out.to hb56)
          have net6_56 := Lib.hid (show ∀ a, ao56 = some a → t0.ss ≠ [] → a.block ≠ k44 from fun a e hn => by have h1 := hr56 a e hn; have h2 := L55.out.low (e := (k44, 34, #[.int .u64 0, .int .u64 0, .int .i32 0, .int .i32 0, .int .i32 0, .int .i32 0, .int .u8 0, .int .u8 0, .int .u8 0, .int .i32 0, .int .i32 0, .int .i32 0, .int .i32 0, .int .u8 0, .int .u8 0, .int .u8 0, .slice none 0 0, .int .u16 0, .int .u16 0])) (by simp); dsimp only at h2; omega)
          have net5_56 := Lib.hid (show ∀ a, ao56 = some a → t0.ss ≠ [] → a.block ≠ k54 from fun a e hn => by have h1 := hr56 a e hn; have h2 := L55.out.low (e := (k54, 34, #[.int .u64 0, .int .u64 0, .int .i32 0, .int .i32 0, .int .i32 0, .int .i32 0, .int .u8 0, .int .u8 0, .int .u8 0, .int .i32 0, .int .i32 0, .int .i32 0, .int .i32 0, .int .u8 0, .int .u8 0, .int .u8 0, .slice none 0 0, .int .u16 0, .int .u16 0])) (by simp); dsimp only at h2; omega)
          have Hs55_56 := Lib.hid (shs_to Hs55.out hb56)
          have Ht56 := Lib.hid hs56
          have Bt56 := Lib.hid (show ∀ a, ao56 = some a → t0.ss ≠ [] → wd.heap.size ≤ a.block from fun a e hn => Nat.le_trans L55.out.be.size (hr56 a e hn))
          clear hs56 hr56 hb56
          refine hK _ _ ?_
          clear hK K
          refine wpTill_run (i := 7) (by kernel_rfl) rfl (L56.out.be) (fun K hK => ?_) 
          obtain ⟨v57, st57, l57, q57⟩ := L56.out.stA ty_state 1 rfl 0 (stc s0 ao55 cap55) (cs' := stc s0 ao55 cap55) rfl (L' := [(k44, 34, #[.int .u64 0, .int .u64 0, .int .i32 0, .int .i32 0, .int .i32 0, .int .i32 0, .int .u8 0, .int .u8 0, .int .u8 0, .int .i32 0, .int .i32 0, .int .i32 0, .int .i32 0, .int .u8 0, .int .u8 0, .int .u8 0, .slice none 0 0, .int .u16 0, .int .u16 0]), (k54, 34, stc s0 ao55 cap55)]) rfl (Nat.le_of_ble_eq_true rfl) rfl rfl
          have L57 := Lib.hid l57
          have Hs55_56_57 := Lib.hid (shs_turn Hs55_56.out q57 nes5_55.out)
          have Ht56_57 := Lib.hid (shs_turn Ht56.out q57 net5_56.out)
          go_simp
          clear l57 q57 st57
          refine hK _ _ ?_
          clear hK K
          refine wpTill_run (i := 8) (by kernel_rfl) rfl (L57.out.be) (fun K hK => ?_) 
          obtain ⟨v58, st58, l58, q58⟩ := L57.out.stA ty_state 0 rfl 0 (stc t0 ao56 cap56) (cs' := stc t0 ao56 cap56) rfl (L' := [(k44, 34, stc t0 ao56 cap56), (k54, 34, stc s0 ao55 cap55)]) rfl (Nat.le_of_ble_eq_true rfl) rfl rfl
          have L58 := Lib.hid l58
          have Hs55_56_57_58 := Lib.hid (shs_turn Hs55_56_57.out q58 nes6_55.out)
          have Ht56_57_58 := Lib.hid (shs_turn Ht56_57.out q58 net6_56.out)
          go_simp
          clear l58 q58 st58
          refine hK _ _ ?_
          clear hK K
          refine wpTill_done (by kernel_rfl) ?_
          go_wp2_with fail
          go_meet
          exact ⟨k54, k44, ao55, cap55, ao56, cap56, rfl, rfl, ⟨_, rfl, ⟨L58.out.be, L58.out.get 1 rfl, L58.out.get 0 rfl, Hs55_56_57_58.out, Ht56_57_58.out, L58.out.bge 1 rfl, L58.out.bge 0 rfl, Bs55.out, Bt56.out⟩⟩⟩
    case rest =>
    obtain ⟨g1, g2, so, sc, to_, tc, rfl, rfl, HTW0⟩ := hcut
    obtain ⟨wc, hwc, htw⟩ := HTW0.out
    subst hwc
    have TW := Lib.hid htw
    have LC := Lib.hid (LD.out.to htw.be)
    have HWD := Lib.hid (show wa.heap.size ≤ w1.heap.size ∧ w1.heap.size ≤ wd.heap.size ∧ wd.heap.size ≤ wc.heap.size ∧ w.heap.size + 3 ≤ wa.heap.size ∧ wa.heap.size ≤ g ∧ g < wd.heap.size from ⟨HW1.out, by have h1 := HDS.out; have h2 := HW2.out; omega, htw.be.size, HWA.out, HG.out.1, by have h1 := HDS.out; have h2 := HG.out.2; omega⟩)
    have HLT := Lib.hid (show g1 < wc.heap.size ∧ g2 < wc.heap.size from ⟨htw.b1.lt, htw.b2.lt⟩)
    have HPC := Lib.hid (show PwC (fun x => wa.heap.size ≤ x ∧ (x < w1.heap.size ∨ wc.heap.size ≤ x)) wc g (.pointer (some ⟨gd, 0, none⟩)) 100000 gko gkc (pon 0 []) from (HPD.out.new htw.be).mono fun x hx => ⟨fun h => ⟨h.1, .inl h.2⟩, fun h => ⟨h.1, by rcases h.2 with h2 | h2 <;> omega⟩⟩)
    have hl1 : (ldT 34 (.pointer (some ⟨g1, 0, none⟩))).run Tryz.prog wc = .ok (.agg (stc s0 so sc)) wc := run_ldA ty_state htw.b1 0 (Nat.le_of_ble_eq_true rfl)
    have KW : Hid (Calls Tryz.prog 11 #[.pointer (some ⟨g, 0, none⟩), sv s0 so sc] wc fun R w' => R = .returned (.int .i64 0) ∧ DkS (fun x => wa.heap.size ≤ x ∧ (x < w1.heap.size ∨ wc.heap.size ≤ x)) w' (.pointer (some ⟨gd, 0, none⟩)) 100000 (d4 (ktxt s0) none none) ∧ Tu (fun z => wa.heap.size ≤ z ∧ (z < wd.heap.size ∨ wc.heap.size ≤ z)) wc w') := by
      have h0 := kwrite_c s0 so sc wc HPC.out (fun x hx => ⟨by have := HWD.out; omega, .inr hx⟩) htw.s1 HSG.out.2.1 (by decide) (HT.out.lo LC.out.be) (btab_lo HBT.out LC.out.be)
      unfold KwPost at h0
      obtain ⟨e1, e2⟩ := on_first (q := 100000) (k := 0) HSG.out.1 (by decide)
      rw [e1, e2, HSG.out.2.2.1] at h0
      refine h0.mono fun R w' h => ⟨h.1, h.2.1.dk, h.2.2.mono fun x hx h2 => ?_⟩
      have := HWD.out
      rcases h2 with rfl | h2
      · exact ⟨by omega, .inl (by omega)⟩
      · exact ⟨h2.1, by rcases h2.2 with h3 | h3; exact .inl (by omega); exact .inr h3⟩
    clear htw HTW0 HPD ldA3 ldA4 R1 R2 LD HG HDS HW1 HW2 HWA
    go_wp2_with fail
    clear hl1
    refine KW.out.mono ?_
    rintro R w5 ⟨rfl, hd5, ht5⟩
    obtain ⟨ts, hts⟩ : ∃ ts, ts = ktxt s0 := ⟨_, rfl⟩
    have HTS := Lib.hid (And.intro hts (show ts.length ≤ 522 from hts ▸ ktxt_len s0 HSG.out.1))
    rw [← hts] at hd5
    have HD5 : Hid (∃ S : Nat → Prop, (∀ z, S z → wa.heap.size ≤ z ∧ (z < wd.heap.size ∨ wc.heap.size ≤ z)) ∧ DkS S w5 (.pointer (some ⟨gd, 0, none⟩)) 100000 (d4 ts none none)) := ⟨_, fun z hz => ⟨hz.1, by have h1 := HWD.out; rcases hz.2 with h2 | h2; exact .inl (by omega); exact .inr h2⟩, hd5⟩
    have HT5 := Lib.hid ht5
    clear hd5 ht5 KW HPC hts
    have KEEP : Hid (∀ W, Tu (fun z => wa.heap.size ≤ z ∧ (z < wd.heap.size ∨ wc.heap.size ≤ z)) wc W → Below w.heap.size w W ∧ Cells W (w.heap.size + 2) 73 (ccs fo F.length fc ko Ks.length kc false) ∧ Cells W g1 34 (stc s0 so sc) ∧ Cells W g2 34 (stc t0 to_ tc) ∧ Shs W so s0.ss ∧ Shs W to_ t0.ss ∧ U8s W fo F ∧ Ints W ko Ks) := fun W hW => by
      have e := HWD.out
      have e2 := HLT.out
      have e3 := TW.out
      have e4 := e3.l1
      have e5 := e3.l2
      have hb := LC.out.be.trans (hW.below (fun x hx h => by have h1 := h.1; omega) LC.out.be.size)
      refine ⟨hb, (LC.out.get 2 rfl).tu hW (fun h => by have h1 := h.1; omega), e3.b1.tu hW (fun h => by have h1 := h.2; omega), e3.b2.tu hW (fun h => by have h1 := h.2; omega), shs_tu e3.s1 hW (fun a ea hn h => ?_), shs_tu e3.s2 hW (fun a ea hn h => ?_), (HFF.out.tu (Tu.new (S := fun _ => False) hb) (fun x hx h => h)), ?_⟩
      · have h1 := e3.r1 a ea hn; have h2 := shs_lt e3.s1 a ea hn; have h3 := h.2; omega
      · have h1 := e3.r2 a ea hn; have h2 := shs_lt e3.s2 a ea hn; have h3 := h.2; omega
      · exact HKK.out.tu (Tu.new (S := fun _ => False) hb) (fun a e h => h)
    clear HFF HKK TW
    go_wp2
    go_loopw [12] (fun iv wr => ∃ k : Nat, k ≤ F.length ∧ k ≤ 10 ∧ iv = .int .i64 (k : Int) ∧ Hid (∃ (S : Nat → Prop) (a' : Option (List UInt8)) (b' : Option (List UInt8 × Nat)), (∀ z, S z → wa.heap.size ≤ z ∧ (z < wd.heap.size ∨ wc.heap.size ≤ z)) ∧ DkS S wr (.pointer (some ⟨gd, 0, none⟩)) 100000 (d4 ts a' b') ∧ aOk (ktxt t0) a' ∧ bF4 b') ∧ Hid (Tu (fun z => wa.heap.size ≤ z ∧ (z < wd.heap.size ∨ wc.heap.size ≤ z)) wc wr)) (fun iv _ => F.length - (intOf iv).toNat)
    case atStart =>
      obtain ⟨S, h1, h2⟩ := HD5.out
      exact ⟨0, Nat.zero_le _, by omega, rfl, ⟨S, none, none, h1, h2, .inl rfl, bF4_none⟩, HT5.out⟩
    case round =>
      obtain ⟨k, hk, hk10, rfl, HDD, HTU⟩ := hrel
      clear HD5 HT5
      obtain ⟨hB, hC5, hC1, hC2, hS1, hS2, hF8, hKI⟩ := KEEP.out wr HTU.out
      have c0 : wr.cell? ⟨w.heap.size + 2, 0, none⟩ = some (.slice fo F.length fc) := hC5.cell 0
      obtain ⟨S0, a', b', hS0, hdk, hab⟩ := HDD.out
      obtain ⟨S, hSe⟩ : ∃ S : Nat → Prop, S = fun x => S0 x ∧ x < wr.heap.size := ⟨_, rfl⟩
      have HSS := Lib.hid (show ∀ z, S z → (wa.heap.size ≤ z ∧ (z < wd.heap.size ∨ wc.heap.size ≤ z)) ∧ z < wr.heap.size from fun z hz => by rw [hSe] at hz; exact ⟨hS0 z hz.1, hz.2⟩)
      have HDK := Lib.hid (show DkS S wr (.pointer (some ⟨gd, 0, none⟩)) 100000 (d4 ts a' b') from by rw [hSe]; exact hdk.mono fun x hx h => ⟨h, hx⟩)
      have HAB := Lib.hid hab
      have HBR := Lib.hid hB
      have HWR := Lib.hid (show wc.heap.size ≤ wr.heap.size from HTU.out.size)
      clear hSe hS0 hdk hab HDD
      by_cases hin : k < F.length ∧ k < 10
      · obtain ⟨hlt, hlt10⟩ := hin
        have hki : (k : Int) < (F.length : Int) := by omega
        have hki8 : (k : Int) < 10 := by omega
        obtain ⟨hv, fb, foff, hfo, hfc⟩ := hF8 k hlt
        subst hfo
        obtain ⟨v, hvv⟩ : ∃ v, v = F[k]'hlt := ⟨_, rfl⟩
        rw [← hvv] at hfc hv
        obtain ⟨fu, hfu⟩ : ∃ fu : Int, ((v : Int)).tmod 8 = fu := ⟨_, rfl⟩
        have hfu2 : ((v : Int)) % 8 = fu := by rw [← hfu, Int.tmod_eq_emod_of_nonneg (by omega)]
        have hfr : 0 ≤ fu ∧ fu < 8 := by omega
        have hwr : IntKind.u8.wrap fu = fu := by simp only [IntKind.wrap, IntKind.bits, IntKind.signed]; simp; omega
        have hwr2 : IntKind.i64.wrap fu = fu := by simp only [IntKind.wrap, IntKind.bits, IntKind.signed]; simp; omega
        clear hvv
        go_upto_region 14 with fail
        clear c0
        obtain ⟨wx, hwx⟩ : ∃ wx, ({ wr with drawn := wr.drawn + 1 } : World) = wx := ⟨_, rfl⟩
        have bx : Below wr.heap.size wr wx := hwx ▸ (Below.refl _ wr).drew
        have c0 : wx.cell? ⟨w.heap.size + 2, 0, none⟩ = some (.slice (some ⟨fb, foff, none⟩) F.length fc) := (hC5.below bx hC5.lt).cell 0
        have c1 : wx.cell? ⟨w.heap.size + 2, 1, none⟩ = some (.slice ko Ks.length kc) := (hC5.below bx hC5.lt).cell 1
        have hfx : wx.cell? ⟨fb, foff + k, none⟩ = some (.int .u8 (v : Int)) := (bx.cell (p := ⟨fb, foff + k, none⟩) (World.block_lt_of_cell? wr _ hfc)).trans hfc
        have HNW := Lib.hid (fun fu => pnew_c fu ko Ks kc wx (HDK.out.new bx) (hKI.tu (Tu.new (S := fun _ => False) bx) (fun a e h => h)) HK20.out)
        have HBX := Lib.hid bx
        clear hC5 hC1 hC2 hS1 hS2 hF8 hKI hB bx hfc
        refine wp_region_still_tail 10 (by kernel_rfl) (by kernel_rfl) ?_
        simp only [List.take_succ_cons, List.take_zero, List.drop_succ_cons, List.drop_zero]
        rw [hwx]
        clear hwx
        repeat still_step
        refine wpStill_nil ?_
        go_wp2_with fail
        clear c0 c1 hfx hki hki8
        refine (HNW.out _).mono ?_
        rintro R w3 ⟨gp, ko3, kc3, rfl, hgp, hko3, hp3, hb3⟩
        obtain ⟨fz, hfz⟩ : ∃ fz : Int, fz = fu := ⟨_, rfl⟩
        have HP3 := Lib.hid (hp3.mono (S' := fun x => S x ∨ w3.heap.size ≤ x) (fun x hx => ⟨fun h => .inl h.1, fun h => h.elim (fun h => ⟨h, by have h1 := (HSS.out x h).2; have h2 := HBX.out.size; omega⟩) (fun h => by omega)⟩))
        have T3 := Lib.hid (HTU.out.trans (Tu.new (S := fun _ => False) (HBX.out.trans (hb3.mono HBX.out.size))) (fun x hx h => h.elim))
        have HSZ3 := Lib.hid (show wr.heap.size ≤ w3.heap.size ∧ wr.heap.size ≤ gp from ⟨Nat.le_trans HBX.out.size hb3.size, Nat.le_trans HBX.out.size hgp⟩)
        clear hp3 hb3 hgp hko3 HNW HBX HDK hfz
        clear hwr hwr2 hfu hfu2 hfr hv
        obtain ⟨hB, hC5, hC1, hC2, hS1, hS2, -, -⟩ := KEEP.out w3 T3.out
        have l2 : (ldT 34 (.pointer (some ⟨g2, 0, none⟩))).run Tryz.prog w3 = .ok (.agg (stc t0 to_ tc)) w3 := run_ldA ty_state hC2 0 (Nat.le_of_ble_eq_true rfl)
        have KW := Lib.hid (kwrite_c t0 to_ tc w3 HP3.out (fun x hx => .inr hx) hS2 HTG.out.2.1 (by show 0 + 5 < _; omega) (HT.out.lo hB) (btab_lo HBT.out hB))
        unfold KwPost at KW
        have CW := Lib.hid (fun fu => cut_write (q := 100000) (s := ts) fu Ks HTG.out.2.2.1 HTG.out.1 HAB.out.1 HAB.out.2 HTS.out.2 (by omega))
        obtain ⟨pf, hpf⟩ : ∃ pf : Pw, pf = kwP 100000 t0 ⟨fu, Ks, 0, false, d4 ts a' b'⟩ := ⟨_, rfl⟩
        obtain ⟨e, hee⟩ : ∃ e : Nat, e = kwE 100000 t0 ⟨fu, Ks, 0, false, d4 ts a' b'⟩ := ⟨_, rfl⟩
        obtain ⟨a2, b2, ha2, hb2, hE2, hz2⟩ := CW.out fu
        rw [← hpf] at KW hE2
        rw [← hee] at KW hz2
        have HE2 := Lib.hid hE2
        have HA2 := Lib.hid ha2
        have HB2 := Lib.hid hb2
        have HZ2 := Lib.hid hz2
        clear hpf hee ha2 hb2 hE2 hz2 CW hB hC5 hC1 hC2 hS1 hS2
        go_wp2_with fail
        clear l2
        refine KW.out.mono ?_
        rintro R w4 ⟨rfl, hp4, ht4⟩
        have T4 := Lib.hid (T3.out.trans ht4 (fun x hx h => by
          have h1 := HWD.out; have h2 := HWR.out; have h3 := HSZ3.out
          rcases h with rfl | h | h
          · exact ⟨by omega, .inr (by omega)⟩
          · exact (HSS.out x h).1
          · exact ⟨by omega, .inr (by omega)⟩))
        have HP4 := Lib.hid hp4
        have HSZ4 := Lib.hid ht4.size
        clear hp4 ht4 KW HP3
        go_wp2_with fail
        refine (blow_c w4 HP4.out).mono ?_
        rintro R w5b ⟨rfl, hp5, ht5⟩
        have T5 := Lib.hid (T4.out.trans ht5 (fun x hx h => by
          have h1 := HWD.out; have h2 := HWR.out; have h3 := HSZ3.out
          rcases h with rfl | h | h
          · exact ⟨by omega, .inr (by omega)⟩
          · exact (HSS.out x h).1
          · exact ⟨by omega, .inr (by omega)⟩))
        have HD6 := Lib.hid (show DkS (fun x => S x ∨ w3.heap.size ≤ x) w5b (.pointer (some ⟨gd, 0, none⟩)) 100000 (d4 ts a2 b2) from by have := hp5.dk; rw [HE2.out] at this; exact this)
        have KP : Hid (Calls Tryz.prog 29 #[.pointer (some ⟨gd, 0, none⟩), .int .i64 (-1), .slice none 0 0] w5b (NewPw (fun x => S x ∨ w3.heap.size ≤ x) w5b (.pointer (some ⟨gd, 0, none⟩)) 100000 (-1) [] (d4 ts a2 b2))) := pnew_c (-1) none [] 0 w5b HD6.out (fun j hj => by cases hj) (by simp)
        clear hp5 ht5 HP4 T4 T3 HE2
        go_wp2_with fail
        refine KP.out.mono ?_
        rintro R w6 ⟨ga, ko6, kc6, rfl, -, -, hp6, hb6⟩
        have T6 := Lib.hid (T5.out.trans (Tu.new (S := fun _ => False) hb6) (fun x hx h => h.elim))
        have HP6 := Lib.hid (show PwC (fun x => (S x ∨ w3.heap.size ≤ x) ∧ x < w5b.heap.size) w6 ga (.pointer (some ⟨gd, 0, none⟩)) 100000 ko6 kc6 (pon 0 (d4 ts a2 b2)) from hp6)
        have HD7 := Lib.hid (HD6.out.new hb6)
        clear hp6 hb6 KP HD6 T5
        obtain ⟨hB, hC5, hC1, hC2, hS1, hS2, -, -⟩ := KEEP.out w6 T6.out
        have l1 : (ldT 34 (.pointer (some ⟨g1, 0, none⟩))).run Tryz.prog w6 = .ok (.agg (stc s0 so sc)) w6 := run_ldA ty_state hC1 0 (Nat.le_of_ble_eq_true rfl)
        have KL : Hid (Calls Tryz.prog 31 #[.pointer (some ⟨ga, 0, none⟩), .int .u64 3, sv s0 so sc] w6 fun R w' => R = .returned (.bool true) ∧ Below w6.heap.size w6 w') := by
          have h0 := loads_c 3 s0 so sc w6 HP6.out (by decide) hS1 (by have := HSG.out.2.2.2; simp only [maxLen]; omega) (HT.out.lo hB) (btab_lo HBT.out hB)
          obtain ⟨e1, e2⟩ := d4_kl3 (s := s0) (p := pon 0 (d4 ts a2 b2)) (a := a2) (b := b2) rfl (by rw [HTS.out.1]; rfl) HSG.out.2.2.1 HSG.out.1 HSG.out.2.1
          rw [e1, e2, sm_self] at h0
          exact h0
        clear hB hC5 hC1 hC2 hS1 hS2
        go_wp2_with fail
        clear l1
        refine KL.out.mono ?_
        rintro R w7 ⟨rfl, hb7⟩
        have T7 := Lib.hid (T6.out.trans (Tu.new (S := fun _ => False) hb7) (fun x hx h => h.elim))
        have HD8 := Lib.hid (HD7.out.new hb7)
        have HP7 := Lib.hid (HP6.out.new hb7)
        clear hb7 KL T6 HD7 HP6
        obtain ⟨hB, hC5, hC1, hC2, hS1, hS2, -, -⟩ := KEEP.out w7 T7.out
        have c2 : w7.cell? ⟨w.heap.size + 2, 2, none⟩ = some (.bool false) := hC5.cell 2
        have l2 : (ldT 34 (.pointer (some ⟨g2, 0, none⟩))).run Tryz.prog w7 = .ok (.agg (stc t0 to_ tc)) w7 := run_ldA ty_state hC2 0 (Nat.le_of_ble_eq_true rfl)
        have K4 := loads_c 4 t0 to_ tc w7 HP7.out (by decide) hS2 (by have := HTG.out.2.2.2; simp only [maxLen]; omega) (HT.out.lo hB) (btab_lo HBT.out hB)
        have HB7 := Lib.hid hB
        clear hB hC5 hC1 hC2 hS1 hS2
        rcases HA2.out with hn2 | hn2
        · subst hn2
          obtain ⟨e1, e2⟩ := d4_kl40 (s := ts) (p := pon 0 (d4 ts none b2)) rfl rfl
          rw [e1, e2, decide_eq_false (show ¬ (5 : Int) = 0 by decide), Bool.false_and] at K4
          have K4' := Lib.hid K4
          have K5 : Hid (∀ W, Below w7.heap.size w7 W → Calls Tryz.prog 32 #[.pointer (some ⟨ga, 0, none⟩), .int .u64 4, .int .i64 5] W fun R w' => R = .returned (.bool true) ∧ Below W.heap.size W w') := fun W hW => by
            have h0 := fails_c 4 5 W (HP7.out.new hW) (by decide) (HT.out.lo (HB7.out.trans (hW.mono HB7.out.size))) (btab_lo HBT.out (HB7.out.trans (hW.mono HB7.out.size)))
            rw [e1, e2, sm_self] at h0
            exact h0
          have he : ((e : Int) == 0) = false := beq_eq_false_iff_ne.2 (fun h => by have h1 := HZ2.out (by omega); cases h1)
          clear K4 e1 e2
          go_wp2_with fail
          clear l2 c2
          refine K4'.out.mono ?_
          rintro R w8 ⟨rfl, hb8⟩
          go_wp2_with fail
          refine (K5.out w8 hb8).mono ?_
          rintro R w9 ⟨rfl, hb9⟩
          have T9 := Lib.hid (T7.out.trans (Tu.new (S := fun _ => False) (hb8.trans (hb9.mono hb8.size))) (fun x hx h => h.elim))
          have HD9 := Lib.hid (HD8.out.new (hb8.trans (hb9.mono hb8.size)))
          clear hb8 hb9 K5 K4' he
          go_wp2
          go_roundw
          case rel => exact ⟨k + 1, by omega, by omega, by go_num, ⟨_, none, b2, fun z hz => by
              have h1 := HWD.out; have h2 := HWR.out; have h3 := HSZ3.out
              rcases hz with hz | hz
              · exact (HSS.out z hz).1
              · exact ⟨by omega, .inr (by omega)⟩, HD9.out, HA2.out, HB2.out⟩, T9.out⟩
          case measure => simp [intOf]; omega
        · subst hn2
          obtain ⟨e1, e2⟩ := d4_kl4 (s := ts) (t := t0) (p := pon 0 (d4 ts (some (ktxt t0)) b2)) rfl rfl HTG.out.2.2.1 HTG.out.1 HTG.out.2.1
          rw [e1, e2, sm_self] at K4
          have K4' : Hid (Calls Tryz.prog 31 #[.pointer (some ⟨ga, 0, none⟩), .int .u64 4, sv t0 to_ tc] w7 fun R w' => R = .returned (.bool true) ∧ Below w7.heap.size w7 w') := K4
          clear K4 e1 e2
          go_wp2_with fail
          clear l2 c2
          refine K4'.out.mono ?_
          rintro R w8 ⟨rfl, hb8⟩
          have T9 := Lib.hid (T7.out.trans (Tu.new (S := fun _ => False) hb8) (fun x hx h => h.elim))
          have HD9 := Lib.hid (HD8.out.new hb8)
          clear hb8 K4'
          go_wp2
          go_roundw
          case rel => exact ⟨k + 1, by omega, by omega, by go_num, ⟨_, some (ktxt t0), b2, fun z hz => by
              have h1 := HWD.out; have h2 := HWR.out; have h3 := HSZ3.out
              rcases hz with hz | hz
              · exact (HSS.out z hz).1
              · exact ⟨by omega, .inr (by omega)⟩, HD9.out, HA2.out, HB2.out⟩, T9.out⟩
          case measure => simp [intOf]; omega
      · have KP := Lib.hid (fun W (hW : Below wr.heap.size wr W) => pnew_c (-1) none [] 0 W (HDK.out.new hW) (fun j hj => by cases hj) (by simp))
        clear hC5 hC1 hC2 hS1 hS2 hF8 hKI hB
        by_cases hlt : k < F.length
        · have hki : (k : Int) < (F.length : Int) := by omega
          have hki8 : ¬ (k : Int) < 10 := by omega
          have KP' : Hid (Calls Tryz.prog 29 #[.pointer (some ⟨gd, 0, none⟩), .int .i64 (-1), .slice none 0 0] wr (NewPw S wr (.pointer (some ⟨gd, 0, none⟩)) 100000 (-1) [] (d4 ts a' b'))) := KP.out wr (Below.refl _ _)
          go_wp2_with fail
          clear c0
          refine KP'.out.mono ?_
          rintro R w3 ⟨gl, ko3, kc3, rfl, hgl, -, hp3, hb3⟩
          have HP3 := Lib.hid (show PwC (fun x => S x ∨ w3.heap.size ≤ x) w3 gl (.pointer (some ⟨gd, 0, none⟩)) 100000 ko3 kc3 (pon 0 (d4 ts a' b')) from hp3.mono (fun x hx => ⟨fun h => .inl h.1, fun h => h.elim (fun h => ⟨h, (HSS.out x h).2⟩) (fun h => by omega)⟩))
          have T3 := Lib.hid (HTU.out.trans (Tu.new (S := fun _ => False) hb3) (fun x hx h => h.elim))
          have HSZ3 := Lib.hid (show wr.heap.size ≤ w3.heap.size ∧ wr.heap.size ≤ gl from ⟨hb3.size, hgl⟩)
          clear hp3 hb3 hgl KP KP' HDK
          obtain ⟨hB, hC5, hC1, hC2, hS1, hS2, -, -⟩ := KEEP.out w3 T3.out
          have l2 : (ldT 34 (.pointer (some ⟨g2, 0, none⟩))).run Tryz.prog w3 = .ok (.agg (stc t0 to_ tc)) w3 := run_ldA ty_state hC2 0 (Nat.le_of_ble_eq_true rfl)
          have KW := Lib.hid (kwrite_c t0 to_ tc w3 HP3.out (fun x hx => .inr hx) hS2 HTG.out.2.1 (by show 0 + 5 < _; omega) (HT.out.lo hB) (btab_lo HBT.out hB))
          unfold KwPost at KW
          obtain ⟨pl, cl, e1, e2, hpo, hpE⟩ := last_write (q := 100000) (s := ts) (a := a') (b := b') HTG.out.2.2.1 HTG.out.1 HAB.out.1 HAB.out.2 HTS.out.2 (by omega)
          rw [e1, e2] at KW
          have HPL := Lib.hid (And.intro hpo hpE)
          clear e1 e2 hpo hpE
          have KW' : Hid (Calls Tryz.prog 11 #[.pointer (some ⟨gl, 0, none⟩), sv t0 to_ tc] w3 fun R w' => R = .returned (.int .i64 0) ∧ PwC (fun x => S x ∨ w3.heap.size ≤ x) w' gl (.pointer (some ⟨gd, 0, none⟩)) 100000 ko3 kc3 pl ∧ Tu (fun x => x = gl ∨ (S x ∨ w3.heap.size ≤ x)) w3 w') := KW.out
          clear hB hC5 hC1 hC2 hS1 hS2 KW
          go_wp2_with fail
          clear l2
          refine KW'.out.mono ?_
          rintro R w4 ⟨rfl, hp4, ht4⟩
          have T4 := Lib.hid (T3.out.trans ht4 (fun x hx h => by
            have h1 := HWD.out; have h2 := HWR.out; have h3 := HSZ3.out
            rcases h with rfl | h | h
            · exact ⟨by omega, .inr (by omega)⟩
            · exact (HSS.out x h).1
            · exact ⟨by omega, .inr (by omega)⟩))
          have HP4 := Lib.hid hp4
          clear hp4 ht4 KW' HP3 T3
          obtain ⟨hB, hC5, hC1, hC2, hS1, hS2, -, -⟩ := KEEP.out w4 T4.out
          have c2 : w4.cell? ⟨w.heap.size + 2, 2, none⟩ = some (.bool false) := hC5.cell 2
          have l1 : ∀ W, Below w4.heap.size w4 W → (ldT 34 (.pointer (some ⟨g1, 0, none⟩))).run Tryz.prog W = .ok (.agg (stc s0 so sc)) W := fun W hW => run_ldA ty_state (hC1.below hW hC1.lt) 0 (Nat.le_of_ble_eq_true rfl)
          have l2 : (ldT 34 (.pointer (some ⟨g2, 0, none⟩))).run Tryz.prog w4 = .ok (.agg (stc t0 to_ tc)) w4 := run_ldA ty_state hC2 0 (Nat.le_of_ble_eq_true rfl)
          have HB4 := Lib.hid hB
          have K3 : Hid (∀ W, Below w4.heap.size w4 W → Calls Tryz.prog 31 #[.pointer (some ⟨gl, 0, none⟩), .int .u64 3, sv s0 so sc] W fun R w' => R = .returned (.bool true) ∧ Below W.heap.size W w') := fun W hW => by
            have h0 := loads_c 3 s0 so sc W (HP4.out.new hW) (by decide) (shs_to hS1 hW) (by have := HSG.out.2.2.2; simp only [maxLen]; omega) (HT.out.lo (HB4.out.trans (hW.mono HB4.out.size))) (btab_lo HBT.out (HB4.out.trans (hW.mono HB4.out.size)))
            obtain ⟨e1, e2⟩ := d4_kl3 (s := s0) (p := pl) HPL.out.1 (by rw [HPL.out.2, HTS.out.1]) HSG.out.2.2.1 HSG.out.1 HSG.out.2.1
            rw [e1, e2, sm_self] at h0
            exact h0
          have K4 : Hid (Calls Tryz.prog 31 #[.pointer (some ⟨gl, 0, none⟩), .int .u64 4, sv t0 to_ tc] w4 fun R w' => R = .returned (.bool true) ∧ Below w4.heap.size w4 w') := by
            have h0 := loads_c 4 t0 to_ tc w4 HP4.out (by decide) hS2 (by have := HTG.out.2.2.2; simp only [maxLen]; omega) (HT.out.lo hB) (btab_lo HBT.out hB)
            obtain ⟨e1, e2⟩ := d4_kl4 (s := ts) (t := t0) (p := pl) HPL.out.1 HPL.out.2 HTG.out.2.2.1 HTG.out.1 HTG.out.2.1
            rw [e1, e2, sm_self] at h0
            exact h0
          clear hB hC5 hC1 hC2 hS1 hS2
          go_wp2_with fail
          clear l2 c2
          refine K4.out.mono ?_
          rintro R w5c ⟨rfl, hb5⟩
          have l15 := l1 w5c hb5
          go_wp2_with fail
          clear l15
          refine (K3.out w5c hb5).mono ?_
          rintro R w6c ⟨rfl, hb6⟩
          have HBF := Lib.hid (HB4.out.trans ((hb5.trans (hb6.mono hb5.size)).mono HB4.out.size))
          clear hb5 hb6 K3 K4 l1
          go_wp2_with fail
          refine (works18_c w6c (HT.out.lo HBF.out) (btab_lo HBT.out HBF.out)).mono ?_
          rintro R wz ⟨rfl, hbz⟩
          go_wp2
          go_ret
          exact ⟨rfl, HBF.out.trans (hbz.mono HBF.out.size)⟩
        · have hki : ¬ (k : Int) < (F.length : Int) := by omega
          have KP' : Hid (Calls Tryz.prog 29 #[.pointer (some ⟨gd, 0, none⟩), .int .i64 (-1), .slice none 0 0] wr (NewPw S wr (.pointer (some ⟨gd, 0, none⟩)) 100000 (-1) [] (d4 ts a' b'))) := KP.out wr (Below.refl _ _)
          go_wp2_with fail
          clear c0
          refine KP'.out.mono ?_
          rintro R w3 ⟨gl, ko3, kc3, rfl, hgl, -, hp3, hb3⟩
          have HP3 := Lib.hid (show PwC (fun x => S x ∨ w3.heap.size ≤ x) w3 gl (.pointer (some ⟨gd, 0, none⟩)) 100000 ko3 kc3 (pon 0 (d4 ts a' b')) from hp3.mono (fun x hx => ⟨fun h => .inl h.1, fun h => h.elim (fun h => ⟨h, (HSS.out x h).2⟩) (fun h => by omega)⟩))
          have T3 := Lib.hid (HTU.out.trans (Tu.new (S := fun _ => False) hb3) (fun x hx h => h.elim))
          have HSZ3 := Lib.hid (show wr.heap.size ≤ w3.heap.size ∧ wr.heap.size ≤ gl from ⟨hb3.size, hgl⟩)
          clear hp3 hb3 hgl KP KP' HDK
          obtain ⟨hB, hC5, hC1, hC2, hS1, hS2, -, -⟩ := KEEP.out w3 T3.out
          have l2 : (ldT 34 (.pointer (some ⟨g2, 0, none⟩))).run Tryz.prog w3 = .ok (.agg (stc t0 to_ tc)) w3 := run_ldA ty_state hC2 0 (Nat.le_of_ble_eq_true rfl)
          have KW := Lib.hid (kwrite_c t0 to_ tc w3 HP3.out (fun x hx => .inr hx) hS2 HTG.out.2.1 (by show 0 + 5 < _; omega) (HT.out.lo hB) (btab_lo HBT.out hB))
          unfold KwPost at KW
          obtain ⟨pl, cl, e1, e2, hpo, hpE⟩ := last_write (q := 100000) (s := ts) (a := a') (b := b') HTG.out.2.2.1 HTG.out.1 HAB.out.1 HAB.out.2 HTS.out.2 (by omega)
          rw [e1, e2] at KW
          have HPL := Lib.hid (And.intro hpo hpE)
          clear e1 e2 hpo hpE
          have KW' : Hid (Calls Tryz.prog 11 #[.pointer (some ⟨gl, 0, none⟩), sv t0 to_ tc] w3 fun R w' => R = .returned (.int .i64 0) ∧ PwC (fun x => S x ∨ w3.heap.size ≤ x) w' gl (.pointer (some ⟨gd, 0, none⟩)) 100000 ko3 kc3 pl ∧ Tu (fun x => x = gl ∨ (S x ∨ w3.heap.size ≤ x)) w3 w') := KW.out
          clear hB hC5 hC1 hC2 hS1 hS2 KW
          go_wp2_with fail
          clear l2
          refine KW'.out.mono ?_
          rintro R w4 ⟨rfl, hp4, ht4⟩
          have T4 := Lib.hid (T3.out.trans ht4 (fun x hx h => by
            have h1 := HWD.out; have h2 := HWR.out; have h3 := HSZ3.out
            rcases h with rfl | h | h
            · exact ⟨by omega, .inr (by omega)⟩
            · exact (HSS.out x h).1
            · exact ⟨by omega, .inr (by omega)⟩))
          have HP4 := Lib.hid hp4
          clear hp4 ht4 KW' HP3 T3
          obtain ⟨hB, hC5, hC1, hC2, hS1, hS2, -, -⟩ := KEEP.out w4 T4.out
          have c2 : w4.cell? ⟨w.heap.size + 2, 2, none⟩ = some (.bool false) := hC5.cell 2
          have l1 : ∀ W, Below w4.heap.size w4 W → (ldT 34 (.pointer (some ⟨g1, 0, none⟩))).run Tryz.prog W = .ok (.agg (stc s0 so sc)) W := fun W hW => run_ldA ty_state (hC1.below hW hC1.lt) 0 (Nat.le_of_ble_eq_true rfl)
          have l2 : (ldT 34 (.pointer (some ⟨g2, 0, none⟩))).run Tryz.prog w4 = .ok (.agg (stc t0 to_ tc)) w4 := run_ldA ty_state hC2 0 (Nat.le_of_ble_eq_true rfl)
          have HB4 := Lib.hid hB
          have K3 : Hid (∀ W, Below w4.heap.size w4 W → Calls Tryz.prog 31 #[.pointer (some ⟨gl, 0, none⟩), .int .u64 3, sv s0 so sc] W fun R w' => R = .returned (.bool true) ∧ Below W.heap.size W w') := fun W hW => by
            have h0 := loads_c 3 s0 so sc W (HP4.out.new hW) (by decide) (shs_to hS1 hW) (by have := HSG.out.2.2.2; simp only [maxLen]; omega) (HT.out.lo (HB4.out.trans (hW.mono HB4.out.size))) (btab_lo HBT.out (HB4.out.trans (hW.mono HB4.out.size)))
            obtain ⟨e1, e2⟩ := d4_kl3 (s := s0) (p := pl) HPL.out.1 (by rw [HPL.out.2, HTS.out.1]) HSG.out.2.2.1 HSG.out.1 HSG.out.2.1
            rw [e1, e2, sm_self] at h0
            exact h0
          have K4 : Hid (Calls Tryz.prog 31 #[.pointer (some ⟨gl, 0, none⟩), .int .u64 4, sv t0 to_ tc] w4 fun R w' => R = .returned (.bool true) ∧ Below w4.heap.size w4 w') := by
            have h0 := loads_c 4 t0 to_ tc w4 HP4.out (by decide) hS2 (by have := HTG.out.2.2.2; simp only [maxLen]; omega) (HT.out.lo hB) (btab_lo HBT.out hB)
            obtain ⟨e1, e2⟩ := d4_kl4 (s := ts) (t := t0) (p := pl) HPL.out.1 HPL.out.2 HTG.out.2.2.1 HTG.out.1 HTG.out.2.1
            rw [e1, e2, sm_self] at h0
            exact h0
          clear hB hC5 hC1 hC2 hS1 hS2
          go_wp2_with fail
          clear l2 c2
          refine K4.out.mono ?_
          rintro R w5c ⟨rfl, hb5⟩
          have l15 := l1 w5c hb5
          go_wp2_with fail
          clear l15
          refine (K3.out w5c hb5).mono ?_
          rintro R w6c ⟨rfl, hb6⟩
          have HBF := Lib.hid (HB4.out.trans ((hb5.trans (hb6.mono hb5.size)).mono HB4.out.size))
          clear hb5 hb6 K3 K4 l1
          go_wp2_with fail
          refine (works18_c w6c (HT.out.lo HBF.out) (btab_lo HBT.out HBF.out)).mono ?_
          rintro R wz ⟨rfl, hbz⟩
          go_wp2
          go_ret
          exact ⟨rfl, HBF.out.trans (hbz.mono HBF.out.size)⟩
  · go_upto_region 8 with fail
    clear c2
    obtain ⟨wd, hwd⟩ : ∃ wd, wd = w2.drew := ⟨_, rfl⟩
    have bd : Below w2.heap.size w2 wd := hwd ▸ (Below.refl _ w2).drew
    have LD := Lib.hid (HL2.out.to bd)
    have HPD := Lib.hid (HP2.out.new bd)
    have HDS := Lib.hid (show w2.heap.size = wd.heap.size from by rw [hwd]; rfl)
    have ha := LD.out.get 0 rfl
    have hbb := LD.out.get 1 rfl
    have ldA3 : ∀ W, Below wd.heap.size wd W → (ldT 34 (.pointer (some ⟨w.heap.size, 0, none⟩))).run Tryz.prog W = .ok (.agg (stc a ao ac)) W := fun W hW => run_ldA ty_state (ha.below hW ha.lt) 0 (Nat.le_of_ble_eq_true rfl)
    have ldA4 : ∀ W, Below wd.heap.size wd W → (ldT 34 (.pointer (some ⟨w.heap.size + 1, 0, none⟩))).run Tryz.prog W = .ok (.agg (stc b bo bc)) W := fun W hW => run_ldA ty_state (hbb.below hW hbb.lt) 0 (Nat.le_of_ble_eq_true rfl)
    have R1 : Hid (∀ W, Below wd.heap.size wd W → Calls Tryz.prog 30 #[sv a ao ac, .int .u64 3] W (RgPost a 3 W)) := fun W hW => right_c a 3 ao ac W (shs_to (shs_to HS1.out LD.out.be) hW) HF1.out HL.out.1
    have R2 : Hid (∀ W, Below wd.heap.size wd W → Calls Tryz.prog 30 #[sv b bo bc, .int .u64 3] W (RgPost b 3 W)) := fun W hW => right_c b 3 bo bc W (shs_to (shs_to HS2.out LD.out.be) hW) HF2.out HL.out.2
    have HSG := Lib.hid (show (rgt a 3).good = true ∧ (rgt a 3).fit ∧ (rgt a 3).fr = 3 ∧ (rgt a 3).ss.length ≤ 8 from ⟨rgt_good _ _, rgt_fit HF1.out (by decide), rfl, rgt_few _ _⟩)
    have HTG := Lib.hid (show (rgt b 3).good = true ∧ (rgt b 3).fit ∧ (rgt b 3).fr = 3 ∧ (rgt b 3).ss.length ≤ 8 from ⟨rgt_good _ _, rgt_fit HF2.out (by decide), rfl, rgt_few _ _⟩)
    unfold RgPost at R1 R2
    obtain ⟨s0, hs0⟩ : ∃ s, s = rgt a 3 := ⟨_, rfl⟩
    obtain ⟨t0, ht0⟩ : ∃ t, t = rgt b 3 := ⟨_, rfl⟩
    rw [← hs0] at R1 HSG
    rw [← ht0] at R2 HTG
    clear hs0 ht0 ha hbb bd HP2 HL2
    go_cut [10, 11] (fun v10 v11 wx => ∃ g1 g2 so sc to_ tc, v10 = .pointer (some ⟨g1, 0, none⟩) ∧ v11 = .pointer (some ⟨g2, 0, none⟩) ∧ Hid (∃ wy, wy = wx ∧ Two18 wd g1 g2 s0 t0 so sc to_ tc wy))
    case first =>
      have LL := Lib.hid (Loc.nil (B := wd.heap.size) (w := wd) (Nat.le_refl _))
      have t0' : Below wd.heap.size wd wd := Below.refl _ _
      refine wp_region_till (S := fun W => Below wd.heap.size wd W) (by kernel_rfl) ?_
      rw [← hwd]
      clear hwd
      refine wpTill_take (i := 0) (v := ?vq4) rfl (by kernel_rfl) (fun _ _ _ h => h) (Or.inl ⟨by rfl, ?hq4⟩) t0' ?rq4
      case hq4 => (intro W hW; (try dsimp only at hW); go_simp; try with_reducible rfl)
      simp only [Act.put, List.setIfInBounds_toArray, List.set_cons_zero, List.set_cons_succ, List.getElem_toArray, List.getElem_cons_succ, List.getElem_cons_zero]
      refine wpTill_take (i := 2) (v := ?vq5) rfl (by kernel_rfl) (fun _ _ _ h => h) (Or.inl ⟨by rfl, ?hq5⟩) t0' ?rq5
      case hq5 => (intro W hW; (try dsimp only at hW); go_simp; try with_reducible rfl)
      simp only [Act.put, List.setIfInBounds_toArray, List.set_cons_zero, List.set_cons_succ, List.getElem_toArray, List.getElem_cons_succ, List.getElem_cons_zero]
      refine wpTill_take (i := 3) (v := ?vq6) rfl (by kernel_rfl) (fun _ _ _ h => h) (Or.inl ⟨by rfl, ?hq6⟩) t0' ?rq6
      case hq6 => (intro W hW; (try dsimp only at hW); go_simp; try with_reducible rfl)
      simp only [Act.put, List.setIfInBounds_toArray, List.set_cons_zero, List.set_cons_succ, List.getElem_toArray, List.getElem_cons_succ, List.getElem_cons_zero]
      clear t0'
      refine wpTill_tri (i := 1) (j := 5) (k := 6) (by kernel_rfl) rfl rfl rfl (LL.out.be) (fun K hK => ?_) (fun K hK => ?_) (fun K hK => ?_) 
      · go_simp
        go_at_call 30
        refine (R1.out wd LL.out.be).mono ?_
        rintro R v59 ⟨ao59, cap59, rfl, hs59, hr59, hb59⟩
        have L59 := Lib.hid (LL.out.to hb59)
        have Hs59 := Lib.hid hs59
        have Bs59 := Lib.hid (show ∀ a, ao59 = some a → s0.ss ≠ [] → wd.heap.size ≤ a.block from fun a e hn => Nat.le_trans LL.out.be.size (hr59 a e hn))
        clear hs59 hr59 hb59
        refine hK _ _ ?_
        clear hK K
        refine wpTill_tri (i := 4) (j := 5) (k := 6) (by kernel_rfl) rfl rfl rfl (L59.out.be) (fun K hK => ?_) (fun K hK => ?_) (fun K hK => ?_) 
        · go_simp
          go_at_call 30
          refine (R2.out v59 L59.out.be).mono ?_
          rintro R v60 ⟨ao60, cap60, rfl, hs60, hr60, hb60⟩
          have L60 := Lib.hid (L59.out.to hb60)
          have Hs59_60 := Lib.hid (shs_to Hs59.out hb60)
          have Ht60 := Lib.hid hs60
          have Bt60 := Lib.hid (show ∀ a, ao60 = some a → t0.ss ≠ [] → wd.heap.size ≤ a.block from fun a e hn => Nat.le_trans L59.out.be.size (hr60 a e hn))
          clear hs60 hr60 hb60
          refine hK _ _ ?_
          clear hK K
          refine wpTill_pair (i := 5) (j := 6) (by kernel_rfl) rfl rfl (L60.out.be) (fun K hK => ?_) (fun K hK => ?_) 
          · go_simp
            obtain ⟨v61, hv61⟩ : ∃ v, v = v60.alloc (.cells #[.int .u64 0, .int .u64 0, .int .i32 0, .int .i32 0, .int .i32 0, .int .i32 0, .int .u8 0, .int .u8 0, .int .u8 0, .int .i32 0, .int .i32 0, .int .i32 0, .int .i32 0, .int .u8 0, .int .u8 0, .int .u8 0, .slice none 0 0, .int .u16 0, .int .u16 0] 34) := ⟨_, rfl⟩
            obtain ⟨k61, hk61⟩ : ∃ k, k = v60.heap.size := ⟨_, rfl⟩
            rw [← hv61, ← hk61]
            have L61 := Lib.hid (show Loc wd.heap.size wd v61 [(k61, 34, #[.int .u64 0, .int .u64 0, .int .i32 0, .int .i32 0, .int .i32 0, .int .i32 0, .int .u8 0, .int .u8 0, .int .u8 0, .int .i32 0, .int .i32 0, .int .i32 0, .int .i32 0, .int .u8 0, .int .u8 0, .int .u8 0, .slice none 0 0, .int .u16 0, .int .u16 0])] from hv61 ▸ hk61 ▸ (L60.out.more 34 #[.int .u64 0, .int .u64 0, .int .i32 0, .int .i32 0, .int .i32 0, .int .i32 0, .int .u8 0, .int .u8 0, .int .u8 0, .int .i32 0, .int .i32 0, .int .i32 0, .int .i32 0, .int .u8 0, .int .u8 0, .int .u8 0, .slice none 0 0, .int .u16 0, .int .u16 0]))
            have b61 : Below v60.heap.size v60 v61 := hv61 ▸ kb_alloc v60 _
            have Hs59_60_61 := Lib.hid (shs_to Hs59_60.out b61)
            have nes5_61 := Lib.hid (show ∀ a, ao59 = some a → s0.ss ≠ [] → a.block ≠ k61 from fun a e hn => by have := shs_lt Hs59_60.out a e hn; omega)
            have Ht60_61 := Lib.hid (shs_to Ht60.out b61)
            have net5_61 := Lib.hid (show ∀ a, ao60 = some a → t0.ss ≠ [] → a.block ≠ k61 from fun a e hn => by have := shs_lt Ht60.out a e hn; omega)
            clear hv61 b61 hk61
            refine hK _ _ ?_
            clear hK K
            refine wpTill_run (i := 6) (by kernel_rfl) rfl (L61.out.be) (fun K hK => ?_) 
            go_simp
            obtain ⟨v62, hv62⟩ : ∃ v, v = v61.alloc (.cells #[.int .u64 0, .int .u64 0, .int .i32 0, .int .i32 0, .int .i32 0, .int .i32 0, .int .u8 0, .int .u8 0, .int .u8 0, .int .i32 0, .int .i32 0, .int .i32 0, .int .i32 0, .int .u8 0, .int .u8 0, .int .u8 0, .slice none 0 0, .int .u16 0, .int .u16 0] 34) := ⟨_, rfl⟩
            obtain ⟨k62, hk62⟩ : ∃ k, k = v61.heap.size := ⟨_, rfl⟩
            rw [← hv62, ← hk62]
            have L62 := Lib.hid (show Loc wd.heap.size wd v62 [(k61, 34, #[.int .u64 0, .int .u64 0, .int .i32 0, .int .i32 0, .int .i32 0, .int .i32 0, .int .u8 0, .int .u8 0, .int .u8 0, .int .i32 0, .int .i32 0, .int .i32 0, .int .i32 0, .int .u8 0, .int .u8 0, .int .u8 0, .slice none 0 0, .int .u16 0, .int .u16 0]), (k62, 34, #[.int .u64 0, .int .u64 0, .int .i32 0, .int .i32 0, .int .i32 0, .int .i32 0, .int .u8 0, .int .u8 0, .int .u8 0, .int .i32 0, .int .i32 0, .int .i32 0, .int .i32 0, .int .u8 0, .int .u8 0, .int .u8 0, .slice none 0 0, .int .u16 0, .int .u16 0])] from hv62 ▸ hk62 ▸ (L61.out.more 34 #[.int .u64 0, .int .u64 0, .int .i32 0, .int .i32 0, .int .i32 0, .int .i32 0, .int .u8 0, .int .u8 0, .int .u8 0, .int .i32 0, .int .i32 0, .int .i32 0, .int .i32 0, .int .u8 0, .int .u8 0, .int .u8 0, .slice none 0 0, .int .u16 0, .int .u16 0]))
            have b62 : Below v61.heap.size v61 v62 := hv62 ▸ kb_alloc v61 _
            have Hs59_60_61_62 := Lib.hid (shs_to Hs59_60_61.out b62)
            have nes6_62 := Lib.hid (show ∀ a, ao59 = some a → s0.ss ≠ [] → a.block ≠ k62 from fun a e hn => by have := shs_lt Hs59_60_61.out a e hn; omega)
            have Ht60_61_62 := Lib.hid (shs_to Ht60_61.out b62)
            have net6_62 := Lib.hid (show ∀ a, ao60 = some a → t0.ss ≠ [] → a.block ≠ k62 from fun a e hn => by have := shs_lt Ht60_61.out a e hn; omega)
            clear hv62 b62 hk62
            refine hK _ _ ?_
            clear hK K
            refine wpTill_run (i := 7) (by kernel_rfl) rfl (L62.out.be) (fun K hK => ?_) 
            obtain ⟨v63, st63, l63, q63⟩ := L62.out.stA ty_state 0 rfl 0 (stc s0 ao59 cap59) (cs' := stc s0 ao59 cap59) rfl (L' := [(k61, 34, stc s0 ao59 cap59), (k62, 34, #[.int .u64 0, .int .u64 0, .int .i32 0, .int .i32 0, .int .i32 0, .int .i32 0, .int .u8 0, .int .u8 0, .int .u8 0, .int .i32 0, .int .i32 0, .int .i32 0, .int .i32 0, .int .u8 0, .int .u8 0, .int .u8 0, .slice none 0 0, .int .u16 0, .int .u16 0])]) rfl (Nat.le_of_ble_eq_true rfl) rfl rfl
            have L63 := Lib.hid l63
            have Hs59_60_61_62_63 := Lib.hid (shs_turn Hs59_60_61_62.out q63 nes5_61.out)
            have Ht60_61_62_63 := Lib.hid (shs_turn Ht60_61_62.out q63 net5_61.out)
            go_simp
            clear l63 q63 st63
            refine hK _ _ ?_
            clear hK K
            refine wpTill_run (i := 8) (by kernel_rfl) rfl (L63.out.be) (fun K hK => ?_) 
            obtain ⟨v64, st64, l64, q64⟩ := L63.out.stA ty_state 1 rfl 0 (stc t0 ao60 cap60) (cs' := stc t0 ao60 cap60) rfl (L' := [(k61, 34, stc s0 ao59 cap59), (k62, 34, stc t0 ao60 cap60)]) rfl (Nat.le_of_ble_eq_true rfl) rfl rfl
            have L64 := Lib.hid l64
            have Hs59_60_61_62_63_64 := Lib.hid (shs_turn Hs59_60_61_62_63.out q64 nes6_62.out)
            have Ht60_61_62_63_64 := Lib.hid (shs_turn Ht60_61_62_63.out q64 net6_62.out)
            go_simp
            clear l64 q64 st64
            refine hK _ _ ?_
            clear hK K
            refine wpTill_done (by kernel_rfl) ?_
            go_wp2_with fail
            go_meet
            exact ⟨k61, k62, ao59, cap59, ao60, cap60, rfl, rfl, ⟨_, rfl, ⟨L64.out.be, L64.out.get 0 rfl, L64.out.get 1 rfl, Hs59_60_61_62_63_64.out, Ht60_61_62_63_64.out, L64.out.bge 0 rfl, L64.out.bge 1 rfl, Bs59.out, Bt60.out⟩⟩⟩
          · go_simp
            obtain ⟨v65, hv65⟩ : ∃ v, v = v60.alloc (.cells #[.int .u64 0, .int .u64 0, .int .i32 0, .int .i32 0, .int .i32 0, .int .i32 0, .int .u8 0, .int .u8 0, .int .u8 0, .int .i32 0, .int .i32 0, .int .i32 0, .int .i32 0, .int .u8 0, .int .u8 0, .int .u8 0, .slice none 0 0, .int .u16 0, .int .u16 0] 34) := ⟨_, rfl⟩
            obtain ⟨k65, hk65⟩ : ∃ k, k = v60.heap.size := ⟨_, rfl⟩
            rw [← hv65, ← hk65]
            have L65 := Lib.hid (show Loc wd.heap.size wd v65 [(k65, 34, #[.int .u64 0, .int .u64 0, .int .i32 0, .int .i32 0, .int .i32 0, .int .i32 0, .int .u8 0, .int .u8 0, .int .u8 0, .int .i32 0, .int .i32 0, .int .i32 0, .int .i32 0, .int .u8 0, .int .u8 0, .int .u8 0, .slice none 0 0, .int .u16 0, .int .u16 0])] from hv65 ▸ hk65 ▸ (L60.out.more 34 #[.int .u64 0, .int .u64 0, .int .i32 0, .int .i32 0, .int .i32 0, .int .i32 0, .int .u8 0, .int .u8 0, .int .u8 0, .int .i32 0, .int .i32 0, .int .i32 0, .int .i32 0, .int .u8 0, .int .u8 0, .int .u8 0, .slice none 0 0, .int .u16 0, .int .u16 0]))
            have b65 : Below v60.heap.size v60 v65 := hv65 ▸ kb_alloc v60 _
            have Hs59_60_65 := Lib.hid (shs_to Hs59_60.out b65)
            have nes6_65 := Lib.hid (show ∀ a, ao59 = some a → s0.ss ≠ [] → a.block ≠ k65 from fun a e hn => by have := shs_lt Hs59_60.out a e hn; omega)
            have Ht60_65 := Lib.hid (shs_to Ht60.out b65)
            have net6_65 := Lib.hid (show ∀ a, ao60 = some a → t0.ss ≠ [] → a.block ≠ k65 from fun a e hn => by have := shs_lt Ht60.out a e hn; omega)
            clear hv65 b65 hk65
            refine hK _ _ ?_
            clear hK K
            refine wpTill_run (i := 5) (by kernel_rfl) rfl (L65.out.be) (fun K hK => ?_) 
            go_simp
            obtain ⟨v66, hv66⟩ : ∃ v, v = v65.alloc (.cells #[.int .u64 0, .int .u64 0, .int .i32 0, .int .i32 0, .int .i32 0, .int .i32 0, .int .u8 0, .int .u8 0, .int .u8 0, .int .i32 0, .int .i32 0, .int .i32 0, .int .i32 0, .int .u8 0, .int .u8 0, .int .u8 0, .slice none 0 0, .int .u16 0, .int .u16 0] 34) := ⟨_, rfl⟩
            obtain ⟨k66, hk66⟩ : ∃ k, k = v65.heap.size := ⟨_, rfl⟩
            rw [← hv66, ← hk66]
            have L66 := Lib.hid (show Loc wd.heap.size wd v66 [(k65, 34, #[.int .u64 0, .int .u64 0, .int .i32 0, .int .i32 0, .int .i32 0, .int .i32 0, .int .u8 0, .int .u8 0, .int .u8 0, .int .i32 0, .int .i32 0, .int .i32 0, .int .i32 0, .int .u8 0, .int .u8 0, .int .u8 0, .slice none 0 0, .int .u16 0, .int .u16 0]), (k66, 34, #[.int .u64 0, .int .u64 0, .int .i32 0, .int .i32 0, .int .i32 0, .int .i32 0, .int .u8 0, .int .u8 0, .int .u8 0, .int .i32 0, .int .i32 0, .int .i32 0, .int .i32 0, .int .u8 0, .int .u8 0, .int .u8 0, .slice none 0 0, .int .u16 0, .int .u16 0])] from hv66 ▸ hk66 ▸ (L65.out.more 34 #[.int .u64 0, .int .u64 0, .int .i32 0, .int .i32 0, .int .i32 0, .int .i32 0, .int .u8 0, .int .u8 0, .int .u8 0, .int .i32 0, .int .i32 0, .int .i32 0, .int .i32 0, .int .u8 0, .int .u8 0, .int .u8 0, .slice none 0 0, .int .u16 0, .int .u16 0]))
            have b66 : Below v65.heap.size v65 v66 := hv66 ▸ kb_alloc v65 _
            have Hs59_60_65_66 := Lib.hid (shs_to Hs59_60_65.out b66)
            have nes5_66 := Lib.hid (show ∀ a, ao59 = some a → s0.ss ≠ [] → a.block ≠ k66 from fun a e hn => by have := shs_lt Hs59_60_65.out a e hn; omega)
            have Ht60_65_66 := Lib.hid (shs_to Ht60_65.out b66)
            have net5_66 := Lib.hid (show ∀ a, ao60 = some a → t0.ss ≠ [] → a.block ≠ k66 from fun a e hn => by have := shs_lt Ht60_65.out a e hn; omega)
            clear hv66 b66 hk66
            refine hK _ _ ?_
            clear hK K
            refine wpTill_run (i := 7) (by kernel_rfl) rfl (L66.out.be) (fun K hK => ?_) 
            obtain ⟨v67, st67, l67, q67⟩ := L66.out.stA ty_state 1 rfl 0 (stc s0 ao59 cap59) (cs' := stc s0 ao59 cap59) rfl (L' := [(k65, 34, #[.int .u64 0, .int .u64 0, .int .i32 0, .int .i32 0, .int .i32 0, .int .i32 0, .int .u8 0, .int .u8 0, .int .u8 0, .int .i32 0, .int .i32 0, .int .i32 0, .int .i32 0, .int .u8 0, .int .u8 0, .int .u8 0, .slice none 0 0, .int .u16 0, .int .u16 0]), (k66, 34, stc s0 ao59 cap59)]) rfl (Nat.le_of_ble_eq_true rfl) rfl rfl
            have L67 := Lib.hid l67
            have Hs59_60_65_66_67 := Lib.hid (shs_turn Hs59_60_65_66.out q67 nes5_66.out)
            have Ht60_65_66_67 := Lib.hid (shs_turn Ht60_65_66.out q67 net5_66.out)
            go_simp
            clear l67 q67 st67
            refine hK _ _ ?_
            clear hK K
            refine wpTill_run (i := 8) (by kernel_rfl) rfl (L67.out.be) (fun K hK => ?_) 
            obtain ⟨v68, st68, l68, q68⟩ := L67.out.stA ty_state 0 rfl 0 (stc t0 ao60 cap60) (cs' := stc t0 ao60 cap60) rfl (L' := [(k65, 34, stc t0 ao60 cap60), (k66, 34, stc s0 ao59 cap59)]) rfl (Nat.le_of_ble_eq_true rfl) rfl rfl
            have L68 := Lib.hid l68
            have Hs59_60_65_66_67_68 := Lib.hid (shs_turn Hs59_60_65_66_67.out q68 nes6_65.out)
            have Ht60_65_66_67_68 := Lib.hid (shs_turn Ht60_65_66_67.out q68 net6_65.out)
            go_simp
            clear l68 q68 st68
            refine hK _ _ ?_
            clear hK K
            refine wpTill_done (by kernel_rfl) ?_
            go_wp2_with fail
            go_meet
            exact ⟨k66, k65, ao59, cap59, ao60, cap60, rfl, rfl, ⟨_, rfl, ⟨L68.out.be, L68.out.get 1 rfl, L68.out.get 0 rfl, Hs59_60_65_66_67_68.out, Ht60_65_66_67_68.out, L68.out.bge 1 rfl, L68.out.bge 0 rfl, Bs59.out, Bt60.out⟩⟩⟩
        · go_simp
          obtain ⟨v69, hv69⟩ : ∃ v, v = v59.alloc (.cells #[.int .u64 0, .int .u64 0, .int .i32 0, .int .i32 0, .int .i32 0, .int .i32 0, .int .u8 0, .int .u8 0, .int .u8 0, .int .i32 0, .int .i32 0, .int .i32 0, .int .i32 0, .int .u8 0, .int .u8 0, .int .u8 0, .slice none 0 0, .int .u16 0, .int .u16 0] 34) := ⟨_, rfl⟩
          obtain ⟨k69, hk69⟩ : ∃ k, k = v59.heap.size := ⟨_, rfl⟩
          rw [← hv69, ← hk69]
          have L69 := Lib.hid (show Loc wd.heap.size wd v69 [(k69, 34, #[.int .u64 0, .int .u64 0, .int .i32 0, .int .i32 0, .int .i32 0, .int .i32 0, .int .u8 0, .int .u8 0, .int .u8 0, .int .i32 0, .int .i32 0, .int .i32 0, .int .i32 0, .int .u8 0, .int .u8 0, .int .u8 0, .slice none 0 0, .int .u16 0, .int .u16 0])] from hv69 ▸ hk69 ▸ (L59.out.more 34 #[.int .u64 0, .int .u64 0, .int .i32 0, .int .i32 0, .int .i32 0, .int .i32 0, .int .u8 0, .int .u8 0, .int .u8 0, .int .i32 0, .int .i32 0, .int .i32 0, .int .i32 0, .int .u8 0, .int .u8 0, .int .u8 0, .slice none 0 0, .int .u16 0, .int .u16 0]))
          have b69 : Below v59.heap.size v59 v69 := hv69 ▸ kb_alloc v59 _
          have Hs59_69 := Lib.hid (shs_to Hs59.out b69)
          have nes5_69 := Lib.hid (show ∀ a, ao59 = some a → s0.ss ≠ [] → a.block ≠ k69 from fun a e hn => by have := shs_lt Hs59.out a e hn; omega)
          clear hv69 b69 hk69
          refine hK _ _ ?_
          clear hK K
          refine wpTill_pair (i := 4) (j := 6) (by kernel_rfl) rfl rfl (L69.out.be) (fun K hK => ?_) (fun K hK => ?_) 
          · go_simp
            go_at_call 30
            refine (R2.out v69 L69.out.be).mono ?_
            rintro R v70 ⟨ao70, cap70, rfl, hs70, hr70, hb70⟩
            have L70 := Lib.hid (L69.out.to hb70)
            have net5_70 := Lib.hid (show ∀ a, ao70 = some a → t0.ss ≠ [] → a.block ≠ k69 from fun a e hn => by have h1 := hr70 a e hn; have h2 := L69.out.low (e := (k69, 34, #[.int .u64 0, .int .u64 0, .int .i32 0, .int .i32 0, .int .i32 0, .int .i32 0, .int .u8 0, .int .u8 0, .int .u8 0, .int .i32 0, .int .i32 0, .int .i32 0, .int .i32 0, .int .u8 0, .int .u8 0, .int .u8 0, .slice none 0 0, .int .u16 0, .int .u16 0])) (by simp); dsimp only at h2; omega)
            have Hs59_69_70 := Lib.hid (shs_to Hs59_69.out hb70)
            have Ht70 := Lib.hid hs70
            have Bt70 := Lib.hid (show ∀ a, ao70 = some a → t0.ss ≠ [] → wd.heap.size ≤ a.block from fun a e hn => Nat.le_trans L69.out.be.size (hr70 a e hn))
            clear hs70 hr70 hb70
            refine hK _ _ ?_
            clear hK K
            refine wpTill_run (i := 6) (by kernel_rfl) rfl (L70.out.be) (fun K hK => ?_) 
            go_simp
            obtain ⟨v71, hv71⟩ : ∃ v, v = v70.alloc (.cells #[.int .u64 0, .int .u64 0, .int .i32 0, .int .i32 0, .int .i32 0, .int .i32 0, .int .u8 0, .int .u8 0, .int .u8 0, .int .i32 0, .int .i32 0, .int .i32 0, .int .i32 0, .int .u8 0, .int .u8 0, .int .u8 0, .slice none 0 0, .int .u16 0, .int .u16 0] 34) := ⟨_, rfl⟩
            obtain ⟨k71, hk71⟩ : ∃ k, k = v70.heap.size := ⟨_, rfl⟩
            rw [← hv71, ← hk71]
            have L71 := Lib.hid (show Loc wd.heap.size wd v71 [(k69, 34, #[.int .u64 0, .int .u64 0, .int .i32 0, .int .i32 0, .int .i32 0, .int .i32 0, .int .u8 0, .int .u8 0, .int .u8 0, .int .i32 0, .int .i32 0, .int .i32 0, .int .i32 0, .int .u8 0, .int .u8 0, .int .u8 0, .slice none 0 0, .int .u16 0, .int .u16 0]), (k71, 34, #[.int .u64 0, .int .u64 0, .int .i32 0, .int .i32 0, .int .i32 0, .int .i32 0, .int .u8 0, .int .u8 0, .int .u8 0, .int .i32 0, .int .i32 0, .int .i32 0, .int .i32 0, .int .u8 0, .int .u8 0, .int .u8 0, .slice none 0 0, .int .u16 0, .int .u16 0])] from hv71 ▸ hk71 ▸ (L70.out.more 34 #[.int .u64 0, .int .u64 0, .int .i32 0, .int .i32 0, .int .i32 0, .int .i32 0, .int .u8 0, .int .u8 0, .int .u8 0, .int .i32 0, .int .i32 0, .int .i32 0, .int .i32 0, .int .u8 0, .int .u8 0, .int .u8 0, .slice none 0 0, .int .u16 0, .int .u16 0]))
            have b71 : Below v70.heap.size v70 v71 := hv71 ▸ kb_alloc v70 _
            have Hs59_69_70_71 := Lib.hid (shs_to Hs59_69_70.out b71)
            have nes6_71 := Lib.hid (show ∀ a, ao59 = some a → s0.ss ≠ [] → a.block ≠ k71 from fun a e hn => by have := shs_lt Hs59_69_70.out a e hn; omega)
            have Ht70_71 := Lib.hid (shs_to Ht70.out b71)
            have net6_71 := Lib.hid (show ∀ a, ao70 = some a → t0.ss ≠ [] → a.block ≠ k71 from fun a e hn => by have := shs_lt Ht70.out a e hn; omega)
            clear hv71 b71 hk71
            refine hK _ _ ?_
            clear hK K
            refine wpTill_run (i := 7) (by kernel_rfl) rfl (L71.out.be) (fun K hK => ?_) 
            obtain ⟨v72, st72, l72, q72⟩ := L71.out.stA ty_state 0 rfl 0 (stc s0 ao59 cap59) (cs' := stc s0 ao59 cap59) rfl (L' := [(k69, 34, stc s0 ao59 cap59), (k71, 34, #[.int .u64 0, .int .u64 0, .int .i32 0, .int .i32 0, .int .i32 0, .int .i32 0, .int .u8 0, .int .u8 0, .int .u8 0, .int .i32 0, .int .i32 0, .int .i32 0, .int .i32 0, .int .u8 0, .int .u8 0, .int .u8 0, .slice none 0 0, .int .u16 0, .int .u16 0])]) rfl (Nat.le_of_ble_eq_true rfl) rfl rfl
            have L72 := Lib.hid l72
            have Hs59_69_70_71_72 := Lib.hid (shs_turn Hs59_69_70_71.out q72 nes5_69.out)
            have Ht70_71_72 := Lib.hid (shs_turn Ht70_71.out q72 net5_70.out)
            go_simp
            clear l72 q72 st72
            refine hK _ _ ?_
            clear hK K
            refine wpTill_run (i := 8) (by kernel_rfl) rfl (L72.out.be) (fun K hK => ?_) 
            obtain ⟨v73, st73, l73, q73⟩ := L72.out.stA ty_state 1 rfl 0 (stc t0 ao70 cap70) (cs' := stc t0 ao70 cap70) rfl (L' := [(k69, 34, stc s0 ao59 cap59), (k71, 34, stc t0 ao70 cap70)]) rfl (Nat.le_of_ble_eq_true rfl) rfl rfl
            have L73 := Lib.hid l73
            have Hs59_69_70_71_72_73 := Lib.hid (shs_turn Hs59_69_70_71_72.out q73 nes6_71.out)
            have Ht70_71_72_73 := Lib.hid (shs_turn Ht70_71_72.out q73 net6_71.out)
            go_simp
            clear l73 q73 st73
            refine hK _ _ ?_
            clear hK K
            refine wpTill_done (by kernel_rfl) ?_
            go_wp2_with fail
            go_meet
            exact ⟨k69, k71, ao59, cap59, ao70, cap70, rfl, rfl, ⟨_, rfl, ⟨L73.out.be, L73.out.get 0 rfl, L73.out.get 1 rfl, Hs59_69_70_71_72_73.out, Ht70_71_72_73.out, L73.out.bge 0 rfl, L73.out.bge 1 rfl, Bs59.out, Bt70.out⟩⟩⟩
          · go_simp
            obtain ⟨v74, hv74⟩ : ∃ v, v = v69.alloc (.cells #[.int .u64 0, .int .u64 0, .int .i32 0, .int .i32 0, .int .i32 0, .int .i32 0, .int .u8 0, .int .u8 0, .int .u8 0, .int .i32 0, .int .i32 0, .int .i32 0, .int .i32 0, .int .u8 0, .int .u8 0, .int .u8 0, .slice none 0 0, .int .u16 0, .int .u16 0] 34) := ⟨_, rfl⟩
            obtain ⟨k74, hk74⟩ : ∃ k, k = v69.heap.size := ⟨_, rfl⟩
            rw [← hv74, ← hk74]
            have L74 := Lib.hid (show Loc wd.heap.size wd v74 [(k69, 34, #[.int .u64 0, .int .u64 0, .int .i32 0, .int .i32 0, .int .i32 0, .int .i32 0, .int .u8 0, .int .u8 0, .int .u8 0, .int .i32 0, .int .i32 0, .int .i32 0, .int .i32 0, .int .u8 0, .int .u8 0, .int .u8 0, .slice none 0 0, .int .u16 0, .int .u16 0]), (k74, 34, #[.int .u64 0, .int .u64 0, .int .i32 0, .int .i32 0, .int .i32 0, .int .i32 0, .int .u8 0, .int .u8 0, .int .u8 0, .int .i32 0, .int .i32 0, .int .i32 0, .int .i32 0, .int .u8 0, .int .u8 0, .int .u8 0, .slice none 0 0, .int .u16 0, .int .u16 0])] from hv74 ▸ hk74 ▸ (L69.out.more 34 #[.int .u64 0, .int .u64 0, .int .i32 0, .int .i32 0, .int .i32 0, .int .i32 0, .int .u8 0, .int .u8 0, .int .u8 0, .int .i32 0, .int .i32 0, .int .i32 0, .int .i32 0, .int .u8 0, .int .u8 0, .int .u8 0, .slice none 0 0, .int .u16 0, .int .u16 0]))
            have b74 : Below v69.heap.size v69 v74 := hv74 ▸ kb_alloc v69 _
            have Hs59_69_74 := Lib.hid (shs_to Hs59_69.out b74)
            have nes6_74 := Lib.hid (show ∀ a, ao59 = some a → s0.ss ≠ [] → a.block ≠ k74 from fun a e hn => by have := shs_lt Hs59_69.out a e hn; omega)
            clear hv74 b74 hk74
            refine hK _ _ ?_
            clear hK K
            refine wpTill_run (i := 4) (by kernel_rfl) rfl (L74.out.be) (fun K hK => ?_) 
            go_simp
            go_at_call 30
            refine (R2.out v74 L74.out.be).mono ?_
            rintro R v75 ⟨ao75, cap75, rfl, hs75, hr75, hb75⟩
            have L75 := Lib.hid (L74.out.to hb75)
            have net5_75 := Lib.hid (show ∀ a, ao75 = some a → t0.ss ≠ [] → a.block ≠ k69 from fun a e hn => by have h1 := hr75 a e hn; have h2 := L74.out.low (e := (k69, 34, #[.int .u64 0, .int .u64 0, .int .i32 0, .int .i32 0, .int .i32 0, .int .i32 0, .int .u8 0, .int .u8 0, .int .u8 0, .int .i32 0, .int .i32 0, .int .i32 0, .int .i32 0, .int .u8 0, .int .u8 0, .int .u8 0, .slice none 0 0, .int .u16 0, .int .u16 0])) (by simp); dsimp only at h2; omega)
            have net6_75 := Lib.hid (show ∀ a, ao75 = some a → t0.ss ≠ [] → a.block ≠ k74 from fun a e hn => by have h1 := hr75 a e hn; have h2 := L74.out.low (e := (k74, 34, #[.int .u64 0, .int .u64 0, .int .i32 0, .int .i32 0, .int .i32 0, .int .i32 0, .int .u8 0, .int .u8 0, .int .u8 0, .int .i32 0, .int .i32 0, .int .i32 0, .int .i32 0, .int .u8 0, .int .u8 0, .int .u8 0, .slice none 0 0, .int .u16 0, .int .u16 0])) (by simp); dsimp only at h2; omega)
            have Hs59_69_74_75 := Lib.hid (shs_to Hs59_69_74.out hb75)
            have Ht75 := Lib.hid hs75
            have Bt75 := Lib.hid (show ∀ a, ao75 = some a → t0.ss ≠ [] → wd.heap.size ≤ a.block from fun a e hn => Nat.le_trans L74.out.be.size (hr75 a e hn))
            clear hs75 hr75 hb75
            refine hK _ _ ?_
            clear hK K
            refine wpTill_run (i := 7) (by kernel_rfl) rfl (L75.out.be) (fun K hK => ?_) 
            obtain ⟨v76, st76, l76, q76⟩ := L75.out.stA ty_state 0 rfl 0 (stc s0 ao59 cap59) (cs' := stc s0 ao59 cap59) rfl (L' := [(k69, 34, stc s0 ao59 cap59), (k74, 34, #[.int .u64 0, .int .u64 0, .int .i32 0, .int .i32 0, .int .i32 0, .int .i32 0, .int .u8 0, .int .u8 0, .int .u8 0, .int .i32 0, .int .i32 0, .int .i32 0, .int .i32 0, .int .u8 0, .int .u8 0, .int .u8 0, .slice none 0 0, .int .u16 0, .int .u16 0])]) rfl (Nat.le_of_ble_eq_true rfl) rfl rfl
            have L76 := Lib.hid l76
            have Hs59_69_74_75_76 := Lib.hid (shs_turn Hs59_69_74_75.out q76 nes5_69.out)
            have Ht75_76 := Lib.hid (shs_turn Ht75.out q76 net5_75.out)
            go_simp
            clear l76 q76 st76
            refine hK _ _ ?_
            clear hK K
            refine wpTill_run (i := 8) (by kernel_rfl) rfl (L76.out.be) (fun K hK => ?_) 
            obtain ⟨v77, st77, l77, q77⟩ := L76.out.stA ty_state 1 rfl 0 (stc t0 ao75 cap75) (cs' := stc t0 ao75 cap75) rfl (L' := [(k69, 34, stc s0 ao59 cap59), (k74, 34, stc t0 ao75 cap75)]) rfl (Nat.le_of_ble_eq_true rfl) rfl rfl
            have L77 := Lib.hid l77
            have Hs59_69_74_75_76_77 := Lib.hid (shs_turn Hs59_69_74_75_76.out q77 nes6_74.out)
            have Ht75_76_77 := Lib.hid (shs_turn Ht75_76.out q77 net6_75.out)
            go_simp
            clear l77 q77 st77
            refine hK _ _ ?_
            clear hK K
            refine wpTill_done (by kernel_rfl) ?_
            go_wp2_with fail
            go_meet
            exact ⟨k69, k74, ao59, cap59, ao75, cap75, rfl, rfl, ⟨_, rfl, ⟨L77.out.be, L77.out.get 0 rfl, L77.out.get 1 rfl, Hs59_69_74_75_76_77.out, Ht75_76_77.out, L77.out.bge 0 rfl, L77.out.bge 1 rfl, Bs59.out, Bt75.out⟩⟩⟩
        · go_simp
          obtain ⟨v78, hv78⟩ : ∃ v, v = v59.alloc (.cells #[.int .u64 0, .int .u64 0, .int .i32 0, .int .i32 0, .int .i32 0, .int .i32 0, .int .u8 0, .int .u8 0, .int .u8 0, .int .i32 0, .int .i32 0, .int .i32 0, .int .i32 0, .int .u8 0, .int .u8 0, .int .u8 0, .slice none 0 0, .int .u16 0, .int .u16 0] 34) := ⟨_, rfl⟩
          obtain ⟨k78, hk78⟩ : ∃ k, k = v59.heap.size := ⟨_, rfl⟩
          rw [← hv78, ← hk78]
          have L78 := Lib.hid (show Loc wd.heap.size wd v78 [(k78, 34, #[.int .u64 0, .int .u64 0, .int .i32 0, .int .i32 0, .int .i32 0, .int .i32 0, .int .u8 0, .int .u8 0, .int .u8 0, .int .i32 0, .int .i32 0, .int .i32 0, .int .i32 0, .int .u8 0, .int .u8 0, .int .u8 0, .slice none 0 0, .int .u16 0, .int .u16 0])] from hv78 ▸ hk78 ▸ (L59.out.more 34 #[.int .u64 0, .int .u64 0, .int .i32 0, .int .i32 0, .int .i32 0, .int .i32 0, .int .u8 0, .int .u8 0, .int .u8 0, .int .i32 0, .int .i32 0, .int .i32 0, .int .i32 0, .int .u8 0, .int .u8 0, .int .u8 0, .slice none 0 0, .int .u16 0, .int .u16 0]))
          have b78 : Below v59.heap.size v59 v78 := hv78 ▸ kb_alloc v59 _
          have Hs59_78 := Lib.hid (shs_to Hs59.out b78)
          have nes6_78 := Lib.hid (show ∀ a, ao59 = some a → s0.ss ≠ [] → a.block ≠ k78 from fun a e hn => by have := shs_lt Hs59.out a e hn; omega)
          clear hv78 b78 hk78
          refine hK _ _ ?_
          clear hK K
          refine wpTill_pair (i := 4) (j := 5) (by kernel_rfl) rfl rfl (L78.out.be) (fun K hK => ?_) (fun K hK => ?_) 
          · go_simp
            go_at_call 30
            refine (R2.out v78 L78.out.be).mono ?_
            rintro R v79 ⟨ao79, cap79, rfl, hs79, hr79, hb79⟩
            have L79 := Lib.hid (L78.out.to hb79)
            have net6_79 := Lib.hid (show ∀ a, ao79 = some a → t0.ss ≠ [] → a.block ≠ k78 from fun a e hn => by have h1 := hr79 a e hn; have h2 := L78.out.low (e := (k78, 34, #[.int .u64 0, .int .u64 0, .int .i32 0, .int .i32 0, .int .i32 0, .int .i32 0, .int .u8 0, .int .u8 0, .int .u8 0, .int .i32 0, .int .i32 0, .int .i32 0, .int .i32 0, .int .u8 0, .int .u8 0, .int .u8 0, .slice none 0 0, .int .u16 0, .int .u16 0])) (by simp); dsimp only at h2; omega)
            have Hs59_78_79 := Lib.hid (shs_to Hs59_78.out hb79)
            have Ht79 := Lib.hid hs79
            have Bt79 := Lib.hid (show ∀ a, ao79 = some a → t0.ss ≠ [] → wd.heap.size ≤ a.block from fun a e hn => Nat.le_trans L78.out.be.size (hr79 a e hn))
            clear hs79 hr79 hb79
            refine hK _ _ ?_
            clear hK K
            refine wpTill_run (i := 5) (by kernel_rfl) rfl (L79.out.be) (fun K hK => ?_) 
            go_simp
            obtain ⟨v80, hv80⟩ : ∃ v, v = v79.alloc (.cells #[.int .u64 0, .int .u64 0, .int .i32 0, .int .i32 0, .int .i32 0, .int .i32 0, .int .u8 0, .int .u8 0, .int .u8 0, .int .i32 0, .int .i32 0, .int .i32 0, .int .i32 0, .int .u8 0, .int .u8 0, .int .u8 0, .slice none 0 0, .int .u16 0, .int .u16 0] 34) := ⟨_, rfl⟩
            obtain ⟨k80, hk80⟩ : ∃ k, k = v79.heap.size := ⟨_, rfl⟩
            rw [← hv80, ← hk80]
            have L80 := Lib.hid (show Loc wd.heap.size wd v80 [(k78, 34, #[.int .u64 0, .int .u64 0, .int .i32 0, .int .i32 0, .int .i32 0, .int .i32 0, .int .u8 0, .int .u8 0, .int .u8 0, .int .i32 0, .int .i32 0, .int .i32 0, .int .i32 0, .int .u8 0, .int .u8 0, .int .u8 0, .slice none 0 0, .int .u16 0, .int .u16 0]), (k80, 34, #[.int .u64 0, .int .u64 0, .int .i32 0, .int .i32 0, .int .i32 0, .int .i32 0, .int .u8 0, .int .u8 0, .int .u8 0, .int .i32 0, .int .i32 0, .int .i32 0, .int .i32 0, .int .u8 0, .int .u8 0, .int .u8 0, .slice none 0 0, .int .u16 0, .int .u16 0])] from hv80 ▸ hk80 ▸ (L79.out.more 34 #[.int .u64 0, .int .u64 0, .int .i32 0, .int .i32 0, .int .i32 0, .int .i32 0, .int .u8 0, .int .u8 0, .int .u8 0, .int .i32 0, .int .i32 0, .int .i32 0, .int .i32 0, .int .u8 0, .int .u8 0, .int .u8 0, .slice none 0 0, .int .u16 0, .int .u16 0]))
            have b80 : Below v79.heap.size v79 v80 := hv80 ▸ kb_alloc v79 _
            have Hs59_78_79_80 := Lib.hid (shs_to Hs59_78_79.out b80)
            have nes5_80 := Lib.hid (show ∀ a, ao59 = some a → s0.ss ≠ [] → a.block ≠ k80 from fun a e hn => by have := shs_lt Hs59_78_79.out a e hn; omega)
            have Ht79_80 := Lib.hid (shs_to Ht79.out b80)
            have net5_80 := Lib.hid (show ∀ a, ao79 = some a → t0.ss ≠ [] → a.block ≠ k80 from fun a e hn => by have := shs_lt Ht79.out a e hn; omega)
            clear hv80 b80 hk80
            refine hK _ _ ?_
            clear hK K
            refine wpTill_run (i := 7) (by kernel_rfl) rfl (L80.out.be) (fun K hK => ?_) 
            obtain ⟨v81, st81, l81, q81⟩ := L80.out.stA ty_state 1 rfl 0 (stc s0 ao59 cap59) (cs' := stc s0 ao59 cap59) rfl (L' := [(k78, 34, #[.int .u64 0, .int .u64 0, .int .i32 0, .int .i32 0, .int .i32 0, .int .i32 0, .int .u8 0, .int .u8 0, .int .u8 0, .int .i32 0, .int .i32 0, .int .i32 0, .int .i32 0, .int .u8 0, .int .u8 0, .int .u8 0, .slice none 0 0, .int .u16 0, .int .u16 0]), (k80, 34, stc s0 ao59 cap59)]) rfl (Nat.le_of_ble_eq_true rfl) rfl rfl
            have L81 := Lib.hid l81
            have Hs59_78_79_80_81 := Lib.hid (shs_turn Hs59_78_79_80.out q81 nes5_80.out)
            have Ht79_80_81 := Lib.hid (shs_turn Ht79_80.out q81 net5_80.out)
            go_simp
            clear l81 q81 st81
            refine hK _ _ ?_
            clear hK K
            refine wpTill_run (i := 8) (by kernel_rfl) rfl (L81.out.be) (fun K hK => ?_) 
            obtain ⟨v82, st82, l82, q82⟩ := L81.out.stA ty_state 0 rfl 0 (stc t0 ao79 cap79) (cs' := stc t0 ao79 cap79) rfl (L' := [(k78, 34, stc t0 ao79 cap79), (k80, 34, stc s0 ao59 cap59)]) rfl (Nat.le_of_ble_eq_true rfl) rfl rfl
            have L82 := Lib.hid l82
            have Hs59_78_79_80_81_82 := Lib.hid (shs_turn Hs59_78_79_80_81.out q82 nes6_78.out)
            have Ht79_80_81_82 := Lib.hid (shs_turn Ht79_80_81.out q82 net6_79.out)
            go_simp
            clear l82 q82 st82
            refine hK _ _ ?_
            clear hK K
            refine wpTill_done (by kernel_rfl) ?_
            go_wp2_with fail
            go_meet
            exact ⟨k80, k78, ao59, cap59, ao79, cap79, rfl, rfl, ⟨_, rfl, ⟨L82.out.be, L82.out.get 1 rfl, L82.out.get 0 rfl, Hs59_78_79_80_81_82.out, Ht79_80_81_82.out, L82.out.bge 1 rfl, L82.out.bge 0 rfl, Bs59.out, Bt79.out⟩⟩⟩
          · go_simp
            obtain ⟨v83, hv83⟩ : ∃ v, v = v78.alloc (.cells #[.int .u64 0, .int .u64 0, .int .i32 0, .int .i32 0, .int .i32 0, .int .i32 0, .int .u8 0, .int .u8 0, .int .u8 0, .int .i32 0, .int .i32 0, .int .i32 0, .int .i32 0, .int .u8 0, .int .u8 0, .int .u8 0, .slice none 0 0, .int .u16 0, .int .u16 0] 34) := ⟨_, rfl⟩
            obtain ⟨k83, hk83⟩ : ∃ k, k = v78.heap.size := ⟨_, rfl⟩
            rw [← hv83, ← hk83]
            have L83 := Lib.hid (show Loc wd.heap.size wd v83 [(k78, 34, #[.int .u64 0, .int .u64 0, .int .i32 0, .int .i32 0, .int .i32 0, .int .i32 0, .int .u8 0, .int .u8 0, .int .u8 0, .int .i32 0, .int .i32 0, .int .i32 0, .int .i32 0, .int .u8 0, .int .u8 0, .int .u8 0, .slice none 0 0, .int .u16 0, .int .u16 0]), (k83, 34, #[.int .u64 0, .int .u64 0, .int .i32 0, .int .i32 0, .int .i32 0, .int .i32 0, .int .u8 0, .int .u8 0, .int .u8 0, .int .i32 0, .int .i32 0, .int .i32 0, .int .i32 0, .int .u8 0, .int .u8 0, .int .u8 0, .slice none 0 0, .int .u16 0, .int .u16 0])] from hv83 ▸ hk83 ▸ (L78.out.more 34 #[.int .u64 0, .int .u64 0, .int .i32 0, .int .i32 0, .int .i32 0, .int .i32 0, .int .u8 0, .int .u8 0, .int .u8 0, .int .i32 0, .int .i32 0, .int .i32 0, .int .i32 0, .int .u8 0, .int .u8 0, .int .u8 0, .slice none 0 0, .int .u16 0, .int .u16 0]))
            have b83 : Below v78.heap.size v78 v83 := hv83 ▸ kb_alloc v78 _
            have Hs59_78_83 := Lib.hid (shs_to Hs59_78.out b83)
            have nes5_83 := Lib.hid (show ∀ a, ao59 = some a → s0.ss ≠ [] → a.block ≠ k83 from fun a e hn => by have := shs_lt Hs59_78.out a e hn; omega)
            clear hv83 b83 hk83
            refine hK _ _ ?_
            clear hK K
            refine wpTill_run (i := 4) (by kernel_rfl) rfl (L83.out.be) (fun K hK => ?_) 
            go_simp
            go_at_call 30
            refine (R2.out v83 L83.out.be).mono ?_
            rintro R v84 ⟨ao84, cap84, rfl, hs84, hr84, hb84⟩
            have L84 := Lib.hid (L83.out.to hb84)
            have net6_84 := Lib.hid (show ∀ a, ao84 = some a → t0.ss ≠ [] → a.block ≠ k78 from fun a e hn => by have h1 := hr84 a e hn; have h2 := L83.out.low (e := (k78, 34, #[.int .u64 0, .int .u64 0, .int .i32 0, .int .i32 0, .int .i32 0, .int .i32 0, .int .u8 0, .int .u8 0, .int .u8 0, .int .i32 0, .int .i32 0, .int .i32 0, .int .i32 0, .int .u8 0, .int .u8 0, .int .u8 0, .slice none 0 0, .int .u16 0, .int .u16 0])) (by simp); dsimp only at h2; omega)
            have net5_84 := Lib.hid (show ∀ a, ao84 = some a → t0.ss ≠ [] → a.block ≠ k83 from fun a e hn => by have h1 := hr84 a e hn; have h2 := L83.out.low (e := (k83, 34, #[.int .u64 0, .int .u64 0, .int .i32 0, .int .i32 0, .int .i32 0, .int .i32 0, .int .u8 0, .int .u8 0, .int .u8 0, .int .i32 0, .int .i32 0, .int .i32 0, .int .i32 0, .int .u8 0, .int .u8 0, .int .u8 0, .slice none 0 0, .int .u16 0, .int .u16 0])) (by simp); dsimp only at h2; omega)
            have Hs59_78_83_84 := Lib.hid (shs_to Hs59_78_83.out hb84)
            have Ht84 := Lib.hid hs84
            have Bt84 := Lib.hid (show ∀ a, ao84 = some a → t0.ss ≠ [] → wd.heap.size ≤ a.block from fun a e hn => Nat.le_trans L83.out.be.size (hr84 a e hn))
            clear hs84 hr84 hb84
            refine hK _ _ ?_
            clear hK K
            refine wpTill_run (i := 7) (by kernel_rfl) rfl (L84.out.be) (fun K hK => ?_) 
            obtain ⟨v85, st85, l85, q85⟩ := L84.out.stA ty_state 1 rfl 0 (stc s0 ao59 cap59) (cs' := stc s0 ao59 cap59) rfl (L' := [(k78, 34, #[.int .u64 0, .int .u64 0, .int .i32 0, .int .i32 0, .int .i32 0, .int .i32 0, .int .u8 0, .int .u8 0, .int .u8 0, .int .i32 0, .int .i32 0, .int .i32 0, .int .i32 0, .int .u8 0, .int .u8 0, .int .u8 0, .slice none 0 0, .int .u16 0, .int .u16 0]), (k83, 34, stc s0 ao59 cap59)]) rfl (Nat.le_of_ble_eq_true rfl) rfl rfl
            have L85 := Lib.hid l85
            have Hs59_78_83_84_85 := Lib.hid (shs_turn Hs59_78_83_84.out q85 nes5_83.out)
            have Ht84_85 := Lib.hid (shs_turn Ht84.out q85 net5_84.out)
            go_simp
            clear l85 q85 st85
            refine hK _ _ ?_
            clear hK K
            refine wpTill_run (i := 8) (by kernel_rfl) rfl (L85.out.be) (fun K hK => ?_) 
            obtain ⟨v86, st86, l86, q86⟩ := L85.out.stA ty_state 0 rfl 0 (stc t0 ao84 cap84) (cs' := stc t0 ao84 cap84) rfl (L' := [(k78, 34, stc t0 ao84 cap84), (k83, 34, stc s0 ao59 cap59)]) rfl (Nat.le_of_ble_eq_true rfl) rfl rfl
            have L86 := Lib.hid l86
            have Hs59_78_83_84_85_86 := Lib.hid (shs_turn Hs59_78_83_84_85.out q86 nes6_78.out)
            have Ht84_85_86 := Lib.hid (shs_turn Ht84_85.out q86 net6_84.out)
            go_simp
            clear l86 q86 st86
            refine hK _ _ ?_
            clear hK K
            refine wpTill_done (by kernel_rfl) ?_
            go_wp2_with fail
            go_meet
            exact ⟨k83, k78, ao59, cap59, ao84, cap84, rfl, rfl, ⟨_, rfl, ⟨L86.out.be, L86.out.get 1 rfl, L86.out.get 0 rfl, Hs59_78_83_84_85_86.out, Ht84_85_86.out, L86.out.bge 1 rfl, L86.out.bge 0 rfl, Bs59.out, Bt84.out⟩⟩⟩
      · go_simp
        obtain ⟨v87, hv87⟩ : ∃ v, v = wd.alloc (.cells #[.int .u64 0, .int .u64 0, .int .i32 0, .int .i32 0, .int .i32 0, .int .i32 0, .int .u8 0, .int .u8 0, .int .u8 0, .int .i32 0, .int .i32 0, .int .i32 0, .int .i32 0, .int .u8 0, .int .u8 0, .int .u8 0, .slice none 0 0, .int .u16 0, .int .u16 0] 34) := ⟨_, rfl⟩
        obtain ⟨k87, hk87⟩ : ∃ k, k = wd.heap.size := ⟨_, rfl⟩
        rw [← hv87, ← hk87]
        have L87 := Lib.hid (show Loc wd.heap.size wd v87 [(k87, 34, #[.int .u64 0, .int .u64 0, .int .i32 0, .int .i32 0, .int .i32 0, .int .i32 0, .int .u8 0, .int .u8 0, .int .u8 0, .int .i32 0, .int .i32 0, .int .i32 0, .int .i32 0, .int .u8 0, .int .u8 0, .int .u8 0, .slice none 0 0, .int .u16 0, .int .u16 0])] from hv87 ▸ hk87 ▸ (LL.out.more 34 #[.int .u64 0, .int .u64 0, .int .i32 0, .int .i32 0, .int .i32 0, .int .i32 0, .int .u8 0, .int .u8 0, .int .u8 0, .int .i32 0, .int .i32 0, .int .i32 0, .int .i32 0, .int .u8 0, .int .u8 0, .int .u8 0, .slice none 0 0, .int .u16 0, .int .u16 0]))
        have b87 : Below wd.heap.size wd v87 := hv87 ▸ kb_alloc wd _
        clear hv87 b87 hk87
        refine hK _ _ ?_
        clear hK K
        refine wpTill_pair (i := 1) (j := 6) (by kernel_rfl) rfl rfl (L87.out.be) (fun K hK => ?_) (fun K hK => ?_) 
        · go_simp
          go_at_call 30
          refine (R1.out v87 L87.out.be).mono ?_
          rintro R v88 ⟨ao88, cap88, rfl, hs88, hr88, hb88⟩
          have L88 := Lib.hid (L87.out.to hb88)
          have nes5_88 := Lib.hid (show ∀ a, ao88 = some a → s0.ss ≠ [] → a.block ≠ k87 from fun a e hn => by have h1 := hr88 a e hn; have h2 := L87.out.low (e := (k87, 34, #[.int .u64 0, .int .u64 0, .int .i32 0, .int .i32 0, .int .i32 0, .int .i32 0, .int .u8 0, .int .u8 0, .int .u8 0, .int .i32 0, .int .i32 0, .int .i32 0, .int .i32 0, .int .u8 0, .int .u8 0, .int .u8 0, .slice none 0 0, .int .u16 0, .int .u16 0])) (by simp); dsimp only at h2; omega)
          have Hs88 := Lib.hid hs88
          have Bs88 := Lib.hid (show ∀ a, ao88 = some a → s0.ss ≠ [] → wd.heap.size ≤ a.block from fun a e hn => Nat.le_trans L87.out.be.size (hr88 a e hn))
          clear hs88 hr88 hb88
          refine hK _ _ ?_
          clear hK K
          refine wpTill_pair (i := 4) (j := 6) (by kernel_rfl) rfl rfl (L88.out.be) (fun K hK => ?_) (fun K hK => ?_) 
          · go_simp
            go_at_call 30
            refine (R2.out v88 L88.out.be).mono ?_
            rintro R v89 ⟨ao89, cap89, rfl, hs89, hr89, hb89⟩
            have L89 := Lib.hid (L88.out.to hb89)
            have net5_89 := Lib.hid (show ∀ a, ao89 = some a → t0.ss ≠ [] → a.block ≠ k87 from fun a e hn => by have h1 := hr89 a e hn; have h2 := L88.out.low (e := (k87, 34, #[.int .u64 0, .int .u64 0, .int .i32 0, .int .i32 0, .int .i32 0, .int .i32 0, .int .u8 0, .int .u8 0, .int .u8 0, .int .i32 0, .int .i32 0, .int .i32 0, .int .i32 0, .int .u8 0, .int .u8 0, .int .u8 0, .slice none 0 0, .int .u16 0, .int .u16 0])) (by simp); dsimp only at h2; omega)
            have Hs88_89 := Lib.hid (shs_to Hs88.out hb89)
            have Ht89 := Lib.hid hs89
            have Bt89 := Lib.hid (show ∀ a, ao89 = some a → t0.ss ≠ [] → wd.heap.size ≤ a.block from fun a e hn => Nat.le_trans L88.out.be.size (hr89 a e hn))
            clear hs89 hr89 hb89
            refine hK _ _ ?_
            clear hK K
            refine wpTill_run (i := 6) (by kernel_rfl) rfl (L89.out.be) (fun K hK => ?_) 
            go_simp
            obtain ⟨v90, hv90⟩ : ∃ v, v = v89.alloc (.cells #[.int .u64 0, .int .u64 0, .int .i32 0, .int .i32 0, .int .i32 0, .int .i32 0, .int .u8 0, .int .u8 0, .int .u8 0, .int .i32 0, .int .i32 0, .int .i32 0, .int .i32 0, .int .u8 0, .int .u8 0, .int .u8 0, .slice none 0 0, .int .u16 0, .int .u16 0] 34) := ⟨_, rfl⟩
            obtain ⟨k90, hk90⟩ : ∃ k, k = v89.heap.size := ⟨_, rfl⟩
            rw [← hv90, ← hk90]
            have L90 := Lib.hid (show Loc wd.heap.size wd v90 [(k87, 34, #[.int .u64 0, .int .u64 0, .int .i32 0, .int .i32 0, .int .i32 0, .int .i32 0, .int .u8 0, .int .u8 0, .int .u8 0, .int .i32 0, .int .i32 0, .int .i32 0, .int .i32 0, .int .u8 0, .int .u8 0, .int .u8 0, .slice none 0 0, .int .u16 0, .int .u16 0]), (k90, 34, #[.int .u64 0, .int .u64 0, .int .i32 0, .int .i32 0, .int .i32 0, .int .i32 0, .int .u8 0, .int .u8 0, .int .u8 0, .int .i32 0, .int .i32 0, .int .i32 0, .int .i32 0, .int .u8 0, .int .u8 0, .int .u8 0, .slice none 0 0, .int .u16 0, .int .u16 0])] from hv90 ▸ hk90 ▸ (L89.out.more 34 #[.int .u64 0, .int .u64 0, .int .i32 0, .int .i32 0, .int .i32 0, .int .i32 0, .int .u8 0, .int .u8 0, .int .u8 0, .int .i32 0, .int .i32 0, .int .i32 0, .int .i32 0, .int .u8 0, .int .u8 0, .int .u8 0, .slice none 0 0, .int .u16 0, .int .u16 0]))
            have b90 : Below v89.heap.size v89 v90 := hv90 ▸ kb_alloc v89 _
            have Hs88_89_90 := Lib.hid (shs_to Hs88_89.out b90)
            have nes6_90 := Lib.hid (show ∀ a, ao88 = some a → s0.ss ≠ [] → a.block ≠ k90 from fun a e hn => by have := shs_lt Hs88_89.out a e hn; omega)
            have Ht89_90 := Lib.hid (shs_to Ht89.out b90)
            have net6_90 := Lib.hid (show ∀ a, ao89 = some a → t0.ss ≠ [] → a.block ≠ k90 from fun a e hn => by have := shs_lt Ht89.out a e hn; omega)
            clear hv90 b90 hk90
            refine hK _ _ ?_
            clear hK K
            refine wpTill_run (i := 7) (by kernel_rfl) rfl (L90.out.be) (fun K hK => ?_) 
            obtain ⟨v91, st91, l91, q91⟩ := L90.out.stA ty_state 0 rfl 0 (stc s0 ao88 cap88) (cs' := stc s0 ao88 cap88) rfl (L' := [(k87, 34, stc s0 ao88 cap88), (k90, 34, #[.int .u64 0, .int .u64 0, .int .i32 0, .int .i32 0, .int .i32 0, .int .i32 0, .int .u8 0, .int .u8 0, .int .u8 0, .int .i32 0, .int .i32 0, .int .i32 0, .int .i32 0, .int .u8 0, .int .u8 0, .int .u8 0, .slice none 0 0, .int .u16 0, .int .u16 0])]) rfl (Nat.le_of_ble_eq_true rfl) rfl rfl
            have L91 := Lib.hid l91
            have Hs88_89_90_91 := Lib.hid (shs_turn Hs88_89_90.out q91 nes5_88.out)
            have Ht89_90_91 := Lib.hid (shs_turn Ht89_90.out q91 net5_89.out)
            go_simp
            clear l91 q91 st91
            refine hK _ _ ?_
            clear hK K
            refine wpTill_run (i := 8) (by kernel_rfl) rfl (L91.out.be) (fun K hK => ?_) 
            obtain ⟨v92, st92, l92, q92⟩ := L91.out.stA ty_state 1 rfl 0 (stc t0 ao89 cap89) (cs' := stc t0 ao89 cap89) rfl (L' := [(k87, 34, stc s0 ao88 cap88), (k90, 34, stc t0 ao89 cap89)]) rfl (Nat.le_of_ble_eq_true rfl) rfl rfl
            have L92 := Lib.hid l92
            have Hs88_89_90_91_92 := Lib.hid (shs_turn Hs88_89_90_91.out q92 nes6_90.out)
            have Ht89_90_91_92 := Lib.hid (shs_turn Ht89_90_91.out q92 net6_90.out)
            go_simp
            clear l92 q92 st92
            refine hK _ _ ?_
            clear hK K
            refine wpTill_done (by kernel_rfl) ?_
            go_wp2_with fail
            go_meet
            exact ⟨k87, k90, ao88, cap88, ao89, cap89, rfl, rfl, ⟨_, rfl, ⟨L92.out.be, L92.out.get 0 rfl, L92.out.get 1 rfl, Hs88_89_90_91_92.out, Ht89_90_91_92.out, L92.out.bge 0 rfl, L92.out.bge 1 rfl, Bs88.out, Bt89.out⟩⟩⟩
          · go_simp
            obtain ⟨v93, hv93⟩ : ∃ v, v = v88.alloc (.cells #[.int .u64 0, .int .u64 0, .int .i32 0, .int .i32 0, .int .i32 0, .int .i32 0, .int .u8 0, .int .u8 0, .int .u8 0, .int .i32 0, .int .i32 0, .int .i32 0, .int .i32 0, .int .u8 0, .int .u8 0, .int .u8 0, .slice none 0 0, .int .u16 0, .int .u16 0] 34) := ⟨_, rfl⟩
            obtain ⟨k93, hk93⟩ : ∃ k, k = v88.heap.size := ⟨_, rfl⟩
            rw [← hv93, ← hk93]
            have L93 := Lib.hid (show Loc wd.heap.size wd v93 [(k87, 34, #[.int .u64 0, .int .u64 0, .int .i32 0, .int .i32 0, .int .i32 0, .int .i32 0, .int .u8 0, .int .u8 0, .int .u8 0, .int .i32 0, .int .i32 0, .int .i32 0, .int .i32 0, .int .u8 0, .int .u8 0, .int .u8 0, .slice none 0 0, .int .u16 0, .int .u16 0]), (k93, 34, #[.int .u64 0, .int .u64 0, .int .i32 0, .int .i32 0, .int .i32 0, .int .i32 0, .int .u8 0, .int .u8 0, .int .u8 0, .int .i32 0, .int .i32 0, .int .i32 0, .int .i32 0, .int .u8 0, .int .u8 0, .int .u8 0, .slice none 0 0, .int .u16 0, .int .u16 0])] from hv93 ▸ hk93 ▸ (L88.out.more 34 #[.int .u64 0, .int .u64 0, .int .i32 0, .int .i32 0, .int .i32 0, .int .i32 0, .int .u8 0, .int .u8 0, .int .u8 0, .int .i32 0, .int .i32 0, .int .i32 0, .int .i32 0, .int .u8 0, .int .u8 0, .int .u8 0, .slice none 0 0, .int .u16 0, .int .u16 0]))
            have b93 : Below v88.heap.size v88 v93 := hv93 ▸ kb_alloc v88 _
            have Hs88_93 := Lib.hid (shs_to Hs88.out b93)
            have nes6_93 := Lib.hid (show ∀ a, ao88 = some a → s0.ss ≠ [] → a.block ≠ k93 from fun a e hn => by have := shs_lt Hs88.out a e hn; omega)
            clear hv93 b93 hk93
            refine hK _ _ ?_
            clear hK K
            refine wpTill_run (i := 4) (by kernel_rfl) rfl (L93.out.be) (fun K hK => ?_) 
            go_simp
            go_at_call 30
            refine (R2.out v93 L93.out.be).mono ?_
            rintro R v94 ⟨ao94, cap94, rfl, hs94, hr94, hb94⟩
            have L94 := Lib.hid (L93.out.to hb94)
            have net5_94 := Lib.hid (show ∀ a, ao94 = some a → t0.ss ≠ [] → a.block ≠ k87 from fun a e hn => by have h1 := hr94 a e hn; have h2 := L93.out.low (e := (k87, 34, #[.int .u64 0, .int .u64 0, .int .i32 0, .int .i32 0, .int .i32 0, .int .i32 0, .int .u8 0, .int .u8 0, .int .u8 0, .int .i32 0, .int .i32 0, .int .i32 0, .int .i32 0, .int .u8 0, .int .u8 0, .int .u8 0, .slice none 0 0, .int .u16 0, .int .u16 0])) (by simp); dsimp only at h2; omega)
            have net6_94 := Lib.hid (show ∀ a, ao94 = some a → t0.ss ≠ [] → a.block ≠ k93 from fun a e hn => by have h1 := hr94 a e hn; have h2 := L93.out.low (e := (k93, 34, #[.int .u64 0, .int .u64 0, .int .i32 0, .int .i32 0, .int .i32 0, .int .i32 0, .int .u8 0, .int .u8 0, .int .u8 0, .int .i32 0, .int .i32 0, .int .i32 0, .int .i32 0, .int .u8 0, .int .u8 0, .int .u8 0, .slice none 0 0, .int .u16 0, .int .u16 0])) (by simp); dsimp only at h2; omega)
            have Hs88_93_94 := Lib.hid (shs_to Hs88_93.out hb94)
            have Ht94 := Lib.hid hs94
            have Bt94 := Lib.hid (show ∀ a, ao94 = some a → t0.ss ≠ [] → wd.heap.size ≤ a.block from fun a e hn => Nat.le_trans L93.out.be.size (hr94 a e hn))
            clear hs94 hr94 hb94
            refine hK _ _ ?_
            clear hK K
            refine wpTill_run (i := 7) (by kernel_rfl) rfl (L94.out.be) (fun K hK => ?_) 
            obtain ⟨v95, st95, l95, q95⟩ := L94.out.stA ty_state 0 rfl 0 (stc s0 ao88 cap88) (cs' := stc s0 ao88 cap88) rfl (L' := [(k87, 34, stc s0 ao88 cap88), (k93, 34, #[.int .u64 0, .int .u64 0, .int .i32 0, .int .i32 0, .int .i32 0, .int .i32 0, .int .u8 0, .int .u8 0, .int .u8 0, .int .i32 0, .int .i32 0, .int .i32 0, .int .i32 0, .int .u8 0, .int .u8 0, .int .u8 0, .slice none 0 0, .int .u16 0, .int .u16 0])]) rfl (Nat.le_of_ble_eq_true rfl) rfl rfl
            have L95 := Lib.hid l95
            have Hs88_93_94_95 := Lib.hid (shs_turn Hs88_93_94.out q95 nes5_88.out)
            have Ht94_95 := Lib.hid (shs_turn Ht94.out q95 net5_94.out)
            go_simp
            clear l95 q95 st95
            refine hK _ _ ?_
            clear hK K
            refine wpTill_run (i := 8) (by kernel_rfl) rfl (L95.out.be) (fun K hK => ?_) 
            obtain ⟨v96, st96, l96, q96⟩ := L95.out.stA ty_state 1 rfl 0 (stc t0 ao94 cap94) (cs' := stc t0 ao94 cap94) rfl (L' := [(k87, 34, stc s0 ao88 cap88), (k93, 34, stc t0 ao94 cap94)]) rfl (Nat.le_of_ble_eq_true rfl) rfl rfl
            have L96 := Lib.hid l96
            have Hs88_93_94_95_96 := Lib.hid (shs_turn Hs88_93_94_95.out q96 nes6_93.out)
            have Ht94_95_96 := Lib.hid (shs_turn Ht94_95.out q96 net6_94.out)
            go_simp
            clear l96 q96 st96
            refine hK _ _ ?_
            clear hK K
            refine wpTill_done (by kernel_rfl) ?_
            go_wp2_with fail
            go_meet
            exact ⟨k87, k93, ao88, cap88, ao94, cap94, rfl, rfl, ⟨_, rfl, ⟨L96.out.be, L96.out.get 0 rfl, L96.out.get 1 rfl, Hs88_93_94_95_96.out, Ht94_95_96.out, L96.out.bge 0 rfl, L96.out.bge 1 rfl, Bs88.out, Bt94.out⟩⟩⟩
        · go_simp
          obtain ⟨v97, hv97⟩ : ∃ v, v = v87.alloc (.cells #[.int .u64 0, .int .u64 0, .int .i32 0, .int .i32 0, .int .i32 0, .int .i32 0, .int .u8 0, .int .u8 0, .int .u8 0, .int .i32 0, .int .i32 0, .int .i32 0, .int .i32 0, .int .u8 0, .int .u8 0, .int .u8 0, .slice none 0 0, .int .u16 0, .int .u16 0] 34) := ⟨_, rfl⟩
          obtain ⟨k97, hk97⟩ : ∃ k, k = v87.heap.size := ⟨_, rfl⟩
          rw [← hv97, ← hk97]
          have L97 := Lib.hid (show Loc wd.heap.size wd v97 [(k87, 34, #[.int .u64 0, .int .u64 0, .int .i32 0, .int .i32 0, .int .i32 0, .int .i32 0, .int .u8 0, .int .u8 0, .int .u8 0, .int .i32 0, .int .i32 0, .int .i32 0, .int .i32 0, .int .u8 0, .int .u8 0, .int .u8 0, .slice none 0 0, .int .u16 0, .int .u16 0]), (k97, 34, #[.int .u64 0, .int .u64 0, .int .i32 0, .int .i32 0, .int .i32 0, .int .i32 0, .int .u8 0, .int .u8 0, .int .u8 0, .int .i32 0, .int .i32 0, .int .i32 0, .int .i32 0, .int .u8 0, .int .u8 0, .int .u8 0, .slice none 0 0, .int .u16 0, .int .u16 0])] from hv97 ▸ hk97 ▸ (L87.out.more 34 #[.int .u64 0, .int .u64 0, .int .i32 0, .int .i32 0, .int .i32 0, .int .i32 0, .int .u8 0, .int .u8 0, .int .u8 0, .int .i32 0, .int .i32 0, .int .i32 0, .int .i32 0, .int .u8 0, .int .u8 0, .int .u8 0, .slice none 0 0, .int .u16 0, .int .u16 0]))
          have b97 : Below v87.heap.size v87 v97 := hv97 ▸ kb_alloc v87 _
          clear hv97 b97 hk97
          refine hK _ _ ?_
          clear hK K
          refine wpTill_run (i := 1) (by kernel_rfl) rfl (L97.out.be) (fun K hK => ?_) 
          go_simp
          go_at_call 30
          refine (R1.out v97 L97.out.be).mono ?_
          rintro R v98 ⟨ao98, cap98, rfl, hs98, hr98, hb98⟩
          have L98 := Lib.hid (L97.out.to hb98)
          have nes5_98 := Lib.hid (show ∀ a, ao98 = some a → s0.ss ≠ [] → a.block ≠ k87 from fun a e hn => by have h1 := hr98 a e hn; have h2 := L97.out.low (e := (k87, 34, #[.int .u64 0, .int .u64 0, .int .i32 0, .int .i32 0, .int .i32 0, .int .i32 0, .int .u8 0, .int .u8 0, .int .u8 0, .int .i32 0, .int .i32 0, .int .i32 0, .int .i32 0, .int .u8 0, .int .u8 0, .int .u8 0, .slice none 0 0, .int .u16 0, .int .u16 0])) (by simp); dsimp only at h2; omega)
          have nes6_98 := Lib.hid (show ∀ a, ao98 = some a → s0.ss ≠ [] → a.block ≠ k97 from fun a e hn => by have h1 := hr98 a e hn; have h2 := L97.out.low (e := (k97, 34, #[.int .u64 0, .int .u64 0, .int .i32 0, .int .i32 0, .int .i32 0, .int .i32 0, .int .u8 0, .int .u8 0, .int .u8 0, .int .i32 0, .int .i32 0, .int .i32 0, .int .i32 0, .int .u8 0, .int .u8 0, .int .u8 0, .slice none 0 0, .int .u16 0, .int .u16 0])) (by simp); dsimp only at h2; omega)
          have Hs98 := Lib.hid hs98
          have Bs98 := Lib.hid (show ∀ a, ao98 = some a → s0.ss ≠ [] → wd.heap.size ≤ a.block from fun a e hn => Nat.le_trans L97.out.be.size (hr98 a e hn))
          clear hs98 hr98 hb98
          refine hK _ _ ?_
          clear hK K
          refine wpTill_run (i := 4) (by kernel_rfl) rfl (L98.out.be) (fun K hK => ?_) 
          go_simp
          go_at_call 30
          refine (R2.out v98 L98.out.be).mono ?_
          rintro R v99 ⟨ao99, cap99, rfl, hs99, hr99, hb99⟩
          have L99 := Lib.hid (L98.out.to hb99)
          have net5_99 := Lib.hid (show ∀ a, ao99 = some a → t0.ss ≠ [] → a.block ≠ k87 from fun a e hn => by have h1 := hr99 a e hn; have h2 := L98.out.low (e := (k87, 34, #[.int .u64 0, .int .u64 0, .int .i32 0, .int .i32 0, .int .i32 0, .int .i32 0, .int .u8 0, .int .u8 0, .int .u8 0, .int .i32 0, .int .i32 0, .int .i32 0, .int .i32 0, .int .u8 0, .int .u8 0, .int .u8 0, .slice none 0 0, .int .u16 0, .int .u16 0])) (by simp); dsimp only at h2; omega)
          have net6_99 := Lib.hid (show ∀ a, ao99 = some a → t0.ss ≠ [] → a.block ≠ k97 from fun a e hn => by have h1 := hr99 a e hn; have h2 := L98.out.low (e := (k97, 34, #[.int .u64 0, .int .u64 0, .int .i32 0, .int .i32 0, .int .i32 0, .int .i32 0, .int .u8 0, .int .u8 0, .int .u8 0, .int .i32 0, .int .i32 0, .int .i32 0, .int .i32 0, .int .u8 0, .int .u8 0, .int .u8 0, .slice none 0 0, .int .u16 0, .int .u16 0])) (by simp); dsimp only at h2; omega)
          have Hs98_99 := Lib.hid (shs_to Hs98.out hb99)
          have Ht99 := Lib.hid hs99
          have Bt99 := Lib.hid (show ∀ a, ao99 = some a → t0.ss ≠ [] → wd.heap.size ≤ a.block from fun a e hn => Nat.le_trans L98.out.be.size (hr99 a e hn))
          clear hs99 hr99 hb99
          refine hK _ _ ?_
          clear hK K
          refine wpTill_run (i := 7) (by kernel_rfl) rfl (L99.out.be) (fun K hK => ?_) 
          obtain ⟨v100, st100, l100, q100⟩ := L99.out.stA ty_state 0 rfl 0 (stc s0 ao98 cap98) (cs' := stc s0 ao98 cap98) rfl (L' := [(k87, 34, stc s0 ao98 cap98), (k97, 34, #[.int .u64 0, .int .u64 0, .int .i32 0, .int .i32 0, .int .i32 0, .int .i32 0, .int .u8 0, .int .u8 0, .int .u8 0, .int .i32 0, .int .i32 0, .int .i32 0, .int .i32 0, .int .u8 0, .int .u8 0, .int .u8 0, .slice none 0 0, .int .u16 0, .int .u16 0])]) rfl (Nat.le_of_ble_eq_true rfl) rfl rfl
          have L100 := Lib.hid l100
          have Hs98_99_100 := Lib.hid (shs_turn Hs98_99.out q100 nes5_98.out)
          have Ht99_100 := Lib.hid (shs_turn Ht99.out q100 net5_99.out)
          go_simp
          clear l100 q100 st100
          refine hK _ _ ?_
          clear hK K
          refine wpTill_run (i := 8) (by kernel_rfl) rfl (L100.out.be) (fun K hK => ?_) 
          obtain ⟨v101, st101, l101, q101⟩ := L100.out.stA ty_state 1 rfl 0 (stc t0 ao99 cap99) (cs' := stc t0 ao99 cap99) rfl (L' := [(k87, 34, stc s0 ao98 cap98), (k97, 34, stc t0 ao99 cap99)]) rfl (Nat.le_of_ble_eq_true rfl) rfl rfl
          have L101 := Lib.hid l101
          have Hs98_99_100_101 := Lib.hid (shs_turn Hs98_99_100.out q101 nes6_98.out)
          have Ht99_100_101 := Lib.hid (shs_turn Ht99_100.out q101 net6_99.out)
          go_simp
          clear l101 q101 st101
          refine hK _ _ ?_
          clear hK K
          refine wpTill_done (by kernel_rfl) ?_
          go_wp2_with fail
          go_meet
          exact ⟨k87, k97, ao98, cap98, ao99, cap99, rfl, rfl, ⟨_, rfl, ⟨L101.out.be, L101.out.get 0 rfl, L101.out.get 1 rfl, Hs98_99_100_101.out, Ht99_100_101.out, L101.out.bge 0 rfl, L101.out.bge 1 rfl, Bs98.out, Bt99.out⟩⟩⟩
      · go_simp
        obtain ⟨v102, hv102⟩ : ∃ v, v = wd.alloc (.cells #[.int .u64 0, .int .u64 0, .int .i32 0, .int .i32 0, .int .i32 0, .int .i32 0, .int .u8 0, .int .u8 0, .int .u8 0, .int .i32 0, .int .i32 0, .int .i32 0, .int .i32 0, .int .u8 0, .int .u8 0, .int .u8 0, .slice none 0 0, .int .u16 0, .int .u16 0] 34) := ⟨_, rfl⟩
        obtain ⟨k102, hk102⟩ : ∃ k, k = wd.heap.size := ⟨_, rfl⟩
        rw [← hv102, ← hk102]
        have L102 := Lib.hid (show Loc wd.heap.size wd v102 [(k102, 34, #[.int .u64 0, .int .u64 0, .int .i32 0, .int .i32 0, .int .i32 0, .int .i32 0, .int .u8 0, .int .u8 0, .int .u8 0, .int .i32 0, .int .i32 0, .int .i32 0, .int .i32 0, .int .u8 0, .int .u8 0, .int .u8 0, .slice none 0 0, .int .u16 0, .int .u16 0])] from hv102 ▸ hk102 ▸ (LL.out.more 34 #[.int .u64 0, .int .u64 0, .int .i32 0, .int .i32 0, .int .i32 0, .int .i32 0, .int .u8 0, .int .u8 0, .int .u8 0, .int .i32 0, .int .i32 0, .int .i32 0, .int .i32 0, .int .u8 0, .int .u8 0, .int .u8 0, .slice none 0 0, .int .u16 0, .int .u16 0]))
        have b102 : Below wd.heap.size wd v102 := hv102 ▸ kb_alloc wd _
        clear hv102 b102 hk102
        refine hK _ _ ?_
        clear hK K
        refine wpTill_pair (i := 1) (j := 5) (by kernel_rfl) rfl rfl (L102.out.be) (fun K hK => ?_) (fun K hK => ?_) 
        · go_simp
          go_at_call 30
          refine (R1.out v102 L102.out.be).mono ?_
          rintro R v103 ⟨ao103, cap103, rfl, hs103, hr103, hb103⟩
          have L103 := Lib.hid (L102.out.to hb103)
          have nes6_103 := Lib.hid (show ∀ a, ao103 = some a → s0.ss ≠ [] → a.block ≠ k102 from fun a e hn => by have h1 := hr103 a e hn; have h2 := L102.out.low (e := (k102, 34, #[.int .u64 0, .int .u64 0, .int .i32 0, .int .i32 0, .int .i32 0, .int .i32 0, .int .u8 0, .int .u8 0, .int .u8 0, .int .i32 0, .int .i32 0, .int .i32 0, .int .i32 0, .int .u8 0, .int .u8 0, .int .u8 0, .slice none 0 0, .int .u16 0, .int .u16 0])) (by simp); dsimp only at h2; omega)
          have Hs103 := Lib.hid hs103
          have Bs103 := Lib.hid (show ∀ a, ao103 = some a → s0.ss ≠ [] → wd.heap.size ≤ a.block from fun a e hn => Nat.le_trans L102.out.be.size (hr103 a e hn))
          clear hs103 hr103 hb103
          refine hK _ _ ?_
          clear hK K
          refine wpTill_pair (i := 4) (j := 5) (by kernel_rfl) rfl rfl (L103.out.be) (fun K hK => ?_) (fun K hK => ?_) 
          · go_simp
            go_at_call 30
            refine (R2.out v103 L103.out.be).mono ?_
            rintro R v104 ⟨ao104, cap104, rfl, hs104, hr104, hb104⟩
            have L104 := Lib.hid (L103.out.to hb104)
            have net6_104 := Lib.hid (show ∀ a, ao104 = some a → t0.ss ≠ [] → a.block ≠ k102 from fun a e hn => by have h1 := hr104 a e hn; have h2 := L103.out.low (e := (k102, 34, #[.int .u64 0, .int .u64 0, .int .i32 0, .int .i32 0, .int .i32 0, .int .i32 0, .int .u8 0, .int .u8 0, .int .u8 0, .int .i32 0, .int .i32 0, .int .i32 0, .int .i32 0, .int .u8 0, .int .u8 0, .int .u8 0, .slice none 0 0, .int .u16 0, .int .u16 0])) (by simp); dsimp only at h2; omega)
            have Hs103_104 := Lib.hid (shs_to Hs103.out hb104)
            have Ht104 := Lib.hid hs104
            have Bt104 := Lib.hid (show ∀ a, ao104 = some a → t0.ss ≠ [] → wd.heap.size ≤ a.block from fun a e hn => Nat.le_trans L103.out.be.size (hr104 a e hn))
            clear hs104 hr104 hb104
            refine hK _ _ ?_
            clear hK K
            refine wpTill_run (i := 5) (by kernel_rfl) rfl (L104.out.be) (fun K hK => ?_) 
            go_simp
            obtain ⟨v105, hv105⟩ : ∃ v, v = v104.alloc (.cells #[.int .u64 0, .int .u64 0, .int .i32 0, .int .i32 0, .int .i32 0, .int .i32 0, .int .u8 0, .int .u8 0, .int .u8 0, .int .i32 0, .int .i32 0, .int .i32 0, .int .i32 0, .int .u8 0, .int .u8 0, .int .u8 0, .slice none 0 0, .int .u16 0, .int .u16 0] 34) := ⟨_, rfl⟩
            obtain ⟨k105, hk105⟩ : ∃ k, k = v104.heap.size := ⟨_, rfl⟩
            rw [← hv105, ← hk105]
            have L105 := Lib.hid (show Loc wd.heap.size wd v105 [(k102, 34, #[.int .u64 0, .int .u64 0, .int .i32 0, .int .i32 0, .int .i32 0, .int .i32 0, .int .u8 0, .int .u8 0, .int .u8 0, .int .i32 0, .int .i32 0, .int .i32 0, .int .i32 0, .int .u8 0, .int .u8 0, .int .u8 0, .slice none 0 0, .int .u16 0, .int .u16 0]), (k105, 34, #[.int .u64 0, .int .u64 0, .int .i32 0, .int .i32 0, .int .i32 0, .int .i32 0, .int .u8 0, .int .u8 0, .int .u8 0, .int .i32 0, .int .i32 0, .int .i32 0, .int .i32 0, .int .u8 0, .int .u8 0, .int .u8 0, .slice none 0 0, .int .u16 0, .int .u16 0])] from hv105 ▸ hk105 ▸ (L104.out.more 34 #[.int .u64 0, .int .u64 0, .int .i32 0, .int .i32 0, .int .i32 0, .int .i32 0, .int .u8 0, .int .u8 0, .int .u8 0, .int .i32 0, .int .i32 0, .int .i32 0, .int .i32 0, .int .u8 0, .int .u8 0, .int .u8 0, .slice none 0 0, .int .u16 0, .int .u16 0]))
            have b105 : Below v104.heap.size v104 v105 := hv105 ▸ kb_alloc v104 _
            have Hs103_104_105 := Lib.hid (shs_to Hs103_104.out b105)
            have nes5_105 := Lib.hid (show ∀ a, ao103 = some a → s0.ss ≠ [] → a.block ≠ k105 from fun a e hn => by have := shs_lt Hs103_104.out a e hn; omega)
            have Ht104_105 := Lib.hid (shs_to Ht104.out b105)
            have net5_105 := Lib.hid (show ∀ a, ao104 = some a → t0.ss ≠ [] → a.block ≠ k105 from fun a e hn => by have := shs_lt Ht104.out a e hn; omega)
            clear hv105 b105 hk105
            refine hK _ _ ?_
            clear hK K
            refine wpTill_run (i := 7) (by kernel_rfl) rfl (L105.out.be) (fun K hK => ?_) 
            obtain ⟨v106, st106, l106, q106⟩ := L105.out.stA ty_state 1 rfl 0 (stc s0 ao103 cap103) (cs' := stc s0 ao103 cap103) rfl (L' := [(k102, 34, #[.int .u64 0, .int .u64 0, .int .i32 0, .int .i32 0, .int .i32 0, .int .i32 0, .int .u8 0, .int .u8 0, .int .u8 0, .int .i32 0, .int .i32 0, .int .i32 0, .int .i32 0, .int .u8 0, .int .u8 0, .int .u8 0, .slice none 0 0, .int .u16 0, .int .u16 0]), (k105, 34, stc s0 ao103 cap103)]) rfl (Nat.le_of_ble_eq_true rfl) rfl rfl
            have L106 := Lib.hid l106
            have Hs103_104_105_106 := Lib.hid (shs_turn Hs103_104_105.out q106 nes5_105.out)
            have Ht104_105_106 := Lib.hid (shs_turn Ht104_105.out q106 net5_105.out)
            go_simp
            clear l106 q106 st106
            refine hK _ _ ?_
            clear hK K
            refine wpTill_run (i := 8) (by kernel_rfl) rfl (L106.out.be) (fun K hK => ?_) 
            obtain ⟨v107, st107, l107, q107⟩ := L106.out.stA ty_state 0 rfl 0 (stc t0 ao104 cap104) (cs' := stc t0 ao104 cap104) rfl (L' := [(k102, 34, stc t0 ao104 cap104), (k105, 34, stc s0 ao103 cap103)]) rfl (Nat.le_of_ble_eq_true rfl) rfl rfl
            have L107 := Lib.hid l107
            have Hs103_104_105_106_107 := Lib.hid (shs_turn Hs103_104_105_106.out q107 nes6_103.out)
            have Ht104_105_106_107 := Lib.hid (shs_turn Ht104_105_106.out q107 net6_104.out)
            go_simp
            clear l107 q107 st107
            refine hK _ _ ?_
            clear hK K
            refine wpTill_done (by kernel_rfl) ?_
            go_wp2_with fail
            go_meet
            exact ⟨k105, k102, ao103, cap103, ao104, cap104, rfl, rfl, ⟨_, rfl, ⟨L107.out.be, L107.out.get 1 rfl, L107.out.get 0 rfl, Hs103_104_105_106_107.out, Ht104_105_106_107.out, L107.out.bge 1 rfl, L107.out.bge 0 rfl, Bs103.out, Bt104.out⟩⟩⟩
          · go_simp
            obtain ⟨v108, hv108⟩ : ∃ v, v = v103.alloc (.cells #[.int .u64 0, .int .u64 0, .int .i32 0, .int .i32 0, .int .i32 0, .int .i32 0, .int .u8 0, .int .u8 0, .int .u8 0, .int .i32 0, .int .i32 0, .int .i32 0, .int .i32 0, .int .u8 0, .int .u8 0, .int .u8 0, .slice none 0 0, .int .u16 0, .int .u16 0] 34) := ⟨_, rfl⟩
            obtain ⟨k108, hk108⟩ : ∃ k, k = v103.heap.size := ⟨_, rfl⟩
            rw [← hv108, ← hk108]
            have L108 := Lib.hid (show Loc wd.heap.size wd v108 [(k102, 34, #[.int .u64 0, .int .u64 0, .int .i32 0, .int .i32 0, .int .i32 0, .int .i32 0, .int .u8 0, .int .u8 0, .int .u8 0, .int .i32 0, .int .i32 0, .int .i32 0, .int .i32 0, .int .u8 0, .int .u8 0, .int .u8 0, .slice none 0 0, .int .u16 0, .int .u16 0]), (k108, 34, #[.int .u64 0, .int .u64 0, .int .i32 0, .int .i32 0, .int .i32 0, .int .i32 0, .int .u8 0, .int .u8 0, .int .u8 0, .int .i32 0, .int .i32 0, .int .i32 0, .int .i32 0, .int .u8 0, .int .u8 0, .int .u8 0, .slice none 0 0, .int .u16 0, .int .u16 0])] from hv108 ▸ hk108 ▸ (L103.out.more 34 #[.int .u64 0, .int .u64 0, .int .i32 0, .int .i32 0, .int .i32 0, .int .i32 0, .int .u8 0, .int .u8 0, .int .u8 0, .int .i32 0, .int .i32 0, .int .i32 0, .int .i32 0, .int .u8 0, .int .u8 0, .int .u8 0, .slice none 0 0, .int .u16 0, .int .u16 0]))
            have b108 : Below v103.heap.size v103 v108 := hv108 ▸ kb_alloc v103 _
            have Hs103_108 := Lib.hid (shs_to Hs103.out b108)
            have nes5_108 := Lib.hid (show ∀ a, ao103 = some a → s0.ss ≠ [] → a.block ≠ k108 from fun a e hn => by have := shs_lt Hs103.out a e hn; omega)
            clear hv108 b108 hk108
            refine hK _ _ ?_
            clear hK K
            refine wpTill_run (i := 4) (by kernel_rfl) rfl (L108.out.be) (fun K hK => ?_) 
            go_simp
            go_at_call 30
            refine (R2.out v108 L108.out.be).mono ?_
            rintro R v109 ⟨ao109, cap109, rfl, hs109, hr109, hb109⟩
            have L109 := Lib.hid (L108.out.to hb109)
            have net6_109 := Lib.hid (show ∀ a, ao109 = some a → t0.ss ≠ [] → a.block ≠ k102 from fun a e hn => by have h1 := hr109 a e hn; have h2 := L108.out.low (e := (k102, 34, #[.int .u64 0, .int .u64 0, .int .i32 0, .int .i32 0, .int .i32 0, .int .i32 0, .int .u8 0, .int .u8 0, .int .u8 0, .int .i32 0, .int .i32 0, .int .i32 0, .int .i32 0, .int .u8 0, .int .u8 0, .int .u8 0, .slice none 0 0, .int .u16 0, .int .u16 0])) (by simp); dsimp only at h2; omega)
            have net5_109 := Lib.hid (show ∀ a, ao109 = some a → t0.ss ≠ [] → a.block ≠ k108 from fun a e hn => by have h1 := hr109 a e hn; have h2 := L108.out.low (e := (k108, 34, #[.int .u64 0, .int .u64 0, .int .i32 0, .int .i32 0, .int .i32 0, .int .i32 0, .int .u8 0, .int .u8 0, .int .u8 0, .int .i32 0, .int .i32 0, .int .i32 0, .int .i32 0, .int .u8 0, .int .u8 0, .int .u8 0, .slice none 0 0, .int .u16 0, .int .u16 0])) (by simp); dsimp only at h2; omega)
            have Hs103_108_109 := Lib.hid (shs_to Hs103_108.out hb109)
            have Ht109 := Lib.hid hs109
            have Bt109 := Lib.hid (show ∀ a, ao109 = some a → t0.ss ≠ [] → wd.heap.size ≤ a.block from fun a e hn => Nat.le_trans L108.out.be.size (hr109 a e hn))
            clear hs109 hr109 hb109
            refine hK _ _ ?_
            clear hK K
            refine wpTill_run (i := 7) (by kernel_rfl) rfl (L109.out.be) (fun K hK => ?_) 
            obtain ⟨v110, st110, l110, q110⟩ := L109.out.stA ty_state 1 rfl 0 (stc s0 ao103 cap103) (cs' := stc s0 ao103 cap103) rfl (L' := [(k102, 34, #[.int .u64 0, .int .u64 0, .int .i32 0, .int .i32 0, .int .i32 0, .int .i32 0, .int .u8 0, .int .u8 0, .int .u8 0, .int .i32 0, .int .i32 0, .int .i32 0, .int .i32 0, .int .u8 0, .int .u8 0, .int .u8 0, .slice none 0 0, .int .u16 0, .int .u16 0]), (k108, 34, stc s0 ao103 cap103)]) rfl (Nat.le_of_ble_eq_true rfl) rfl rfl
            have L110 := Lib.hid l110
            have Hs103_108_109_110 := Lib.hid (shs_turn Hs103_108_109.out q110 nes5_108.out)
            have Ht109_110 := Lib.hid (shs_turn Ht109.out q110 net5_109.out)
            go_simp
            clear l110 q110 st110
            refine hK _ _ ?_
            clear hK K
            refine wpTill_run (i := 8) (by kernel_rfl) rfl (L110.out.be) (fun K hK => ?_) 
            obtain ⟨v111, st111, l111, q111⟩ := L110.out.stA ty_state 0 rfl 0 (stc t0 ao109 cap109) (cs' := stc t0 ao109 cap109) rfl (L' := [(k102, 34, stc t0 ao109 cap109), (k108, 34, stc s0 ao103 cap103)]) rfl (Nat.le_of_ble_eq_true rfl) rfl rfl
            have L111 := Lib.hid l111
            have Hs103_108_109_110_111 := Lib.hid (shs_turn Hs103_108_109_110.out q111 nes6_103.out)
            have Ht109_110_111 := Lib.hid (shs_turn Ht109_110.out q111 net6_109.out)
            go_simp
            clear l111 q111 st111
            refine hK _ _ ?_
            clear hK K
            refine wpTill_done (by kernel_rfl) ?_
            go_wp2_with fail
            go_meet
            exact ⟨k108, k102, ao103, cap103, ao109, cap109, rfl, rfl, ⟨_, rfl, ⟨L111.out.be, L111.out.get 1 rfl, L111.out.get 0 rfl, Hs103_108_109_110_111.out, Ht109_110_111.out, L111.out.bge 1 rfl, L111.out.bge 0 rfl, Bs103.out, Bt109.out⟩⟩⟩
        · go_simp
          obtain ⟨v112, hv112⟩ : ∃ v, v = v102.alloc (.cells #[.int .u64 0, .int .u64 0, .int .i32 0, .int .i32 0, .int .i32 0, .int .i32 0, .int .u8 0, .int .u8 0, .int .u8 0, .int .i32 0, .int .i32 0, .int .i32 0, .int .i32 0, .int .u8 0, .int .u8 0, .int .u8 0, .slice none 0 0, .int .u16 0, .int .u16 0] 34) := ⟨_, rfl⟩
          obtain ⟨k112, hk112⟩ : ∃ k, k = v102.heap.size := ⟨_, rfl⟩
          rw [← hv112, ← hk112]
          have L112 := Lib.hid (show Loc wd.heap.size wd v112 [(k102, 34, #[.int .u64 0, .int .u64 0, .int .i32 0, .int .i32 0, .int .i32 0, .int .i32 0, .int .u8 0, .int .u8 0, .int .u8 0, .int .i32 0, .int .i32 0, .int .i32 0, .int .i32 0, .int .u8 0, .int .u8 0, .int .u8 0, .slice none 0 0, .int .u16 0, .int .u16 0]), (k112, 34, #[.int .u64 0, .int .u64 0, .int .i32 0, .int .i32 0, .int .i32 0, .int .i32 0, .int .u8 0, .int .u8 0, .int .u8 0, .int .i32 0, .int .i32 0, .int .i32 0, .int .i32 0, .int .u8 0, .int .u8 0, .int .u8 0, .slice none 0 0, .int .u16 0, .int .u16 0])] from hv112 ▸ hk112 ▸ (L102.out.more 34 #[.int .u64 0, .int .u64 0, .int .i32 0, .int .i32 0, .int .i32 0, .int .i32 0, .int .u8 0, .int .u8 0, .int .u8 0, .int .i32 0, .int .i32 0, .int .i32 0, .int .i32 0, .int .u8 0, .int .u8 0, .int .u8 0, .slice none 0 0, .int .u16 0, .int .u16 0]))
          have b112 : Below v102.heap.size v102 v112 := hv112 ▸ kb_alloc v102 _
          clear hv112 b112 hk112
          refine hK _ _ ?_
          clear hK K
          refine wpTill_run (i := 1) (by kernel_rfl) rfl (L112.out.be) (fun K hK => ?_) 
          go_simp
          go_at_call 30
          refine (R1.out v112 L112.out.be).mono ?_
          rintro R v113 ⟨ao113, cap113, rfl, hs113, hr113, hb113⟩
          have L113 := Lib.hid (L112.out.to hb113)
          have nes6_113 := Lib.hid (show ∀ a, ao113 = some a → s0.ss ≠ [] → a.block ≠ k102 from fun a e hn => by have h1 := hr113 a e hn; have h2 := L112.out.low (e := (k102, 34, #[.int .u64 0, .int .u64 0, .int .i32 0, .int .i32 0, .int .i32 0, .int .i32 0, .int .u8 0, .int .u8 0, .int .u8 0, .int .i32 0, .int .i32 0, .int .i32 0, .int .i32 0, .int .u8 0, .int .u8 0, .int .u8 0, .slice none 0 0, .int .u16 0, .int .u16 0])) (by simp); dsimp only at h2; omega)
          have nes5_113 := Lib.hid (show ∀ a, ao113 = some a → s0.ss ≠ [] → a.block ≠ k112 from fun a e hn => by have h1 := hr113 a e hn; have h2 := L112.out.low (e := (k112, 34, #[.int .u64 0, .int .u64 0, .int .i32 0, .int .i32 0, .int .i32 0, .int .i32 0, .int .u8 0, .int .u8 0, .int .u8 0, .int .i32 0, .int .i32 0, .int .i32 0, .int .i32 0, .int .u8 0, .int .u8 0, .int .u8 0, .slice none 0 0, .int .u16 0, .int .u16 0])) (by simp); dsimp only at h2; omega)
          have Hs113 := Lib.hid hs113
          have Bs113 := Lib.hid (show ∀ a, ao113 = some a → s0.ss ≠ [] → wd.heap.size ≤ a.block from fun a e hn => Nat.le_trans L112.out.be.size (hr113 a e hn))
          clear hs113 hr113 hb113
          refine hK _ _ ?_
          clear hK K
          refine wpTill_run (i := 4) (by kernel_rfl) rfl (L113.out.be) (fun K hK => ?_) 
          go_simp
          go_at_call 30
          refine (R2.out v113 L113.out.be).mono ?_
          rintro R v114 ⟨ao114, cap114, rfl, hs114, hr114, hb114⟩
          have L114 := Lib.hid (L113.out.to hb114)
          have net6_114 := Lib.hid (show ∀ a, ao114 = some a → t0.ss ≠ [] → a.block ≠ k102 from fun a e hn => by have h1 := hr114 a e hn; have h2 := L113.out.low (e := (k102, 34, #[.int .u64 0, .int .u64 0, .int .i32 0, .int .i32 0, .int .i32 0, .int .i32 0, .int .u8 0, .int .u8 0, .int .u8 0, .int .i32 0, .int .i32 0, .int .i32 0, .int .i32 0, .int .u8 0, .int .u8 0, .int .u8 0, .slice none 0 0, .int .u16 0, .int .u16 0])) (by simp); dsimp only at h2; omega)
          have net5_114 := Lib.hid (show ∀ a, ao114 = some a → t0.ss ≠ [] → a.block ≠ k112 from fun a e hn => by have h1 := hr114 a e hn; have h2 := L113.out.low (e := (k112, 34, #[.int .u64 0, .int .u64 0, .int .i32 0, .int .i32 0, .int .i32 0, .int .i32 0, .int .u8 0, .int .u8 0, .int .u8 0, .int .i32 0, .int .i32 0, .int .i32 0, .int .i32 0, .int .u8 0, .int .u8 0, .int .u8 0, .slice none 0 0, .int .u16 0, .int .u16 0])) (by simp); dsimp only at h2; omega)
          have Hs113_114 := Lib.hid (shs_to Hs113.out hb114)
          have Ht114 := Lib.hid hs114
          have Bt114 := Lib.hid (show ∀ a, ao114 = some a → t0.ss ≠ [] → wd.heap.size ≤ a.block from fun a e hn => Nat.le_trans L113.out.be.size (hr114 a e hn))
          clear hs114 hr114 hb114
          refine hK _ _ ?_
          clear hK K
          refine wpTill_run (i := 7) (by kernel_rfl) rfl (L114.out.be) (fun K hK => ?_) 
          obtain ⟨v115, st115, l115, q115⟩ := L114.out.stA ty_state 1 rfl 0 (stc s0 ao113 cap113) (cs' := stc s0 ao113 cap113) rfl (L' := [(k102, 34, #[.int .u64 0, .int .u64 0, .int .i32 0, .int .i32 0, .int .i32 0, .int .i32 0, .int .u8 0, .int .u8 0, .int .u8 0, .int .i32 0, .int .i32 0, .int .i32 0, .int .i32 0, .int .u8 0, .int .u8 0, .int .u8 0, .slice none 0 0, .int .u16 0, .int .u16 0]), (k112, 34, stc s0 ao113 cap113)]) rfl (Nat.le_of_ble_eq_true rfl) rfl rfl
          have L115 := Lib.hid l115
          have Hs113_114_115 := Lib.hid (shs_turn Hs113_114.out q115 nes5_113.out)
          have Ht114_115 := Lib.hid (shs_turn Ht114.out q115 net5_114.out)
          go_simp
          clear l115 q115 st115
          refine hK _ _ ?_
          clear hK K
          refine wpTill_run (i := 8) (by kernel_rfl) rfl (L115.out.be) (fun K hK => ?_) 
          obtain ⟨v116, st116, l116, q116⟩ := L115.out.stA ty_state 0 rfl 0 (stc t0 ao114 cap114) (cs' := stc t0 ao114 cap114) rfl (L' := [(k102, 34, stc t0 ao114 cap114), (k112, 34, stc s0 ao113 cap113)]) rfl (Nat.le_of_ble_eq_true rfl) rfl rfl
          have L116 := Lib.hid l116
          have Hs113_114_115_116 := Lib.hid (shs_turn Hs113_114_115.out q116 nes6_113.out)
          have Ht114_115_116 := Lib.hid (shs_turn Ht114_115.out q116 net6_114.out)
          go_simp
          clear l116 q116 st116
          refine hK _ _ ?_
          clear hK K
          refine wpTill_done (by kernel_rfl) ?_
          go_wp2_with fail
          go_meet
          exact ⟨k112, k102, ao113, cap113, ao114, cap114, rfl, rfl, ⟨_, rfl, ⟨L116.out.be, L116.out.get 1 rfl, L116.out.get 0 rfl, Hs113_114_115_116.out, Ht114_115_116.out, L116.out.bge 1 rfl, L116.out.bge 0 rfl, Bs113.out, Bt114.out⟩⟩⟩
    case rest =>
    obtain ⟨g1, g2, so, sc, to_, tc, rfl, rfl, HTW0⟩ := hcut
    obtain ⟨wc, hwc, htw⟩ := HTW0.out
    subst hwc
    have TW := Lib.hid htw
    have LC := Lib.hid (LD.out.to htw.be)
    have HWD := Lib.hid (show wa.heap.size ≤ w1.heap.size ∧ w1.heap.size ≤ wd.heap.size ∧ wd.heap.size ≤ wc.heap.size ∧ w.heap.size + 3 ≤ wa.heap.size ∧ wa.heap.size ≤ g ∧ g < wd.heap.size from ⟨HW1.out, by have h1 := HDS.out; have h2 := HW2.out; omega, htw.be.size, HWA.out, HG.out.1, by have h1 := HDS.out; have h2 := HG.out.2; omega⟩)
    have HLT := Lib.hid (show g1 < wc.heap.size ∧ g2 < wc.heap.size from ⟨htw.b1.lt, htw.b2.lt⟩)
    have HPC := Lib.hid (show PwC (fun x => wa.heap.size ≤ x ∧ (x < w1.heap.size ∨ wc.heap.size ≤ x)) wc g (.pointer (some ⟨gd, 0, none⟩)) 100000 gko gkc (pon 0 []) from (HPD.out.new htw.be).mono fun x hx => ⟨fun h => ⟨h.1, .inl h.2⟩, fun h => ⟨h.1, by rcases h.2 with h2 | h2 <;> omega⟩⟩)
    have hl1 : (ldT 34 (.pointer (some ⟨g1, 0, none⟩))).run Tryz.prog wc = .ok (.agg (stc s0 so sc)) wc := run_ldA ty_state htw.b1 0 (Nat.le_of_ble_eq_true rfl)
    have KW : Hid (Calls Tryz.prog 11 #[.pointer (some ⟨g, 0, none⟩), sv s0 so sc] wc fun R w' => R = .returned (.int .i64 0) ∧ DkS (fun x => wa.heap.size ≤ x ∧ (x < w1.heap.size ∨ wc.heap.size ≤ x)) w' (.pointer (some ⟨gd, 0, none⟩)) 100000 (d4 (ktxt s0) none none) ∧ Tu (fun z => wa.heap.size ≤ z ∧ (z < wd.heap.size ∨ wc.heap.size ≤ z)) wc w') := by
      have h0 := kwrite_c s0 so sc wc HPC.out (fun x hx => ⟨by have := HWD.out; omega, .inr hx⟩) htw.s1 HSG.out.2.1 (by decide) (HT.out.lo LC.out.be) (btab_lo HBT.out LC.out.be)
      unfold KwPost at h0
      obtain ⟨e1, e2⟩ := on_first (q := 100000) (k := 0) HSG.out.1 (by decide)
      rw [e1, e2, HSG.out.2.2.1] at h0
      refine h0.mono fun R w' h => ⟨h.1, h.2.1.dk, h.2.2.mono fun x hx h2 => ?_⟩
      have := HWD.out
      rcases h2 with rfl | h2
      · exact ⟨by omega, .inl (by omega)⟩
      · exact ⟨h2.1, by rcases h2.2 with h3 | h3; exact .inl (by omega); exact .inr h3⟩
    clear htw HTW0 HPD ldA3 ldA4 R1 R2 LD HG HDS HW1 HW2 HWA
    go_wp2_with fail
    clear hl1
    refine KW.out.mono ?_
    rintro R w5 ⟨rfl, hd5, ht5⟩
    obtain ⟨ts, hts⟩ : ∃ ts, ts = ktxt s0 := ⟨_, rfl⟩
    have HTS := Lib.hid (And.intro hts (show ts.length ≤ 522 from hts ▸ ktxt_len s0 HSG.out.1))
    rw [← hts] at hd5
    have HD5 : Hid (∃ S : Nat → Prop, (∀ z, S z → wa.heap.size ≤ z ∧ (z < wd.heap.size ∨ wc.heap.size ≤ z)) ∧ DkS S w5 (.pointer (some ⟨gd, 0, none⟩)) 100000 (d4 ts none none)) := ⟨_, fun z hz => ⟨hz.1, by have h1 := HWD.out; rcases hz.2 with h2 | h2; exact .inl (by omega); exact .inr h2⟩, hd5⟩
    have HT5 := Lib.hid ht5
    clear hd5 ht5 KW HPC hts
    have KEEP : Hid (∀ W, Tu (fun z => wa.heap.size ≤ z ∧ (z < wd.heap.size ∨ wc.heap.size ≤ z)) wc W → Below w.heap.size w W ∧ Cells W (w.heap.size + 2) 73 (ccs fo F.length fc ko Ks.length kc true) ∧ Cells W g1 34 (stc s0 so sc) ∧ Cells W g2 34 (stc t0 to_ tc) ∧ Shs W so s0.ss ∧ Shs W to_ t0.ss ∧ U8s W fo F ∧ Ints W ko Ks) := fun W hW => by
      have e := HWD.out
      have e2 := HLT.out
      have e3 := TW.out
      have e4 := e3.l1
      have e5 := e3.l2
      have hb := LC.out.be.trans (hW.below (fun x hx h => by have h1 := h.1; omega) LC.out.be.size)
      refine ⟨hb, (LC.out.get 2 rfl).tu hW (fun h => by have h1 := h.1; omega), e3.b1.tu hW (fun h => by have h1 := h.2; omega), e3.b2.tu hW (fun h => by have h1 := h.2; omega), shs_tu e3.s1 hW (fun a ea hn h => ?_), shs_tu e3.s2 hW (fun a ea hn h => ?_), (HFF.out.tu (Tu.new (S := fun _ => False) hb) (fun x hx h => h)), ?_⟩
      · have h1 := e3.r1 a ea hn; have h2 := shs_lt e3.s1 a ea hn; have h3 := h.2; omega
      · have h1 := e3.r2 a ea hn; have h2 := shs_lt e3.s2 a ea hn; have h3 := h.2; omega
      · exact HKK.out.tu (Tu.new (S := fun _ => False) hb) (fun a e h => h)
    clear HFF HKK TW
    go_wp2
    go_loopw [12] (fun iv wr => ∃ k : Nat, k ≤ F.length ∧ k ≤ 10 ∧ iv = .int .i64 (k : Int) ∧ Hid (∃ (S : Nat → Prop) (a' : Option (List UInt8)) (b' : Option (List UInt8 × Nat)), (∀ z, S z → wa.heap.size ≤ z ∧ (z < wd.heap.size ∨ wc.heap.size ≤ z)) ∧ DkS S wr (.pointer (some ⟨gd, 0, none⟩)) 100000 (d4 ts a' b') ∧ a' = none ∧ b' = none) ∧ Hid (Tu (fun z => wa.heap.size ≤ z ∧ (z < wd.heap.size ∨ wc.heap.size ≤ z)) wc wr)) (fun iv _ => F.length - (intOf iv).toNat)
    case atStart =>
      obtain ⟨S, h1, h2⟩ := HD5.out
      exact ⟨0, Nat.zero_le _, by omega, rfl, ⟨S, none, none, h1, h2, rfl, rfl⟩, HT5.out⟩
    case round =>
      obtain ⟨k, hk, hk10, rfl, HDD, HTU⟩ := hrel
      clear HD5 HT5
      obtain ⟨hB, hC5, hC1, hC2, hS1, hS2, hF8, hKI⟩ := KEEP.out wr HTU.out
      have c0 : wr.cell? ⟨w.heap.size + 2, 0, none⟩ = some (.slice fo F.length fc) := hC5.cell 0
      obtain ⟨S0, a', b', hS0, hdk, hab⟩ := HDD.out
      obtain ⟨S, hSe⟩ : ∃ S : Nat → Prop, S = fun x => S0 x ∧ x < wr.heap.size := ⟨_, rfl⟩
      have HSS := Lib.hid (show ∀ z, S z → (wa.heap.size ≤ z ∧ (z < wd.heap.size ∨ wc.heap.size ≤ z)) ∧ z < wr.heap.size from fun z hz => by rw [hSe] at hz; exact ⟨hS0 z hz.1, hz.2⟩)
      have HDK := Lib.hid (show DkS S wr (.pointer (some ⟨gd, 0, none⟩)) 100000 (d4 ts a' b') from by rw [hSe]; exact hdk.mono fun x hx h => ⟨h, hx⟩)
      have HAB := Lib.hid hab
      have HBR := Lib.hid hB
      have HWR := Lib.hid (show wc.heap.size ≤ wr.heap.size from HTU.out.size)
      clear hSe hS0 hdk hab HDD
      by_cases hin : k < F.length ∧ k < 10
      · obtain ⟨hlt, hlt10⟩ := hin
        have hki : (k : Int) < (F.length : Int) := by omega
        have hki8 : (k : Int) < 10 := by omega
        obtain ⟨hv, fb, foff, hfo, hfc⟩ := hF8 k hlt
        subst hfo
        obtain ⟨v, hvv⟩ : ∃ v, v = F[k]'hlt := ⟨_, rfl⟩
        rw [← hvv] at hfc hv
        obtain ⟨fu, hfu⟩ : ∃ fu : Int, ((v : Int)).tmod 8 = fu := ⟨_, rfl⟩
        have hfu2 : ((v : Int)) % 8 = fu := by rw [← hfu, Int.tmod_eq_emod_of_nonneg (by omega)]
        have hfr : 0 ≤ fu ∧ fu < 8 := by omega
        have hwr : IntKind.u8.wrap fu = fu := by simp only [IntKind.wrap, IntKind.bits, IntKind.signed]; simp; omega
        have hwr2 : IntKind.i64.wrap fu = fu := by simp only [IntKind.wrap, IntKind.bits, IntKind.signed]; simp; omega
        clear hvv
        go_upto_region 14 with fail
        clear c0
        obtain ⟨wx, hwx⟩ : ∃ wx, ({ wr with drawn := wr.drawn + 1 } : World) = wx := ⟨_, rfl⟩
        have bx : Below wr.heap.size wr wx := hwx ▸ (Below.refl _ wr).drew
        have c0 : wx.cell? ⟨w.heap.size + 2, 0, none⟩ = some (.slice (some ⟨fb, foff, none⟩) F.length fc) := (hC5.below bx hC5.lt).cell 0
        have c1 : wx.cell? ⟨w.heap.size + 2, 1, none⟩ = some (.slice ko Ks.length kc) := (hC5.below bx hC5.lt).cell 1
        have hfx : wx.cell? ⟨fb, foff + k, none⟩ = some (.int .u8 (v : Int)) := (bx.cell (p := ⟨fb, foff + k, none⟩) (World.block_lt_of_cell? wr _ hfc)).trans hfc
        have HNW := Lib.hid (fun fu => pnew_c fu ko Ks kc wx (HDK.out.new bx) (hKI.tu (Tu.new (S := fun _ => False) bx) (fun a e h => h)) HK20.out)
        have HBX := Lib.hid bx
        clear hC5 hC1 hC2 hS1 hS2 hF8 hKI hB bx hfc
        refine wp_region_still_tail 10 (by kernel_rfl) (by kernel_rfl) ?_
        simp only [List.take_succ_cons, List.take_zero, List.drop_succ_cons, List.drop_zero]
        rw [hwx]
        clear hwx
        repeat still_step
        refine wpStill_nil ?_
        go_wp2_with fail
        clear c0 c1 hfx hki hki8
        refine (HNW.out _).mono ?_
        rintro R w3 ⟨gp, ko3, kc3, rfl, hgp, hko3, hp3, hb3⟩
        obtain ⟨fz, hfz⟩ : ∃ fz : Int, fz = fu := ⟨_, rfl⟩
        have HP3 := Lib.hid (hp3.mono (S' := fun x => S x ∨ w3.heap.size ≤ x) (fun x hx => ⟨fun h => .inl h.1, fun h => h.elim (fun h => ⟨h, by have h1 := (HSS.out x h).2; have h2 := HBX.out.size; omega⟩) (fun h => by omega)⟩))
        have T3 := Lib.hid (HTU.out.trans (Tu.new (S := fun _ => False) (HBX.out.trans (hb3.mono HBX.out.size))) (fun x hx h => h.elim))
        have HSZ3 := Lib.hid (show wr.heap.size ≤ w3.heap.size ∧ wr.heap.size ≤ gp from ⟨Nat.le_trans HBX.out.size hb3.size, Nat.le_trans HBX.out.size hgp⟩)
        clear hp3 hb3 hgp hko3 HNW HBX HDK hfz
        clear hwr hwr2 hfu hfu2 hfr hv
        obtain ⟨hB, hC5, hC1, hC2, hS1, hS2, -, -⟩ := KEEP.out w3 T3.out
        have l2 : (ldT 34 (.pointer (some ⟨g2, 0, none⟩))).run Tryz.prog w3 = .ok (.agg (stc t0 to_ tc)) w3 := run_ldA ty_state hC2 0 (Nat.le_of_ble_eq_true rfl)
        have KW := Lib.hid (kwrite_c t0 to_ tc w3 HP3.out (fun x hx => .inr hx) hS2 HTG.out.2.1 (by show 0 + 5 < _; omega) (HT.out.lo hB) (btab_lo HBT.out hB))
        unfold KwPost at KW
        obtain ⟨ha0, hb0⟩ := HAB.out
        subst ha0 hb0
        have e1 := fun fu => (cut_same (q := 100000) (s := ts) fu Ks HTG.out.2.2.1 HTG.out.1).1
        have e2 := fun fu => (cut_same (q := 100000) (s := ts) fu Ks HTG.out.2.2.1 HTG.out.1).2.1
        have e3 := fun fu => (cut_same (q := 100000) (s := ts) fu Ks HTG.out.2.2.1 HTG.out.1).2.2
        rw [e1, e2] at KW
        have HE3 := Lib.hid e3
        clear e1 e2 e3 hB hC5 hC1 hC2 hS1 hS2
        go_wp2_with fail
        clear l2
        refine KW.out.mono ?_
        rintro R w4 ⟨rfl, hp4, ht4⟩
        have T4 := Lib.hid (T3.out.trans ht4 (fun x hx h => by
          have h1 := HWD.out; have h2 := HWR.out; have h3 := HSZ3.out
          rcases h with rfl | h | h
          · exact ⟨by omega, .inr (by omega)⟩
          · exact (HSS.out x h).1
          · exact ⟨by omega, .inr (by omega)⟩))
        have HP4 := Lib.hid hp4
        have HSZ4 := Lib.hid ht4.size
        clear hp4 ht4 KW HP3
        go_wp2_with fail
        refine (blow_c w4 HP4.out).mono ?_
        rintro R w5b ⟨rfl, hp5, ht5⟩
        have T5 := Lib.hid (T4.out.trans ht5 (fun x hx h => by
          have h1 := HWD.out; have h2 := HWR.out; have h3 := HSZ3.out
          rcases h with rfl | h | h
          · exact ⟨by omega, .inr (by omega)⟩
          · exact (HSS.out x h).1
          · exact ⟨by omega, .inr (by omega)⟩))
        have HD6 := Lib.hid (show DkS (fun x => S x ∨ w3.heap.size ≤ x) w5b (.pointer (some ⟨gd, 0, none⟩)) 100000 (d4 ts none none) from by have := hp5.dk; rw [HE3.out] at this; exact this)
        have KP : Hid (Calls Tryz.prog 29 #[.pointer (some ⟨gd, 0, none⟩), .int .i64 (-1), .slice none 0 0] w5b (NewPw (fun x => S x ∨ w3.heap.size ≤ x) w5b (.pointer (some ⟨gd, 0, none⟩)) 100000 (-1) [] (d4 ts none none))) := pnew_c (-1) none [] 0 w5b HD6.out (fun j hj => by cases hj) (by simp)
        clear hp5 ht5 HP4 T4 T3 HE3
        go_wp2_with fail
        refine KP.out.mono ?_
        rintro R w6 ⟨ga, ko6, kc6, rfl, -, -, hp6, hb6⟩
        have T6 := Lib.hid (T5.out.trans (Tu.new (S := fun _ => False) hb6) (fun x hx h => h.elim))
        have HP6 := Lib.hid (show PwC (fun x => (S x ∨ w3.heap.size ≤ x) ∧ x < w5b.heap.size) w6 ga (.pointer (some ⟨gd, 0, none⟩)) 100000 ko6 kc6 (pon 0 (d4 ts none none)) from hp6)
        have HD7 := Lib.hid (HD6.out.new hb6)
        clear hp6 hb6 KP HD6 T5
        obtain ⟨hB, hC5, hC1, hC2, hS1, hS2, -, -⟩ := KEEP.out w6 T6.out
        have l1 : (ldT 34 (.pointer (some ⟨g1, 0, none⟩))).run Tryz.prog w6 = .ok (.agg (stc s0 so sc)) w6 := run_ldA ty_state hC1 0 (Nat.le_of_ble_eq_true rfl)
        have KL : Hid (Calls Tryz.prog 31 #[.pointer (some ⟨ga, 0, none⟩), .int .u64 3, sv s0 so sc] w6 fun R w' => R = .returned (.bool true) ∧ Below w6.heap.size w6 w') := by
          have h0 := loads_c 3 s0 so sc w6 HP6.out (by decide) hS1 (by have := HSG.out.2.2.2; simp only [maxLen]; omega) (HT.out.lo hB) (btab_lo HBT.out hB)
          obtain ⟨e1, e2⟩ := d4_kl3 (s := s0) (p := pon 0 (d4 ts none none)) (a := none) (b := none) rfl (by rw [HTS.out.1]; rfl) HSG.out.2.2.1 HSG.out.1 HSG.out.2.1
          rw [e1, e2, sm_self] at h0
          exact h0
        clear hB hC5 hC1 hC2 hS1 hS2
        go_wp2_with fail
        clear l1
        refine KL.out.mono ?_
        rintro R w7 ⟨rfl, hb7⟩
        have T7 := Lib.hid (T6.out.trans (Tu.new (S := fun _ => False) hb7) (fun x hx h => h.elim))
        have HD8 := Lib.hid (HD7.out.new hb7)
        have HP7 := Lib.hid (HP6.out.new hb7)
        clear hb7 KL T6 HD7 HP6
        obtain ⟨hB, hC5, hC1, hC2, hS1, hS2, -, -⟩ := KEEP.out w7 T7.out
        have c2 : w7.cell? ⟨w.heap.size + 2, 2, none⟩ = some (.bool true) := hC5.cell 2
        clear hB hC5 hC1 hC2 hS1 hS2
        have hk9 := hk10
        go_wp2
        go_roundw
        case rel => exact ⟨k + 1, by omega, by omega, by go_num, ⟨_, none, none, fun z hz => by
              have h1 := HWD.out; have h2 := HWR.out; have h3 := HSZ3.out
              rcases hz with hz | hz
              · exact (HSS.out z hz).1
              · exact ⟨by omega, .inr (by omega)⟩, HD8.out, rfl, rfl⟩, T7.out⟩
        case measure => simp [intOf]; omega
      · have KP := Lib.hid (fun W (hW : Below wr.heap.size wr W) => pnew_c (-1) none [] 0 W (HDK.out.new hW) (fun j hj => by cases hj) (by simp))
        clear hC5 hC1 hC2 hS1 hS2 hF8 hKI hB
        by_cases hlt : k < F.length
        · have hki : (k : Int) < (F.length : Int) := by omega
          have hki8 : ¬ (k : Int) < 10 := by omega
          have KP' : Hid (Calls Tryz.prog 29 #[.pointer (some ⟨gd, 0, none⟩), .int .i64 (-1), .slice none 0 0] wr (NewPw S wr (.pointer (some ⟨gd, 0, none⟩)) 100000 (-1) [] (d4 ts a' b'))) := KP.out wr (Below.refl _ _)
          go_wp2_with fail
          clear c0
          refine KP'.out.mono ?_
          rintro R w3 ⟨gl, ko3, kc3, rfl, hgl, -, hp3, hb3⟩
          have HP3 := Lib.hid (show PwC (fun x => S x ∨ w3.heap.size ≤ x) w3 gl (.pointer (some ⟨gd, 0, none⟩)) 100000 ko3 kc3 (pon 0 (d4 ts a' b')) from hp3.mono (fun x hx => ⟨fun h => .inl h.1, fun h => h.elim (fun h => ⟨h, (HSS.out x h).2⟩) (fun h => by omega)⟩))
          have T3 := Lib.hid (HTU.out.trans (Tu.new (S := fun _ => False) hb3) (fun x hx h => h.elim))
          have HSZ3 := Lib.hid (show wr.heap.size ≤ w3.heap.size ∧ wr.heap.size ≤ gl from ⟨hb3.size, hgl⟩)
          clear hp3 hb3 hgl KP KP' HDK
          obtain ⟨hB, hC5, hC1, hC2, hS1, hS2, -, -⟩ := KEEP.out w3 T3.out
          have l2 : (ldT 34 (.pointer (some ⟨g2, 0, none⟩))).run Tryz.prog w3 = .ok (.agg (stc t0 to_ tc)) w3 := run_ldA ty_state hC2 0 (Nat.le_of_ble_eq_true rfl)
          have KW := Lib.hid (kwrite_c t0 to_ tc w3 HP3.out (fun x hx => .inr hx) hS2 HTG.out.2.1 (by show 0 + 5 < _; omega) (HT.out.lo hB) (btab_lo HBT.out hB))
          unfold KwPost at KW
          obtain ⟨ha0, hb0⟩ := HAB.out
          subst ha0 hb0
          have e1 : kwE 100000 t0 (pon 0 (d4 ts none none)) = 0 := (cut_same (q := 100000) (s := ts) (-1) [] HTG.out.2.2.1 HTG.out.1).1
          have e2 : kwP 100000 t0 (pon 0 (d4 ts none none)) = pon 0 (d4 ts none none) := (cut_same (q := 100000) (s := ts) (-1) [] HTG.out.2.2.1 HTG.out.1).2.1
          rw [e1, e2] at KW
          obtain ⟨pl, hpl⟩ : ∃ pl, pl = pon 0 (d4 ts none none) := ⟨_, rfl⟩
          have HPL := Lib.hid (show pl.off = false ∧ pl.E = d4 ts none none from ⟨by rw [hpl]; rfl, by rw [hpl]; rfl⟩)
          rw [← hpl] at KW
          clear e1 e2 hpl
          have KW' : Hid (Calls Tryz.prog 11 #[.pointer (some ⟨gl, 0, none⟩), sv t0 to_ tc] w3 fun R w' => R = .returned (.int .i64 0) ∧ PwC (fun x => S x ∨ w3.heap.size ≤ x) w' gl (.pointer (some ⟨gd, 0, none⟩)) 100000 ko3 kc3 pl ∧ Tu (fun x => x = gl ∨ (S x ∨ w3.heap.size ≤ x)) w3 w') := KW.out
          clear hB hC5 hC1 hC2 hS1 hS2 KW
          go_wp2_with fail
          clear l2
          refine KW'.out.mono ?_
          rintro R w4 ⟨rfl, hp4, ht4⟩
          have T4 := Lib.hid (T3.out.trans ht4 (fun x hx h => by
            have h1 := HWD.out; have h2 := HWR.out; have h3 := HSZ3.out
            rcases h with rfl | h | h
            · exact ⟨by omega, .inr (by omega)⟩
            · exact (HSS.out x h).1
            · exact ⟨by omega, .inr (by omega)⟩))
          have HP4 := Lib.hid hp4
          clear hp4 ht4 KW' HP3 T3
          obtain ⟨hB, hC5, hC1, hC2, hS1, hS2, -, -⟩ := KEEP.out w4 T4.out
          have c2 : w4.cell? ⟨w.heap.size + 2, 2, none⟩ = some (.bool true) := hC5.cell 2
          have l1 : ∀ W, Below w4.heap.size w4 W → (ldT 34 (.pointer (some ⟨g1, 0, none⟩))).run Tryz.prog W = .ok (.agg (stc s0 so sc)) W := fun W hW => run_ldA ty_state (hC1.below hW hC1.lt) 0 (Nat.le_of_ble_eq_true rfl)
          have l2 : (ldT 34 (.pointer (some ⟨g2, 0, none⟩))).run Tryz.prog w4 = .ok (.agg (stc t0 to_ tc)) w4 := run_ldA ty_state hC2 0 (Nat.le_of_ble_eq_true rfl)
          have HB4 := Lib.hid hB
          have K3 : Hid (∀ W, Below w4.heap.size w4 W → Calls Tryz.prog 31 #[.pointer (some ⟨gl, 0, none⟩), .int .u64 3, sv s0 so sc] W fun R w' => R = .returned (.bool true) ∧ Below W.heap.size W w') := fun W hW => by
            have h0 := loads_c 3 s0 so sc W (HP4.out.new hW) (by decide) (shs_to hS1 hW) (by have := HSG.out.2.2.2; simp only [maxLen]; omega) (HT.out.lo (HB4.out.trans (hW.mono HB4.out.size))) (btab_lo HBT.out (HB4.out.trans (hW.mono HB4.out.size)))
            obtain ⟨e1, e2⟩ := d4_kl3 (s := s0) (p := pl) HPL.out.1 (by rw [HPL.out.2, HTS.out.1]) HSG.out.2.2.1 HSG.out.1 HSG.out.2.1
            rw [e1, e2, sm_self] at h0
            exact h0
          have l10 := l1 w4 (Below.refl _ _)
          clear hB hC5 hC1 hC2 hS1 hS2 l1 l2
          go_wp2_with fail
          clear l10 c2
          refine (K3.out w4 (Below.refl _ _)).mono ?_
          rintro R w5c ⟨rfl, hb5⟩
          have HBF := Lib.hid (HB4.out.trans (hb5.mono HB4.out.size))
          clear hb5 K3
          go_wp2_with fail
          refine (works18_c w5c (HT.out.lo HBF.out) (btab_lo HBT.out HBF.out)).mono ?_
          rintro R wz ⟨rfl, hbz⟩
          go_wp2
          go_ret
          exact ⟨rfl, HBF.out.trans (hbz.mono HBF.out.size)⟩
        · have hki : ¬ (k : Int) < (F.length : Int) := by omega
          have KP' : Hid (Calls Tryz.prog 29 #[.pointer (some ⟨gd, 0, none⟩), .int .i64 (-1), .slice none 0 0] wr (NewPw S wr (.pointer (some ⟨gd, 0, none⟩)) 100000 (-1) [] (d4 ts a' b'))) := KP.out wr (Below.refl _ _)
          go_wp2_with fail
          clear c0
          refine KP'.out.mono ?_
          rintro R w3 ⟨gl, ko3, kc3, rfl, hgl, -, hp3, hb3⟩
          have HP3 := Lib.hid (show PwC (fun x => S x ∨ w3.heap.size ≤ x) w3 gl (.pointer (some ⟨gd, 0, none⟩)) 100000 ko3 kc3 (pon 0 (d4 ts a' b')) from hp3.mono (fun x hx => ⟨fun h => .inl h.1, fun h => h.elim (fun h => ⟨h, (HSS.out x h).2⟩) (fun h => by omega)⟩))
          have T3 := Lib.hid (HTU.out.trans (Tu.new (S := fun _ => False) hb3) (fun x hx h => h.elim))
          have HSZ3 := Lib.hid (show wr.heap.size ≤ w3.heap.size ∧ wr.heap.size ≤ gl from ⟨hb3.size, hgl⟩)
          clear hp3 hb3 hgl KP KP' HDK
          obtain ⟨hB, hC5, hC1, hC2, hS1, hS2, -, -⟩ := KEEP.out w3 T3.out
          have l2 : (ldT 34 (.pointer (some ⟨g2, 0, none⟩))).run Tryz.prog w3 = .ok (.agg (stc t0 to_ tc)) w3 := run_ldA ty_state hC2 0 (Nat.le_of_ble_eq_true rfl)
          have KW := Lib.hid (kwrite_c t0 to_ tc w3 HP3.out (fun x hx => .inr hx) hS2 HTG.out.2.1 (by show 0 + 5 < _; omega) (HT.out.lo hB) (btab_lo HBT.out hB))
          unfold KwPost at KW
          obtain ⟨ha0, hb0⟩ := HAB.out
          subst ha0 hb0
          have e1 : kwE 100000 t0 (pon 0 (d4 ts none none)) = 0 := (cut_same (q := 100000) (s := ts) (-1) [] HTG.out.2.2.1 HTG.out.1).1
          have e2 : kwP 100000 t0 (pon 0 (d4 ts none none)) = pon 0 (d4 ts none none) := (cut_same (q := 100000) (s := ts) (-1) [] HTG.out.2.2.1 HTG.out.1).2.1
          rw [e1, e2] at KW
          obtain ⟨pl, hpl⟩ : ∃ pl, pl = pon 0 (d4 ts none none) := ⟨_, rfl⟩
          have HPL := Lib.hid (show pl.off = false ∧ pl.E = d4 ts none none from ⟨by rw [hpl]; rfl, by rw [hpl]; rfl⟩)
          rw [← hpl] at KW
          clear e1 e2 hpl
          have KW' : Hid (Calls Tryz.prog 11 #[.pointer (some ⟨gl, 0, none⟩), sv t0 to_ tc] w3 fun R w' => R = .returned (.int .i64 0) ∧ PwC (fun x => S x ∨ w3.heap.size ≤ x) w' gl (.pointer (some ⟨gd, 0, none⟩)) 100000 ko3 kc3 pl ∧ Tu (fun x => x = gl ∨ (S x ∨ w3.heap.size ≤ x)) w3 w') := KW.out
          clear hB hC5 hC1 hC2 hS1 hS2 KW
          go_wp2_with fail
          clear l2
          refine KW'.out.mono ?_
          rintro R w4 ⟨rfl, hp4, ht4⟩
          have T4 := Lib.hid (T3.out.trans ht4 (fun x hx h => by
            have h1 := HWD.out; have h2 := HWR.out; have h3 := HSZ3.out
            rcases h with rfl | h | h
            · exact ⟨by omega, .inr (by omega)⟩
            · exact (HSS.out x h).1
            · exact ⟨by omega, .inr (by omega)⟩))
          have HP4 := Lib.hid hp4
          clear hp4 ht4 KW' HP3 T3
          obtain ⟨hB, hC5, hC1, hC2, hS1, hS2, -, -⟩ := KEEP.out w4 T4.out
          have c2 : w4.cell? ⟨w.heap.size + 2, 2, none⟩ = some (.bool true) := hC5.cell 2
          have l1 : ∀ W, Below w4.heap.size w4 W → (ldT 34 (.pointer (some ⟨g1, 0, none⟩))).run Tryz.prog W = .ok (.agg (stc s0 so sc)) W := fun W hW => run_ldA ty_state (hC1.below hW hC1.lt) 0 (Nat.le_of_ble_eq_true rfl)
          have l2 : (ldT 34 (.pointer (some ⟨g2, 0, none⟩))).run Tryz.prog w4 = .ok (.agg (stc t0 to_ tc)) w4 := run_ldA ty_state hC2 0 (Nat.le_of_ble_eq_true rfl)
          have HB4 := Lib.hid hB
          have K3 : Hid (∀ W, Below w4.heap.size w4 W → Calls Tryz.prog 31 #[.pointer (some ⟨gl, 0, none⟩), .int .u64 3, sv s0 so sc] W fun R w' => R = .returned (.bool true) ∧ Below W.heap.size W w') := fun W hW => by
            have h0 := loads_c 3 s0 so sc W (HP4.out.new hW) (by decide) (shs_to hS1 hW) (by have := HSG.out.2.2.2; simp only [maxLen]; omega) (HT.out.lo (HB4.out.trans (hW.mono HB4.out.size))) (btab_lo HBT.out (HB4.out.trans (hW.mono HB4.out.size)))
            obtain ⟨e1, e2⟩ := d4_kl3 (s := s0) (p := pl) HPL.out.1 (by rw [HPL.out.2, HTS.out.1]) HSG.out.2.2.1 HSG.out.1 HSG.out.2.1
            rw [e1, e2, sm_self] at h0
            exact h0
          have l10 := l1 w4 (Below.refl _ _)
          clear hB hC5 hC1 hC2 hS1 hS2 l1 l2
          go_wp2_with fail
          clear l10 c2
          refine (K3.out w4 (Below.refl _ _)).mono ?_
          rintro R w5c ⟨rfl, hb5⟩
          have HBF := Lib.hid (HB4.out.trans (hb5.mono HB4.out.size))
          clear hb5 K3
          go_wp2_with fail
          refine (works18_c w5c (HT.out.lo HBF.out) (btab_lo HBT.out HBF.out)).mono ?_
          rintro R wz ⟨rfl, hbz⟩
          go_wp2
          go_ret
          exact ⟨rfl, HBF.out.trans (hbz.mono HBF.out.size)⟩
end Go.Proofs.YtacgmadgkmcmoaaGreatDoor
