/- The document's Put: its contract. -/
import Derived.Test.YtacgmadgkmcmoaaGreatDoorAe
import Derived.Test.YtacgmadgkmcmoaaGreatDoorAd
import Derived.Deep.RegionHeld3
namespace Go.Proofs.YtacgmadgkmcmoaaGreatDoor
open Go.RowKit
set_option linter.unusedVariables false
set_option linter.unusedSimpArgs false

section
variable {P : Program} {ops : Array Oper} {Q : Exit → Act → World → Prop} {md : Region.Mode} {S : World → Prop}
theorem wpTill_two {i j n : Nat} {oi oj : Oper} {listed : Array Bool} {a : Act} {w : World} (hr : Region.ready md ops listed = [i, j]) (hi : ops[i]? = some oi) (hj : ops[j]? = some oj) (hS : S w)
    (h1 : ∀ K' : Act → World → Prop, (∀ a' w', wpTill P md ops Q S n (listed.setIfInBounds i true) a' w' → K' a' w') → if Region.wanted oi (yielded ops a.tmps) = true then Oper.wp P oi a w K' Q else K' (a.put oi.dst undef) w)
    (h2 : ∀ K' : Act → World → Prop, (∀ a' w', wpTill P md ops Q S n (listed.setIfInBounds j true) a' w' → K' a' w') → if Region.wanted oj (yielded ops a.tmps) = true then Oper.wp P oj a w K' Q else K' (a.put oj.dst undef) w) :
    wpTill P md ops Q S (n + 1) listed a w :=
  ⟨fun k => (by rw [hr] at k; cases k), fun _ => hS, fun l hl => by
    rw [hr] at hl
    rcases List.mem_cons.1 hl with rfl | hl
    · exact wpOp_step hi h1
    · rw [List.mem_singleton] at hl
      subst hl
      exact wpOp_step hj h2⟩
end
attribute [local go_sem ↓] loadAt_state
attribute [local go_sem] run_loadState rowOf_new rowOf_old rowOf_drew rowOf_drewN drew_size

set_option maxHeartbeats 20000000 in
set_option maxRecDepth 20000 in
theorem refPut (s : St) (ao : Option Addr) (cap : Nat) (w : World) (h : Shs w ao s.ss) (hf : s.fit) :
    Calls Tryz.prog 107 #[sv s ao cap] w fun E w' => E = .returned (.string (str (sput s))) ∧ w.grownBy w' none := by
  have hC := refCheck s ao cap (w.alloc (.cells (stc s ao cap) 34)) (Shs_grown h (grown_alloc _ _) (by simp))
  have hB := bk_made w s ao cap
  cases hg : s.good
  · have HX := Lib.hid (sput_no hg)
    rw [chk_no hg] at hC
    clear hg hB h hf
    go_enter Tryz.func107, Tryz.ntmps107
    go_wp2_with fail
    refine hC.mono ?_
    rintro E w1 ⟨rfl, hb1⟩
    go_wp2
    go_ret
    exact ⟨by rw [HX.out]; rfl, (grown_alloc _ _).trans hb1⟩
  · have HX := Lib.hid (sput_yes hg)
    have h8 := good_few hg
    rw [chk_yes hg] at hC
    have HF := Lib.hid hf
    have HS := Lib.hid h
    have HB := Lib.hid hB
    have HL2 := Lib.hid (hes_len s.ss)
    have HV := Lib.hid (vr_len s.ss.length)
    have hl64 : IntKind.u64.wrap (s.ss.length : Int) = (s.ss.length : Int) := u64_id _ (by omega) (by omega)
    clear hg hB h hf
    go_enter Tryz.func107, Tryz.ntmps107
    go_wp2_with fail
    refine hC.mono ?_
    rintro E wz ⟨rfl, hb1⟩
    have HG := Lib.hid ((grown_alloc w (.cells (stc s ao cap) 34)).trans hb1)
    have HB1 := Lib.hid (bk_grown HB.out hb1 (by simp))
    clear hb1 HB hC
    go_upto_region 3 with fail
    go_cut [1, 3] (fun s1 s3 wx => s1 = .pointer (some ⟨w.heap.size, 0, none⟩) ∧ s3 = .string (str (le 8 s.fr ++ le 8 s.sd)) ∧ Hid (wz.grownBy wx none))
    case first =>
      have a0 := on_cell (B := wz.heap.size) HB1.out HB1.out.lt 0 rfl
      have a1 := on_cell (B := wz.heap.size) HB1.out HB1.out.lt 1 rfl
      have n0 : ¬ (9223372036854775807 < (str (le 8 s.fr)).size + (str (le 8 s.sd)).size) := by simp only [str_size, le_length]; omega
      have o0 := On.drew wz.heap.size wz
      have e0 := Lib.hid (str_append (le 8 s.fr) (le 8 s.sd))
      go_region_held3 (fun w' => On wz.heap.size wz w') (first | assumption) (first | (go_at_call 76; refine (refNumber _ 8 _ (by first | exact HF.out.1 | exact HF.out.2.1) (by omega)).mono ?_; rintro E w4 ⟨rfl, hb4⟩; have o4 := on_step (wd := wz) (by assumption) hb4))
      go_wp2_with fail
      all_goals go_meet
      all_goals exact ⟨rfl, by rw [e0.out], on_grown o4⟩
    case rest =>
    obtain ⟨rfl, rfl, HG1⟩ := hcut
    have HG2 := Lib.hid (HG.out.trans HG1.out)
    have HB2 := Lib.hid (bk_grown HB1.out HG1.out (by simp))
    clear HG HB1 HG1
    generalize hh0 : le 8 s.fr ++ le 8 s.sd = h0 at *
    have HH0 := Lib.hid hh0
    clear hh0
    go_wp2
    go_loopw [3, 4] (fun t v wr => ∃ k : Nat, k ≤ 2 ∧ v = .int .i64 k ∧ t = .string (str (h0 ++ pes ([s.p, s.q].take k))) ∧ Hid (w.grownBy wr none) ∧ Hid (Bk wr w.heap.size s ao cap)) (fun _ v _ => 2 - (intOf v).toNat)
    case atStart => exact ⟨0, by omega, rfl, by simp [pes], HG2, HB2⟩
    case round =>
      obtain ⟨k, hk, rfl, rfl, HW, HBk⟩ := hrel
      have HLB : Hid ((h0 ++ pes ([s.p, s.q].take k)).length ≤ 1000) := by
        have h1 := pes_len ([s.p, s.q].take k)
        have h2 : ([s.p, s.q].take k).length ≤ 2 := by simp; omega
        have h3 : h0.length = 16 := by rw [← HH0.out]; simp [le_length]
        show _ ≤ _
        rw [List.length_append, h1, h3]; omega
      by_cases hlt : k < 2
      · obtain ⟨hfit, b, o, hbo, hc⟩ := pls_of HBk.out HF.out.2.2.1 HF.out.2.2.2.1 k hlt
        obtain ⟨rfl, rfl⟩ : w.heap.size = b ∧ 2 = o := by injection hbo with e; injection e with e1 e2; exact ⟨e1, e2⟩
        have hc0 : wr.cell? ⟨w.heap.size, 2 + k * 7, none⟩ = _ := hc 0 _ rfl
        have hc1 := hc 1 _ rfl
        have hc2 := hc 2 _ rfl
        have hc3 := hc 3 _ rfl
        have hc4 := hc 4 _ rfl
        have hc5 := hc 5 _ rfl
        have hc6 := hc 6 _ rfl
        have HF1 := Lib.hid hfit
        have HNX : Hid (h0 ++ pes ([s.p, s.q].take (k + 1)) = h0 ++ pes ([s.p, s.q].take k) ++ pe ([s.p, s.q][k]'hlt)) := by show _ = _; rw [List.take_succ_eq_append_getElem (l := [s.p, s.q]) hlt]; simp only [pes, List.flatMap_append, List.flatMap_cons, List.flatMap_nil, List.append_nil, List.append_assoc]
        have hki : (k : Int) < 2 := by omega
        clear hfit hc hbo
        generalize h0 ++ pes ([s.p, s.q].take k) = bb at *
        generalize ([s.p, s.q][k]'hlt) = x at *
        have HBZ0 := Lib.hid (bk_grown HBk.out (grown_alloc wr (.cells #[.int .i32 x.x, .int .i32 x.y, .int .i32 x.vx, .int .i32 x.vy, .int .u8 (x.h : Int), .int .u8 (x.c : Int), .int .u8 (x.f : Int)] 29)) (by simp))
        have HGZ0 := Lib.hid (HW.out.trans (grown_alloc wr (.cells #[.int .i32 x.x, .int .i32 x.y, .int .i32 x.vx, .int .i32 x.vy, .int .u8 (x.h : Int), .int .u8 (x.c : Int), .int .u8 (x.f : Int)] 29)))
        clear HW HBk
        go_wp2_with fail
        have HBX := Lib.hid (Cells.made wr 29 #[.int .i32 x.x, .int .i32 x.y, .int .i32 x.vx, .int .i32 x.vy, .int .u8 (x.h : Int), .int .u8 (x.c : Int), .int .u8 (x.f : Int)])
        have HE : Hid (str (bb ++ pe x) = str bb ++ str (le 4 (un32 x.x)) ++ str (le 4 (un32 x.y)) ++ str (le 4 (un32 x.vx)) ++ str (le 4 (un32 x.vy)) ++ str [UInt8.ofNat x.h, UInt8.ofNat x.c, UInt8.ofNat x.f]) := by
          show _ = _
          obtain ⟨_, _, _, _, q1, q2, q3⟩ := HF1.out
          simp [str_append, pe, Pl.raw, enM, eN, wd, le, Nat.mod_eq_of_lt q1, Nat.mod_eq_of_lt q2, Nat.mod_eq_of_lt q3]
        have HBZ := HBZ0
        have HGZ := HGZ0
        clear HBZ0 HGZ0
        generalize wr.alloc (.cells #[.int .i32 x.x, .int .i32 x.y, .int .i32 x.vx, .int .i32 x.vy, .int .u8 (x.h : Int), .int .u8 (x.c : Int), .int .u8 (x.f : Int)] 29) = wz at *
        have a0 := on_cell (B := wz.heap.size) (t := 29) HBX.out HBX.out.lt 0 rfl
        have a1 := on_cell (B := wz.heap.size) (t := 29) HBX.out HBX.out.lt 1 rfl
        have a2 := on_cell (B := wz.heap.size) (t := 29) HBX.out HBX.out.lt 2 rfl
        have a3 := on_cell (B := wz.heap.size) (t := 29) HBX.out HBX.out.lt 3 rfl
        have a4 := on_cell (B := wz.heap.size) (t := 29) HBX.out HBX.out.lt 4 rfl
        have a5 := on_cell (B := wz.heap.size) (t := 29) HBX.out HBX.out.lt 5 rfl
        have a6 := on_cell (B := wz.heap.size) (t := 29) HBX.out HBX.out.lt 6 rfl
        have n0 : ¬ (9223372036854775807 < (str bb).size + (str (le 4 (un32 x.x))).size) := by have := HLB.out; simp only [str_size, le_length, List.length_cons, List.length_nil]; omega
        have n1 : ¬ (9223372036854775807 < (str bb).size + (str (le 4 (un32 x.x))).size + (str (le 4 (un32 x.y))).size) := by have := HLB.out; simp only [str_size, le_length, List.length_cons, List.length_nil]; omega
        have n2 : ¬ (9223372036854775807 < (str bb).size + (str (le 4 (un32 x.x))).size + (str (le 4 (un32 x.y))).size + (str (le 4 (un32 x.vx))).size) := by have := HLB.out; simp only [str_size, le_length, List.length_cons, List.length_nil]; omega
        have n3 : ¬ (9223372036854775807 < (str bb).size + (str (le 4 (un32 x.x))).size + (str (le 4 (un32 x.y))).size + (str (le 4 (un32 x.vx))).size + (str (le 4 (un32 x.vy))).size) := by have := HLB.out; simp only [str_size, le_length, List.length_cons, List.length_nil]; omega
        have n4 : ¬ (9223372036854775807 < (str bb).size + (str (le 4 (un32 x.x))).size + (str (le 4 (un32 x.y))).size + (str (le 4 (un32 x.vx))).size + (str (le 4 (un32 x.vy))).size + (str [UInt8.ofNat x.h, UInt8.ofNat x.c, UInt8.ofNat x.f]).size) := by have := HLB.out; simp only [str_size, le_length, List.length_cons, List.length_nil]; omega
        have o0 := On.drew wz.heap.size wz
        have o00 := On.refl wz.heap.size wz
        have uh : x.h < 256 := HF1.out.2.2.2.2.1
        have uc : x.c < 256 := HF1.out.2.2.2.2.2.1
        have uf : x.f < 256 := HF1.out.2.2.2.2.2.2
        refine wp_region_till (S := fun w' => On wz.heap.size wz w') (by kernel_rfl) ?_
        refine wpTill_take (i := 0) (v := ?vq1) rfl (by kernel_rfl) (fun _ _ _ h => h) (Or.inl ⟨by rfl, ?hq1⟩) o0 ?rq1
        case hq1 => (intro W hW; (try dsimp only at hW); go_simp; try with_reducible rfl)
        simp only [Act.put, List.setIfInBounds_toArray, List.set_cons_zero, List.set_cons_succ]
        refine wpTill_take (i := 1) (v := ?vq2) rfl (by kernel_rfl) (fun _ _ _ h => h) (Or.inl ⟨by rfl, ?hq2⟩) o0 ?rq2
        case hq2 => (intro W hW; (try dsimp only at hW); go_simp; try with_reducible rfl)
        simp only [Act.put, List.setIfInBounds_toArray, List.set_cons_zero, List.set_cons_succ]
        refine wpTill_take (i := 2) (v := ?vq3) rfl (by kernel_rfl) (fun _ _ _ h => h) (Or.inl ⟨by rfl, ?hq3⟩) o0 ?rq3
        case hq3 => (intro W hW; (try dsimp only at hW); go_simp; try with_reducible rfl)
        simp only [Act.put, List.setIfInBounds_toArray, List.set_cons_zero, List.set_cons_succ]
        refine wpTill_take (i := 5) (v := ?vq4) rfl (by kernel_rfl) (fun _ _ _ h => h) (Or.inl ⟨by rfl, ?hq4⟩) o0 ?rq4
        case hq4 => (intro W hW; (try dsimp only at hW); go_simp; try with_reducible rfl)
        simp only [Act.put, List.setIfInBounds_toArray, List.set_cons_zero, List.set_cons_succ]
        refine wpTill_take (i := 6) (v := ?vq5) rfl (by kernel_rfl) (fun _ _ _ h => h) (Or.inl ⟨by rfl, ?hq5⟩) o0 ?rq5
        case hq5 => (intro W hW; (try dsimp only at hW); go_simp; try with_reducible rfl)
        simp only [Act.put, List.setIfInBounds_toArray, List.set_cons_zero, List.set_cons_succ]
        refine wpTill_take (i := 9) (v := ?vq6) rfl (by kernel_rfl) (fun _ _ _ h => h) (Or.inl ⟨by rfl, ?hq6⟩) o0 ?rq6
        case hq6 => (intro W hW; (try dsimp only at hW); go_simp; try with_reducible rfl)
        simp only [Act.put, List.setIfInBounds_toArray, List.set_cons_zero, List.set_cons_succ]
        refine wpTill_take (i := 10) (v := ?vq7) rfl (by kernel_rfl) (fun _ _ _ h => h) (Or.inl ⟨by rfl, ?hq7⟩) o0 ?rq7
        case hq7 => (intro W hW; (try dsimp only at hW); go_simp; try with_reducible rfl)
        simp only [Act.put, List.setIfInBounds_toArray, List.set_cons_zero, List.set_cons_succ]
        refine wpTill_take (i := 13) (v := ?vq8) rfl (by kernel_rfl) (fun _ _ _ h => h) (Or.inl ⟨by rfl, ?hq8⟩) o0 ?rq8
        case hq8 => (intro W hW; (try dsimp only at hW); go_simp; try with_reducible rfl)
        simp only [Act.put, List.setIfInBounds_toArray, List.set_cons_zero, List.set_cons_succ]
        refine wpTill_take (i := 14) (v := ?vq9) rfl (by kernel_rfl) (fun _ _ _ h => h) (Or.inl ⟨by rfl, ?hq9⟩) o0 ?rq9
        case hq9 => (intro W hW; (try dsimp only at hW); go_simp; try with_reducible rfl)
        simp only [Act.put, List.setIfInBounds_toArray, List.set_cons_zero, List.set_cons_succ]
        refine wpTill_take (i := 17) (v := ?vq10) rfl (by kernel_rfl) (fun _ _ _ h => h) (Or.inl ⟨by rfl, ?hq10⟩) o0 ?rq10
        case hq10 => (intro W hW; (try dsimp only at hW); go_simp; try with_reducible rfl)
        simp only [Act.put, List.setIfInBounds_toArray, List.set_cons_zero, List.set_cons_succ]
        refine wpTill_take (i := 18) (v := ?vq11) rfl (by kernel_rfl) (fun _ _ _ h => h) (Or.inl ⟨by rfl, ?hq11⟩) o0 ?rq11
        case hq11 => (intro W hW; (try dsimp only at hW); go_simp; try with_reducible rfl)
        simp only [Act.put, List.setIfInBounds_toArray, List.set_cons_zero, List.set_cons_succ]
        refine wpTill_take (i := 19) (v := ?vq12) rfl (by kernel_rfl) (fun _ _ _ h => h) (Or.inl ⟨by rfl, ?hq12⟩) o0 ?rq12
        case hq12 => (intro W hW; (try dsimp only at hW); go_simp; try with_reducible rfl)
        simp only [Act.put, List.setIfInBounds_toArray, List.set_cons_zero, List.set_cons_succ]
        refine wpTill_take (i := 20) (v := ?vq13) rfl (by kernel_rfl) (fun _ _ _ h => h) (Or.inl ⟨by rfl, ?hq13⟩) o0 ?rq13
        case hq13 => (intro W hW; (try dsimp only at hW); go_simp; try with_reducible rfl)
        simp only [Act.put, List.setIfInBounds_toArray, List.set_cons_zero, List.set_cons_succ]
        refine wpTill_take (i := 21) (v := ?vq14) rfl (by kernel_rfl) (fun _ _ _ h => h) (Or.inl ⟨by rfl, ?hq14⟩) o0 ?rq14
        case hq14 => (intro W hW; (try dsimp only at hW); go_simp; try with_reducible rfl)
        simp only [Act.put, List.setIfInBounds_toArray, List.set_cons_zero, List.set_cons_succ]
        refine wpTill_take (i := 22) (v := ?vq15) rfl (by kernel_rfl) (fun _ _ _ h => h) (Or.inl ⟨by rfl, ?hq15⟩) o0 ?rq15
        case hq15 => (intro W hW; (try dsimp only at hW); go_simp; try with_reducible rfl)
        simp only [Act.put, List.setIfInBounds_toArray, List.set_cons_zero, List.set_cons_succ]
        refine wpTill_two (i := 3) (j := 23) (by kernel_rfl) rfl rfl o0 (fun K hK => ?_) (fun K hK => ?_)
        · go_simp
          go_at_call 152
          with_reducible refine (signed_c x.x _).mono ?_
          rintro E w16 ⟨rfl, hb16⟩
          have o16 := on_step (wd := wz) o0 hb16
          refine hK _ _ ?_
          clear hK K
          refine wpTill_take (i := 4) (v := ?vq17) rfl (by kernel_rfl) (fun _ _ _ h => h) (Or.inl ⟨by rfl, ?hq17⟩) o16 ?rq17
          case hq17 => (intro W hW; (try dsimp only at hW); go_simp; try with_reducible rfl)
          simp only [Act.put, List.setIfInBounds_toArray, List.set_cons_zero, List.set_cons_succ]
          refine wpTill_two (i := 7) (j := 23) (by kernel_rfl) rfl rfl o16 (fun K hK => ?_) (fun K hK => ?_)
          · go_simp
            go_at_call 152
            with_reducible refine (signed_c x.y _).mono ?_
            rintro E w18 ⟨rfl, hb18⟩
            have o18 := on_step (wd := wz) o16 hb18
            refine hK _ _ ?_
            clear hK K
            refine wpTill_take (i := 8) (v := ?vq19) rfl (by kernel_rfl) (fun _ _ _ h => h) (Or.inl ⟨by rfl, ?hq19⟩) o18 ?rq19
            case hq19 => (intro W hW; (try dsimp only at hW); go_simp; try with_reducible rfl)
            simp only [Act.put, List.setIfInBounds_toArray, List.set_cons_zero, List.set_cons_succ]
            refine wpTill_two (i := 11) (j := 23) (by kernel_rfl) rfl rfl o18 (fun K hK => ?_) (fun K hK => ?_)
            · go_simp
              go_at_call 152
              with_reducible refine (signed_c x.vx _).mono ?_
              rintro E w20 ⟨rfl, hb20⟩
              have o20 := on_step (wd := wz) o18 hb20
              refine hK _ _ ?_
              clear hK K
              refine wpTill_take (i := 12) (v := ?vq21) rfl (by kernel_rfl) (fun _ _ _ h => h) (Or.inl ⟨by rfl, ?hq21⟩) o20 ?rq21
              case hq21 => (intro W hW; (try dsimp only at hW); go_simp; try with_reducible rfl)
              simp only [Act.put, List.setIfInBounds_toArray, List.set_cons_zero, List.set_cons_succ]
              refine wpTill_two (i := 15) (j := 23) (by kernel_rfl) rfl rfl o20 (fun K hK => ?_) (fun K hK => ?_)
              · go_simp
                go_at_call 152
                with_reducible refine (signed_c x.vy _).mono ?_
                rintro E w22 ⟨rfl, hb22⟩
                have o22 := on_step (wd := wz) o20 hb22
                refine hK _ _ ?_
                clear hK K
                refine wpTill_take (i := 16) (v := ?vq23) rfl (by kernel_rfl) (fun _ _ _ h => h) (Or.inl ⟨by rfl, ?hq23⟩) o22 ?rq23
                case hq23 => (intro W hW; (try dsimp only at hW); go_simp; try with_reducible rfl)
                simp only [Act.put, List.setIfInBounds_toArray, List.set_cons_zero, List.set_cons_succ]
                refine wpTill_run (i := 23) (by kernel_rfl) rfl o22 (fun K hK => ?_)
                go_simp
                refine hK _ _ ?_
                clear hK K
                have o24 : On wz.heap.size wz (w22.alloc (.cells #[.int .u8 (x.h : Int), .int .u8 (x.c : Int), .int .u8 (x.f : Int)] 5)) := on_alloc o22
                have hr24 : rowOf (w22.alloc (.cells #[.int .u8 (x.h : Int), .int .u8 (x.c : Int), .int .u8 (x.f : Int)] 5)) w22.heap.size = #[.int .u8 (x.h : Int), .int .u8 (x.c : Int), .int .u8 (x.f : Int)] := rowOf_cells (Cells.made w22 _ _)
                have hl24 : w22.heap.size < (w22.alloc (.cells #[.int .u8 (x.h : Int), .int .u8 (x.c : Int), .int .u8 (x.f : Int)] 5)).heap.size := Cells.lt (Cells.made w22 5 #[.int .u8 (x.h : Int), .int .u8 (x.c : Int), .int .u8 (x.f : Int)])
                refine wpTill_run (i := 24) (by kernel_rfl) rfl o24 (fun K hK => ?_)
                have hc25 := run_conv (w22.alloc (.cells #[.int .u8 (x.h : Int), .int .u8 (x.c : Int), .int .u8 (x.f : Int)] 5)) w22.heap.size 3 (by rw [hr24]; rfl) (by decide) (by rw [hr24]; simp [allU8_cons, allU8_nil, uh, uc, uf])
                rw [hr24, strOf3] at hc25
                go_simp
                refine hK _ _ ?_
                clear hK K
                refine wpTill_take (i := 25) (v := ?vq26) rfl (by kernel_rfl) (fun _ _ _ h => h) (Or.inl ⟨by rfl, ?hq26⟩) o24 ?rq26
                case hq26 => (intro W hW; (try dsimp only at hW); go_simp; try with_reducible rfl)
                simp only [Act.put, List.setIfInBounds_toArray, List.set_cons_zero, List.set_cons_succ]
                refine wpTill_run (i := 26) (by kernel_rfl) rfl o24 (fun K hK => ?_)
                go_simp
                refine hK _ _ ?_
                clear hK K
                refine wpTill_done (by kernel_rfl) ?_
                have HOZ := Lib.hid o24
                go_wp2
                go_roundw
                case rel => exact ⟨k + 1, by omega, by go_num, by rw [HNX.out, HE.out], HGZ.out.trans (on_grown HOZ.out), bk_grown HBZ.out (on_grown HOZ.out) (by simp)⟩
                case measure => simp [intOf]; omega
              · go_simp
                refine hK _ _ ?_
                clear hK K
                have o27 : On wz.heap.size wz (w20.alloc (.cells #[.int .u8 (x.h : Int), .int .u8 (x.c : Int), .int .u8 (x.f : Int)] 5)) := on_alloc o20
                have hr27 : rowOf (w20.alloc (.cells #[.int .u8 (x.h : Int), .int .u8 (x.c : Int), .int .u8 (x.f : Int)] 5)) w20.heap.size = #[.int .u8 (x.h : Int), .int .u8 (x.c : Int), .int .u8 (x.f : Int)] := rowOf_cells (Cells.made w20 _ _)
                have hl27 : w20.heap.size < (w20.alloc (.cells #[.int .u8 (x.h : Int), .int .u8 (x.c : Int), .int .u8 (x.f : Int)] 5)).heap.size := Cells.lt (Cells.made w20 5 #[.int .u8 (x.h : Int), .int .u8 (x.c : Int), .int .u8 (x.f : Int)])
                refine wpTill_two (i := 15) (j := 24) (by kernel_rfl) rfl rfl o27 (fun K hK => ?_) (fun K hK => ?_)
                · go_simp
                  go_at_call 152
                  with_reducible refine (signed_c x.vy _).mono ?_
                  rintro E w28 ⟨rfl, hb28⟩
                  have o28 := on_step (wd := wz) o27 hb28
                  have hr28 : rowOf w28 w20.heap.size = #[.int .u8 (x.h : Int), .int .u8 (x.c : Int), .int .u8 (x.f : Int)] := by rw [keep_row hb28 _ hl27, hr27]
                  have hl28 : w20.heap.size < w28.heap.size := keep_lt hb28 _ hl27
                  refine hK _ _ ?_
                  clear hK K
                  refine wpTill_take (i := 16) (v := ?vq29) rfl (by kernel_rfl) (fun _ _ _ h => h) (Or.inl ⟨by rfl, ?hq29⟩) o28 ?rq29
                  case hq29 => (intro W hW; (try dsimp only at hW); go_simp; try with_reducible rfl)
                  simp only [Act.put, List.setIfInBounds_toArray, List.set_cons_zero, List.set_cons_succ]
                  refine wpTill_run (i := 24) (by kernel_rfl) rfl o28 (fun K hK => ?_)
                  have hc30 := run_conv w28 w20.heap.size 3 (by rw [hr28]; rfl) (by decide) (by rw [hr28]; simp [allU8_cons, allU8_nil, uh, uc, uf])
                  rw [hr28, strOf3] at hc30
                  go_simp
                  refine hK _ _ ?_
                  clear hK K
                  refine wpTill_take (i := 25) (v := ?vq31) rfl (by kernel_rfl) (fun _ _ _ h => h) (Or.inl ⟨by rfl, ?hq31⟩) o28 ?rq31
                  case hq31 => (intro W hW; (try dsimp only at hW); go_simp; try with_reducible rfl)
                  simp only [Act.put, List.setIfInBounds_toArray, List.set_cons_zero, List.set_cons_succ]
                  refine wpTill_run (i := 26) (by kernel_rfl) rfl o28 (fun K hK => ?_)
                  go_simp
                  refine hK _ _ ?_
                  clear hK K
                  refine wpTill_done (by kernel_rfl) ?_
                  have HOZ := Lib.hid o28
                  go_wp2
                  go_roundw
                  case rel => exact ⟨k + 1, by omega, by go_num, by rw [HNX.out, HE.out], HGZ.out.trans (on_grown HOZ.out), bk_grown HBZ.out (on_grown HOZ.out) (by simp)⟩
                  case measure => simp [intOf]; omega
                · have hc32 := run_conv (w20.alloc (.cells #[.int .u8 (x.h : Int), .int .u8 (x.c : Int), .int .u8 (x.f : Int)] 5)) w20.heap.size 3 (by rw [hr27]; rfl) (by decide) (by rw [hr27]; simp [allU8_cons, allU8_nil, uh, uc, uf])
                  rw [hr27, strOf3] at hc32
                  go_simp
                  refine hK _ _ ?_
                  clear hK K
                  refine wpTill_run (i := 15) (by kernel_rfl) rfl o27 (fun K hK => ?_)
                  go_simp
                  go_at_call 152
                  with_reducible refine (signed_c x.vy _).mono ?_
                  rintro E w33 ⟨rfl, hb33⟩
                  have o33 := on_step (wd := wz) o27 hb33
                  refine hK _ _ ?_
                  clear hK K
                  refine wpTill_take (i := 16) (v := ?vq34) rfl (by kernel_rfl) (fun _ _ _ h => h) (Or.inl ⟨by rfl, ?hq34⟩) o33 ?rq34
                  case hq34 => (intro W hW; (try dsimp only at hW); go_simp; try with_reducible rfl)
                  simp only [Act.put, List.setIfInBounds_toArray, List.set_cons_zero, List.set_cons_succ]
                  refine wpTill_take (i := 25) (v := ?vq35) rfl (by kernel_rfl) (fun _ _ _ h => h) (Or.inl ⟨by rfl, ?hq35⟩) o33 ?rq35
                  case hq35 => (intro W hW; (try dsimp only at hW); go_simp; try with_reducible rfl)
                  simp only [Act.put, List.setIfInBounds_toArray, List.set_cons_zero, List.set_cons_succ]
                  refine wpTill_run (i := 26) (by kernel_rfl) rfl o33 (fun K hK => ?_)
                  go_simp
                  refine hK _ _ ?_
                  clear hK K
                  refine wpTill_done (by kernel_rfl) ?_
                  have HOZ := Lib.hid o33
                  go_wp2
                  go_roundw
                  case rel => exact ⟨k + 1, by omega, by go_num, by rw [HNX.out, HE.out], HGZ.out.trans (on_grown HOZ.out), bk_grown HBZ.out (on_grown HOZ.out) (by simp)⟩
                  case measure => simp [intOf]; omega
            · go_simp
              refine hK _ _ ?_
              clear hK K
              have o36 : On wz.heap.size wz (w18.alloc (.cells #[.int .u8 (x.h : Int), .int .u8 (x.c : Int), .int .u8 (x.f : Int)] 5)) := on_alloc o18
              have hr36 : rowOf (w18.alloc (.cells #[.int .u8 (x.h : Int), .int .u8 (x.c : Int), .int .u8 (x.f : Int)] 5)) w18.heap.size = #[.int .u8 (x.h : Int), .int .u8 (x.c : Int), .int .u8 (x.f : Int)] := rowOf_cells (Cells.made w18 _ _)
              have hl36 : w18.heap.size < (w18.alloc (.cells #[.int .u8 (x.h : Int), .int .u8 (x.c : Int), .int .u8 (x.f : Int)] 5)).heap.size := Cells.lt (Cells.made w18 5 #[.int .u8 (x.h : Int), .int .u8 (x.c : Int), .int .u8 (x.f : Int)])
              refine wpTill_two (i := 11) (j := 24) (by kernel_rfl) rfl rfl o36 (fun K hK => ?_) (fun K hK => ?_)
              · go_simp
                go_at_call 152
                with_reducible refine (signed_c x.vx _).mono ?_
                rintro E w37 ⟨rfl, hb37⟩
                have o37 := on_step (wd := wz) o36 hb37
                have hr37 : rowOf w37 w18.heap.size = #[.int .u8 (x.h : Int), .int .u8 (x.c : Int), .int .u8 (x.f : Int)] := by rw [keep_row hb37 _ hl36, hr36]
                have hl37 : w18.heap.size < w37.heap.size := keep_lt hb37 _ hl36
                refine hK _ _ ?_
                clear hK K
                refine wpTill_take (i := 12) (v := ?vq38) rfl (by kernel_rfl) (fun _ _ _ h => h) (Or.inl ⟨by rfl, ?hq38⟩) o37 ?rq38
                case hq38 => (intro W hW; (try dsimp only at hW); go_simp; try with_reducible rfl)
                simp only [Act.put, List.setIfInBounds_toArray, List.set_cons_zero, List.set_cons_succ]
                refine wpTill_two (i := 15) (j := 24) (by kernel_rfl) rfl rfl o37 (fun K hK => ?_) (fun K hK => ?_)
                · go_simp
                  go_at_call 152
                  with_reducible refine (signed_c x.vy _).mono ?_
                  rintro E w39 ⟨rfl, hb39⟩
                  have o39 := on_step (wd := wz) o37 hb39
                  have hr39 : rowOf w39 w18.heap.size = #[.int .u8 (x.h : Int), .int .u8 (x.c : Int), .int .u8 (x.f : Int)] := by rw [keep_row hb39 _ hl37, hr37]
                  have hl39 : w18.heap.size < w39.heap.size := keep_lt hb39 _ hl37
                  refine hK _ _ ?_
                  clear hK K
                  refine wpTill_take (i := 16) (v := ?vq40) rfl (by kernel_rfl) (fun _ _ _ h => h) (Or.inl ⟨by rfl, ?hq40⟩) o39 ?rq40
                  case hq40 => (intro W hW; (try dsimp only at hW); go_simp; try with_reducible rfl)
                  simp only [Act.put, List.setIfInBounds_toArray, List.set_cons_zero, List.set_cons_succ]
                  refine wpTill_run (i := 24) (by kernel_rfl) rfl o39 (fun K hK => ?_)
                  have hc41 := run_conv w39 w18.heap.size 3 (by rw [hr39]; rfl) (by decide) (by rw [hr39]; simp [allU8_cons, allU8_nil, uh, uc, uf])
                  rw [hr39, strOf3] at hc41
                  go_simp
                  refine hK _ _ ?_
                  clear hK K
                  refine wpTill_take (i := 25) (v := ?vq42) rfl (by kernel_rfl) (fun _ _ _ h => h) (Or.inl ⟨by rfl, ?hq42⟩) o39 ?rq42
                  case hq42 => (intro W hW; (try dsimp only at hW); go_simp; try with_reducible rfl)
                  simp only [Act.put, List.setIfInBounds_toArray, List.set_cons_zero, List.set_cons_succ]
                  refine wpTill_run (i := 26) (by kernel_rfl) rfl o39 (fun K hK => ?_)
                  go_simp
                  refine hK _ _ ?_
                  clear hK K
                  refine wpTill_done (by kernel_rfl) ?_
                  have HOZ := Lib.hid o39
                  go_wp2
                  go_roundw
                  case rel => exact ⟨k + 1, by omega, by go_num, by rw [HNX.out, HE.out], HGZ.out.trans (on_grown HOZ.out), bk_grown HBZ.out (on_grown HOZ.out) (by simp)⟩
                  case measure => simp [intOf]; omega
                · have hc43 := run_conv w37 w18.heap.size 3 (by rw [hr37]; rfl) (by decide) (by rw [hr37]; simp [allU8_cons, allU8_nil, uh, uc, uf])
                  rw [hr37, strOf3] at hc43
                  go_simp
                  refine hK _ _ ?_
                  clear hK K
                  refine wpTill_run (i := 15) (by kernel_rfl) rfl o37 (fun K hK => ?_)
                  go_simp
                  go_at_call 152
                  with_reducible refine (signed_c x.vy _).mono ?_
                  rintro E w44 ⟨rfl, hb44⟩
                  have o44 := on_step (wd := wz) o37 hb44
                  refine hK _ _ ?_
                  clear hK K
                  refine wpTill_take (i := 16) (v := ?vq45) rfl (by kernel_rfl) (fun _ _ _ h => h) (Or.inl ⟨by rfl, ?hq45⟩) o44 ?rq45
                  case hq45 => (intro W hW; (try dsimp only at hW); go_simp; try with_reducible rfl)
                  simp only [Act.put, List.setIfInBounds_toArray, List.set_cons_zero, List.set_cons_succ]
                  refine wpTill_take (i := 25) (v := ?vq46) rfl (by kernel_rfl) (fun _ _ _ h => h) (Or.inl ⟨by rfl, ?hq46⟩) o44 ?rq46
                  case hq46 => (intro W hW; (try dsimp only at hW); go_simp; try with_reducible rfl)
                  simp only [Act.put, List.setIfInBounds_toArray, List.set_cons_zero, List.set_cons_succ]
                  refine wpTill_run (i := 26) (by kernel_rfl) rfl o44 (fun K hK => ?_)
                  go_simp
                  refine hK _ _ ?_
                  clear hK K
                  refine wpTill_done (by kernel_rfl) ?_
                  have HOZ := Lib.hid o44
                  go_wp2
                  go_roundw
                  case rel => exact ⟨k + 1, by omega, by go_num, by rw [HNX.out, HE.out], HGZ.out.trans (on_grown HOZ.out), bk_grown HBZ.out (on_grown HOZ.out) (by simp)⟩
                  case measure => simp [intOf]; omega
              · have hc47 := run_conv (w18.alloc (.cells #[.int .u8 (x.h : Int), .int .u8 (x.c : Int), .int .u8 (x.f : Int)] 5)) w18.heap.size 3 (by rw [hr36]; rfl) (by decide) (by rw [hr36]; simp [allU8_cons, allU8_nil, uh, uc, uf])
                rw [hr36, strOf3] at hc47
                go_simp
                refine hK _ _ ?_
                clear hK K
                refine wpTill_run (i := 11) (by kernel_rfl) rfl o36 (fun K hK => ?_)
                go_simp
                go_at_call 152
                with_reducible refine (signed_c x.vx _).mono ?_
                rintro E w48 ⟨rfl, hb48⟩
                have o48 := on_step (wd := wz) o36 hb48
                refine hK _ _ ?_
                clear hK K
                refine wpTill_take (i := 12) (v := ?vq49) rfl (by kernel_rfl) (fun _ _ _ h => h) (Or.inl ⟨by rfl, ?hq49⟩) o48 ?rq49
                case hq49 => (intro W hW; (try dsimp only at hW); go_simp; try with_reducible rfl)
                simp only [Act.put, List.setIfInBounds_toArray, List.set_cons_zero, List.set_cons_succ]
                refine wpTill_run (i := 15) (by kernel_rfl) rfl o48 (fun K hK => ?_)
                go_simp
                go_at_call 152
                with_reducible refine (signed_c x.vy _).mono ?_
                rintro E w50 ⟨rfl, hb50⟩
                have o50 := on_step (wd := wz) o48 hb50
                refine hK _ _ ?_
                clear hK K
                refine wpTill_take (i := 16) (v := ?vq51) rfl (by kernel_rfl) (fun _ _ _ h => h) (Or.inl ⟨by rfl, ?hq51⟩) o50 ?rq51
                case hq51 => (intro W hW; (try dsimp only at hW); go_simp; try with_reducible rfl)
                simp only [Act.put, List.setIfInBounds_toArray, List.set_cons_zero, List.set_cons_succ]
                refine wpTill_take (i := 25) (v := ?vq52) rfl (by kernel_rfl) (fun _ _ _ h => h) (Or.inl ⟨by rfl, ?hq52⟩) o50 ?rq52
                case hq52 => (intro W hW; (try dsimp only at hW); go_simp; try with_reducible rfl)
                simp only [Act.put, List.setIfInBounds_toArray, List.set_cons_zero, List.set_cons_succ]
                refine wpTill_run (i := 26) (by kernel_rfl) rfl o50 (fun K hK => ?_)
                go_simp
                refine hK _ _ ?_
                clear hK K
                refine wpTill_done (by kernel_rfl) ?_
                have HOZ := Lib.hid o50
                go_wp2
                go_roundw
                case rel => exact ⟨k + 1, by omega, by go_num, by rw [HNX.out, HE.out], HGZ.out.trans (on_grown HOZ.out), bk_grown HBZ.out (on_grown HOZ.out) (by simp)⟩
                case measure => simp [intOf]; omega
          · go_simp
            refine hK _ _ ?_
            clear hK K
            have o53 : On wz.heap.size wz (w16.alloc (.cells #[.int .u8 (x.h : Int), .int .u8 (x.c : Int), .int .u8 (x.f : Int)] 5)) := on_alloc o16
            have hr53 : rowOf (w16.alloc (.cells #[.int .u8 (x.h : Int), .int .u8 (x.c : Int), .int .u8 (x.f : Int)] 5)) w16.heap.size = #[.int .u8 (x.h : Int), .int .u8 (x.c : Int), .int .u8 (x.f : Int)] := rowOf_cells (Cells.made w16 _ _)
            have hl53 : w16.heap.size < (w16.alloc (.cells #[.int .u8 (x.h : Int), .int .u8 (x.c : Int), .int .u8 (x.f : Int)] 5)).heap.size := Cells.lt (Cells.made w16 5 #[.int .u8 (x.h : Int), .int .u8 (x.c : Int), .int .u8 (x.f : Int)])
            refine wpTill_two (i := 7) (j := 24) (by kernel_rfl) rfl rfl o53 (fun K hK => ?_) (fun K hK => ?_)
            · go_simp
              go_at_call 152
              with_reducible refine (signed_c x.y _).mono ?_
              rintro E w54 ⟨rfl, hb54⟩
              have o54 := on_step (wd := wz) o53 hb54
              have hr54 : rowOf w54 w16.heap.size = #[.int .u8 (x.h : Int), .int .u8 (x.c : Int), .int .u8 (x.f : Int)] := by rw [keep_row hb54 _ hl53, hr53]
              have hl54 : w16.heap.size < w54.heap.size := keep_lt hb54 _ hl53
              refine hK _ _ ?_
              clear hK K
              refine wpTill_take (i := 8) (v := ?vq55) rfl (by kernel_rfl) (fun _ _ _ h => h) (Or.inl ⟨by rfl, ?hq55⟩) o54 ?rq55
              case hq55 => (intro W hW; (try dsimp only at hW); go_simp; try with_reducible rfl)
              simp only [Act.put, List.setIfInBounds_toArray, List.set_cons_zero, List.set_cons_succ]
              refine wpTill_two (i := 11) (j := 24) (by kernel_rfl) rfl rfl o54 (fun K hK => ?_) (fun K hK => ?_)
              · go_simp
                go_at_call 152
                with_reducible refine (signed_c x.vx _).mono ?_
                rintro E w56 ⟨rfl, hb56⟩
                have o56 := on_step (wd := wz) o54 hb56
                have hr56 : rowOf w56 w16.heap.size = #[.int .u8 (x.h : Int), .int .u8 (x.c : Int), .int .u8 (x.f : Int)] := by rw [keep_row hb56 _ hl54, hr54]
                have hl56 : w16.heap.size < w56.heap.size := keep_lt hb56 _ hl54
                refine hK _ _ ?_
                clear hK K
                refine wpTill_take (i := 12) (v := ?vq57) rfl (by kernel_rfl) (fun _ _ _ h => h) (Or.inl ⟨by rfl, ?hq57⟩) o56 ?rq57
                case hq57 => (intro W hW; (try dsimp only at hW); go_simp; try with_reducible rfl)
                simp only [Act.put, List.setIfInBounds_toArray, List.set_cons_zero, List.set_cons_succ]
                refine wpTill_two (i := 15) (j := 24) (by kernel_rfl) rfl rfl o56 (fun K hK => ?_) (fun K hK => ?_)
                · go_simp
                  go_at_call 152
                  with_reducible refine (signed_c x.vy _).mono ?_
                  rintro E w58 ⟨rfl, hb58⟩
                  have o58 := on_step (wd := wz) o56 hb58
                  have hr58 : rowOf w58 w16.heap.size = #[.int .u8 (x.h : Int), .int .u8 (x.c : Int), .int .u8 (x.f : Int)] := by rw [keep_row hb58 _ hl56, hr56]
                  have hl58 : w16.heap.size < w58.heap.size := keep_lt hb58 _ hl56
                  refine hK _ _ ?_
                  clear hK K
                  refine wpTill_take (i := 16) (v := ?vq59) rfl (by kernel_rfl) (fun _ _ _ h => h) (Or.inl ⟨by rfl, ?hq59⟩) o58 ?rq59
                  case hq59 => (intro W hW; (try dsimp only at hW); go_simp; try with_reducible rfl)
                  simp only [Act.put, List.setIfInBounds_toArray, List.set_cons_zero, List.set_cons_succ]
                  refine wpTill_run (i := 24) (by kernel_rfl) rfl o58 (fun K hK => ?_)
                  have hc60 := run_conv w58 w16.heap.size 3 (by rw [hr58]; rfl) (by decide) (by rw [hr58]; simp [allU8_cons, allU8_nil, uh, uc, uf])
                  rw [hr58, strOf3] at hc60
                  go_simp
                  refine hK _ _ ?_
                  clear hK K
                  refine wpTill_take (i := 25) (v := ?vq61) rfl (by kernel_rfl) (fun _ _ _ h => h) (Or.inl ⟨by rfl, ?hq61⟩) o58 ?rq61
                  case hq61 => (intro W hW; (try dsimp only at hW); go_simp; try with_reducible rfl)
                  simp only [Act.put, List.setIfInBounds_toArray, List.set_cons_zero, List.set_cons_succ]
                  refine wpTill_run (i := 26) (by kernel_rfl) rfl o58 (fun K hK => ?_)
                  go_simp
                  refine hK _ _ ?_
                  clear hK K
                  refine wpTill_done (by kernel_rfl) ?_
                  have HOZ := Lib.hid o58
                  go_wp2
                  go_roundw
                  case rel => exact ⟨k + 1, by omega, by go_num, by rw [HNX.out, HE.out], HGZ.out.trans (on_grown HOZ.out), bk_grown HBZ.out (on_grown HOZ.out) (by simp)⟩
                  case measure => simp [intOf]; omega
                · have hc62 := run_conv w56 w16.heap.size 3 (by rw [hr56]; rfl) (by decide) (by rw [hr56]; simp [allU8_cons, allU8_nil, uh, uc, uf])
                  rw [hr56, strOf3] at hc62
                  go_simp
                  refine hK _ _ ?_
                  clear hK K
                  refine wpTill_run (i := 15) (by kernel_rfl) rfl o56 (fun K hK => ?_)
                  go_simp
                  go_at_call 152
                  with_reducible refine (signed_c x.vy _).mono ?_
                  rintro E w63 ⟨rfl, hb63⟩
                  have o63 := on_step (wd := wz) o56 hb63
                  refine hK _ _ ?_
                  clear hK K
                  refine wpTill_take (i := 16) (v := ?vq64) rfl (by kernel_rfl) (fun _ _ _ h => h) (Or.inl ⟨by rfl, ?hq64⟩) o63 ?rq64
                  case hq64 => (intro W hW; (try dsimp only at hW); go_simp; try with_reducible rfl)
                  simp only [Act.put, List.setIfInBounds_toArray, List.set_cons_zero, List.set_cons_succ]
                  refine wpTill_take (i := 25) (v := ?vq65) rfl (by kernel_rfl) (fun _ _ _ h => h) (Or.inl ⟨by rfl, ?hq65⟩) o63 ?rq65
                  case hq65 => (intro W hW; (try dsimp only at hW); go_simp; try with_reducible rfl)
                  simp only [Act.put, List.setIfInBounds_toArray, List.set_cons_zero, List.set_cons_succ]
                  refine wpTill_run (i := 26) (by kernel_rfl) rfl o63 (fun K hK => ?_)
                  go_simp
                  refine hK _ _ ?_
                  clear hK K
                  refine wpTill_done (by kernel_rfl) ?_
                  have HOZ := Lib.hid o63
                  go_wp2
                  go_roundw
                  case rel => exact ⟨k + 1, by omega, by go_num, by rw [HNX.out, HE.out], HGZ.out.trans (on_grown HOZ.out), bk_grown HBZ.out (on_grown HOZ.out) (by simp)⟩
                  case measure => simp [intOf]; omega
              · have hc66 := run_conv w54 w16.heap.size 3 (by rw [hr54]; rfl) (by decide) (by rw [hr54]; simp [allU8_cons, allU8_nil, uh, uc, uf])
                rw [hr54, strOf3] at hc66
                go_simp
                refine hK _ _ ?_
                clear hK K
                refine wpTill_run (i := 11) (by kernel_rfl) rfl o54 (fun K hK => ?_)
                go_simp
                go_at_call 152
                with_reducible refine (signed_c x.vx _).mono ?_
                rintro E w67 ⟨rfl, hb67⟩
                have o67 := on_step (wd := wz) o54 hb67
                refine hK _ _ ?_
                clear hK K
                refine wpTill_take (i := 12) (v := ?vq68) rfl (by kernel_rfl) (fun _ _ _ h => h) (Or.inl ⟨by rfl, ?hq68⟩) o67 ?rq68
                case hq68 => (intro W hW; (try dsimp only at hW); go_simp; try with_reducible rfl)
                simp only [Act.put, List.setIfInBounds_toArray, List.set_cons_zero, List.set_cons_succ]
                refine wpTill_run (i := 15) (by kernel_rfl) rfl o67 (fun K hK => ?_)
                go_simp
                go_at_call 152
                with_reducible refine (signed_c x.vy _).mono ?_
                rintro E w69 ⟨rfl, hb69⟩
                have o69 := on_step (wd := wz) o67 hb69
                refine hK _ _ ?_
                clear hK K
                refine wpTill_take (i := 16) (v := ?vq70) rfl (by kernel_rfl) (fun _ _ _ h => h) (Or.inl ⟨by rfl, ?hq70⟩) o69 ?rq70
                case hq70 => (intro W hW; (try dsimp only at hW); go_simp; try with_reducible rfl)
                simp only [Act.put, List.setIfInBounds_toArray, List.set_cons_zero, List.set_cons_succ]
                refine wpTill_take (i := 25) (v := ?vq71) rfl (by kernel_rfl) (fun _ _ _ h => h) (Or.inl ⟨by rfl, ?hq71⟩) o69 ?rq71
                case hq71 => (intro W hW; (try dsimp only at hW); go_simp; try with_reducible rfl)
                simp only [Act.put, List.setIfInBounds_toArray, List.set_cons_zero, List.set_cons_succ]
                refine wpTill_run (i := 26) (by kernel_rfl) rfl o69 (fun K hK => ?_)
                go_simp
                refine hK _ _ ?_
                clear hK K
                refine wpTill_done (by kernel_rfl) ?_
                have HOZ := Lib.hid o69
                go_wp2
                go_roundw
                case rel => exact ⟨k + 1, by omega, by go_num, by rw [HNX.out, HE.out], HGZ.out.trans (on_grown HOZ.out), bk_grown HBZ.out (on_grown HOZ.out) (by simp)⟩
                case measure => simp [intOf]; omega
            · have hc72 := run_conv (w16.alloc (.cells #[.int .u8 (x.h : Int), .int .u8 (x.c : Int), .int .u8 (x.f : Int)] 5)) w16.heap.size 3 (by rw [hr53]; rfl) (by decide) (by rw [hr53]; simp [allU8_cons, allU8_nil, uh, uc, uf])
              rw [hr53, strOf3] at hc72
              go_simp
              refine hK _ _ ?_
              clear hK K
              refine wpTill_run (i := 7) (by kernel_rfl) rfl o53 (fun K hK => ?_)
              go_simp
              go_at_call 152
              with_reducible refine (signed_c x.y _).mono ?_
              rintro E w73 ⟨rfl, hb73⟩
              have o73 := on_step (wd := wz) o53 hb73
              refine hK _ _ ?_
              clear hK K
              refine wpTill_take (i := 8) (v := ?vq74) rfl (by kernel_rfl) (fun _ _ _ h => h) (Or.inl ⟨by rfl, ?hq74⟩) o73 ?rq74
              case hq74 => (intro W hW; (try dsimp only at hW); go_simp; try with_reducible rfl)
              simp only [Act.put, List.setIfInBounds_toArray, List.set_cons_zero, List.set_cons_succ]
              refine wpTill_run (i := 11) (by kernel_rfl) rfl o73 (fun K hK => ?_)
              go_simp
              go_at_call 152
              with_reducible refine (signed_c x.vx _).mono ?_
              rintro E w75 ⟨rfl, hb75⟩
              have o75 := on_step (wd := wz) o73 hb75
              refine hK _ _ ?_
              clear hK K
              refine wpTill_take (i := 12) (v := ?vq76) rfl (by kernel_rfl) (fun _ _ _ h => h) (Or.inl ⟨by rfl, ?hq76⟩) o75 ?rq76
              case hq76 => (intro W hW; (try dsimp only at hW); go_simp; try with_reducible rfl)
              simp only [Act.put, List.setIfInBounds_toArray, List.set_cons_zero, List.set_cons_succ]
              refine wpTill_run (i := 15) (by kernel_rfl) rfl o75 (fun K hK => ?_)
              go_simp
              go_at_call 152
              with_reducible refine (signed_c x.vy _).mono ?_
              rintro E w77 ⟨rfl, hb77⟩
              have o77 := on_step (wd := wz) o75 hb77
              refine hK _ _ ?_
              clear hK K
              refine wpTill_take (i := 16) (v := ?vq78) rfl (by kernel_rfl) (fun _ _ _ h => h) (Or.inl ⟨by rfl, ?hq78⟩) o77 ?rq78
              case hq78 => (intro W hW; (try dsimp only at hW); go_simp; try with_reducible rfl)
              simp only [Act.put, List.setIfInBounds_toArray, List.set_cons_zero, List.set_cons_succ]
              refine wpTill_take (i := 25) (v := ?vq79) rfl (by kernel_rfl) (fun _ _ _ h => h) (Or.inl ⟨by rfl, ?hq79⟩) o77 ?rq79
              case hq79 => (intro W hW; (try dsimp only at hW); go_simp; try with_reducible rfl)
              simp only [Act.put, List.setIfInBounds_toArray, List.set_cons_zero, List.set_cons_succ]
              refine wpTill_run (i := 26) (by kernel_rfl) rfl o77 (fun K hK => ?_)
              go_simp
              refine hK _ _ ?_
              clear hK K
              refine wpTill_done (by kernel_rfl) ?_
              have HOZ := Lib.hid o77
              go_wp2
              go_roundw
              case rel => exact ⟨k + 1, by omega, by go_num, by rw [HNX.out, HE.out], HGZ.out.trans (on_grown HOZ.out), bk_grown HBZ.out (on_grown HOZ.out) (by simp)⟩
              case measure => simp [intOf]; omega
        · go_simp
          refine hK _ _ ?_
          clear hK K
          have o80 : On wz.heap.size wz (wz.alloc (.cells #[.int .u8 (x.h : Int), .int .u8 (x.c : Int), .int .u8 (x.f : Int)] 5)).drew := on_drewB (on_alloc o00)
          have hr80 : rowOf (wz.alloc (.cells #[.int .u8 (x.h : Int), .int .u8 (x.c : Int), .int .u8 (x.f : Int)] 5)).drew wz.heap.size = #[.int .u8 (x.h : Int), .int .u8 (x.c : Int), .int .u8 (x.f : Int)] := rowOf_cells (Cells.made wz _ _)
          have hl80 : wz.heap.size < (wz.alloc (.cells #[.int .u8 (x.h : Int), .int .u8 (x.c : Int), .int .u8 (x.f : Int)] 5)).drew.heap.size := Cells.lt (Cells.made wz 5 #[.int .u8 (x.h : Int), .int .u8 (x.c : Int), .int .u8 (x.f : Int)])
          refine wpTill_two (i := 3) (j := 24) (by kernel_rfl) rfl rfl o80 (fun K hK => ?_) (fun K hK => ?_)
          · go_simp
            go_at_call 152
            with_reducible refine (signed_c x.x _).mono ?_
            rintro E w81 ⟨rfl, hb81⟩
            have o81 := on_step (wd := wz) o80 hb81
            have hr81 : rowOf w81 wz.heap.size = #[.int .u8 (x.h : Int), .int .u8 (x.c : Int), .int .u8 (x.f : Int)] := by rw [keep_row hb81 _ hl80, hr80]
            have hl81 : wz.heap.size < w81.heap.size := keep_lt hb81 _ hl80
            refine hK _ _ ?_
            clear hK K
            refine wpTill_take (i := 4) (v := ?vq82) rfl (by kernel_rfl) (fun _ _ _ h => h) (Or.inl ⟨by rfl, ?hq82⟩) o81 ?rq82
            case hq82 => (intro W hW; (try dsimp only at hW); go_simp; try with_reducible rfl)
            simp only [Act.put, List.setIfInBounds_toArray, List.set_cons_zero, List.set_cons_succ]
            refine wpTill_two (i := 7) (j := 24) (by kernel_rfl) rfl rfl o81 (fun K hK => ?_) (fun K hK => ?_)
            · go_simp
              go_at_call 152
              with_reducible refine (signed_c x.y _).mono ?_
              rintro E w83 ⟨rfl, hb83⟩
              have o83 := on_step (wd := wz) o81 hb83
              have hr83 : rowOf w83 wz.heap.size = #[.int .u8 (x.h : Int), .int .u8 (x.c : Int), .int .u8 (x.f : Int)] := by rw [keep_row hb83 _ hl81, hr81]
              have hl83 : wz.heap.size < w83.heap.size := keep_lt hb83 _ hl81
              refine hK _ _ ?_
              clear hK K
              refine wpTill_take (i := 8) (v := ?vq84) rfl (by kernel_rfl) (fun _ _ _ h => h) (Or.inl ⟨by rfl, ?hq84⟩) o83 ?rq84
              case hq84 => (intro W hW; (try dsimp only at hW); go_simp; try with_reducible rfl)
              simp only [Act.put, List.setIfInBounds_toArray, List.set_cons_zero, List.set_cons_succ]
              refine wpTill_two (i := 11) (j := 24) (by kernel_rfl) rfl rfl o83 (fun K hK => ?_) (fun K hK => ?_)
              · go_simp
                go_at_call 152
                with_reducible refine (signed_c x.vx _).mono ?_
                rintro E w85 ⟨rfl, hb85⟩
                have o85 := on_step (wd := wz) o83 hb85
                have hr85 : rowOf w85 wz.heap.size = #[.int .u8 (x.h : Int), .int .u8 (x.c : Int), .int .u8 (x.f : Int)] := by rw [keep_row hb85 _ hl83, hr83]
                have hl85 : wz.heap.size < w85.heap.size := keep_lt hb85 _ hl83
                refine hK _ _ ?_
                clear hK K
                refine wpTill_take (i := 12) (v := ?vq86) rfl (by kernel_rfl) (fun _ _ _ h => h) (Or.inl ⟨by rfl, ?hq86⟩) o85 ?rq86
                case hq86 => (intro W hW; (try dsimp only at hW); go_simp; try with_reducible rfl)
                simp only [Act.put, List.setIfInBounds_toArray, List.set_cons_zero, List.set_cons_succ]
                refine wpTill_two (i := 15) (j := 24) (by kernel_rfl) rfl rfl o85 (fun K hK => ?_) (fun K hK => ?_)
                · go_simp
                  go_at_call 152
                  with_reducible refine (signed_c x.vy _).mono ?_
                  rintro E w87 ⟨rfl, hb87⟩
                  have o87 := on_step (wd := wz) o85 hb87
                  have hr87 : rowOf w87 wz.heap.size = #[.int .u8 (x.h : Int), .int .u8 (x.c : Int), .int .u8 (x.f : Int)] := by rw [keep_row hb87 _ hl85, hr85]
                  have hl87 : wz.heap.size < w87.heap.size := keep_lt hb87 _ hl85
                  refine hK _ _ ?_
                  clear hK K
                  refine wpTill_take (i := 16) (v := ?vq88) rfl (by kernel_rfl) (fun _ _ _ h => h) (Or.inl ⟨by rfl, ?hq88⟩) o87 ?rq88
                  case hq88 => (intro W hW; (try dsimp only at hW); go_simp; try with_reducible rfl)
                  simp only [Act.put, List.setIfInBounds_toArray, List.set_cons_zero, List.set_cons_succ]
                  refine wpTill_run (i := 24) (by kernel_rfl) rfl o87 (fun K hK => ?_)
                  have hc89 := run_conv w87 wz.heap.size 3 (by rw [hr87]; rfl) (by decide) (by rw [hr87]; simp [allU8_cons, allU8_nil, uh, uc, uf])
                  rw [hr87, strOf3] at hc89
                  go_simp
                  refine hK _ _ ?_
                  clear hK K
                  refine wpTill_take (i := 25) (v := ?vq90) rfl (by kernel_rfl) (fun _ _ _ h => h) (Or.inl ⟨by rfl, ?hq90⟩) o87 ?rq90
                  case hq90 => (intro W hW; (try dsimp only at hW); go_simp; try with_reducible rfl)
                  simp only [Act.put, List.setIfInBounds_toArray, List.set_cons_zero, List.set_cons_succ]
                  refine wpTill_run (i := 26) (by kernel_rfl) rfl o87 (fun K hK => ?_)
                  go_simp
                  refine hK _ _ ?_
                  clear hK K
                  refine wpTill_done (by kernel_rfl) ?_
                  have HOZ := Lib.hid o87
                  go_wp2
                  go_roundw
                  case rel => exact ⟨k + 1, by omega, by go_num, by rw [HNX.out, HE.out], HGZ.out.trans (on_grown HOZ.out), bk_grown HBZ.out (on_grown HOZ.out) (by simp)⟩
                  case measure => simp [intOf]; omega
                · have hc91 := run_conv w85 wz.heap.size 3 (by rw [hr85]; rfl) (by decide) (by rw [hr85]; simp [allU8_cons, allU8_nil, uh, uc, uf])
                  rw [hr85, strOf3] at hc91
                  go_simp
                  refine hK _ _ ?_
                  clear hK K
                  refine wpTill_run (i := 15) (by kernel_rfl) rfl o85 (fun K hK => ?_)
                  go_simp
                  go_at_call 152
                  with_reducible refine (signed_c x.vy _).mono ?_
                  rintro E w92 ⟨rfl, hb92⟩
                  have o92 := on_step (wd := wz) o85 hb92
                  refine hK _ _ ?_
                  clear hK K
                  refine wpTill_take (i := 16) (v := ?vq93) rfl (by kernel_rfl) (fun _ _ _ h => h) (Or.inl ⟨by rfl, ?hq93⟩) o92 ?rq93
                  case hq93 => (intro W hW; (try dsimp only at hW); go_simp; try with_reducible rfl)
                  simp only [Act.put, List.setIfInBounds_toArray, List.set_cons_zero, List.set_cons_succ]
                  refine wpTill_take (i := 25) (v := ?vq94) rfl (by kernel_rfl) (fun _ _ _ h => h) (Or.inl ⟨by rfl, ?hq94⟩) o92 ?rq94
                  case hq94 => (intro W hW; (try dsimp only at hW); go_simp; try with_reducible rfl)
                  simp only [Act.put, List.setIfInBounds_toArray, List.set_cons_zero, List.set_cons_succ]
                  refine wpTill_run (i := 26) (by kernel_rfl) rfl o92 (fun K hK => ?_)
                  go_simp
                  refine hK _ _ ?_
                  clear hK K
                  refine wpTill_done (by kernel_rfl) ?_
                  have HOZ := Lib.hid o92
                  go_wp2
                  go_roundw
                  case rel => exact ⟨k + 1, by omega, by go_num, by rw [HNX.out, HE.out], HGZ.out.trans (on_grown HOZ.out), bk_grown HBZ.out (on_grown HOZ.out) (by simp)⟩
                  case measure => simp [intOf]; omega
              · have hc95 := run_conv w83 wz.heap.size 3 (by rw [hr83]; rfl) (by decide) (by rw [hr83]; simp [allU8_cons, allU8_nil, uh, uc, uf])
                rw [hr83, strOf3] at hc95
                go_simp
                refine hK _ _ ?_
                clear hK K
                refine wpTill_run (i := 11) (by kernel_rfl) rfl o83 (fun K hK => ?_)
                go_simp
                go_at_call 152
                with_reducible refine (signed_c x.vx _).mono ?_
                rintro E w96 ⟨rfl, hb96⟩
                have o96 := on_step (wd := wz) o83 hb96
                refine hK _ _ ?_
                clear hK K
                refine wpTill_take (i := 12) (v := ?vq97) rfl (by kernel_rfl) (fun _ _ _ h => h) (Or.inl ⟨by rfl, ?hq97⟩) o96 ?rq97
                case hq97 => (intro W hW; (try dsimp only at hW); go_simp; try with_reducible rfl)
                simp only [Act.put, List.setIfInBounds_toArray, List.set_cons_zero, List.set_cons_succ]
                refine wpTill_run (i := 15) (by kernel_rfl) rfl o96 (fun K hK => ?_)
                go_simp
                go_at_call 152
                with_reducible refine (signed_c x.vy _).mono ?_
                rintro E w98 ⟨rfl, hb98⟩
                have o98 := on_step (wd := wz) o96 hb98
                refine hK _ _ ?_
                clear hK K
                refine wpTill_take (i := 16) (v := ?vq99) rfl (by kernel_rfl) (fun _ _ _ h => h) (Or.inl ⟨by rfl, ?hq99⟩) o98 ?rq99
                case hq99 => (intro W hW; (try dsimp only at hW); go_simp; try with_reducible rfl)
                simp only [Act.put, List.setIfInBounds_toArray, List.set_cons_zero, List.set_cons_succ]
                refine wpTill_take (i := 25) (v := ?vq100) rfl (by kernel_rfl) (fun _ _ _ h => h) (Or.inl ⟨by rfl, ?hq100⟩) o98 ?rq100
                case hq100 => (intro W hW; (try dsimp only at hW); go_simp; try with_reducible rfl)
                simp only [Act.put, List.setIfInBounds_toArray, List.set_cons_zero, List.set_cons_succ]
                refine wpTill_run (i := 26) (by kernel_rfl) rfl o98 (fun K hK => ?_)
                go_simp
                refine hK _ _ ?_
                clear hK K
                refine wpTill_done (by kernel_rfl) ?_
                have HOZ := Lib.hid o98
                go_wp2
                go_roundw
                case rel => exact ⟨k + 1, by omega, by go_num, by rw [HNX.out, HE.out], HGZ.out.trans (on_grown HOZ.out), bk_grown HBZ.out (on_grown HOZ.out) (by simp)⟩
                case measure => simp [intOf]; omega
            · have hc101 := run_conv w81 wz.heap.size 3 (by rw [hr81]; rfl) (by decide) (by rw [hr81]; simp [allU8_cons, allU8_nil, uh, uc, uf])
              rw [hr81, strOf3] at hc101
              go_simp
              refine hK _ _ ?_
              clear hK K
              refine wpTill_run (i := 7) (by kernel_rfl) rfl o81 (fun K hK => ?_)
              go_simp
              go_at_call 152
              with_reducible refine (signed_c x.y _).mono ?_
              rintro E w102 ⟨rfl, hb102⟩
              have o102 := on_step (wd := wz) o81 hb102
              refine hK _ _ ?_
              clear hK K
              refine wpTill_take (i := 8) (v := ?vq103) rfl (by kernel_rfl) (fun _ _ _ h => h) (Or.inl ⟨by rfl, ?hq103⟩) o102 ?rq103
              case hq103 => (intro W hW; (try dsimp only at hW); go_simp; try with_reducible rfl)
              simp only [Act.put, List.setIfInBounds_toArray, List.set_cons_zero, List.set_cons_succ]
              refine wpTill_run (i := 11) (by kernel_rfl) rfl o102 (fun K hK => ?_)
              go_simp
              go_at_call 152
              with_reducible refine (signed_c x.vx _).mono ?_
              rintro E w104 ⟨rfl, hb104⟩
              have o104 := on_step (wd := wz) o102 hb104
              refine hK _ _ ?_
              clear hK K
              refine wpTill_take (i := 12) (v := ?vq105) rfl (by kernel_rfl) (fun _ _ _ h => h) (Or.inl ⟨by rfl, ?hq105⟩) o104 ?rq105
              case hq105 => (intro W hW; (try dsimp only at hW); go_simp; try with_reducible rfl)
              simp only [Act.put, List.setIfInBounds_toArray, List.set_cons_zero, List.set_cons_succ]
              refine wpTill_run (i := 15) (by kernel_rfl) rfl o104 (fun K hK => ?_)
              go_simp
              go_at_call 152
              with_reducible refine (signed_c x.vy _).mono ?_
              rintro E w106 ⟨rfl, hb106⟩
              have o106 := on_step (wd := wz) o104 hb106
              refine hK _ _ ?_
              clear hK K
              refine wpTill_take (i := 16) (v := ?vq107) rfl (by kernel_rfl) (fun _ _ _ h => h) (Or.inl ⟨by rfl, ?hq107⟩) o106 ?rq107
              case hq107 => (intro W hW; (try dsimp only at hW); go_simp; try with_reducible rfl)
              simp only [Act.put, List.setIfInBounds_toArray, List.set_cons_zero, List.set_cons_succ]
              refine wpTill_take (i := 25) (v := ?vq108) rfl (by kernel_rfl) (fun _ _ _ h => h) (Or.inl ⟨by rfl, ?hq108⟩) o106 ?rq108
              case hq108 => (intro W hW; (try dsimp only at hW); go_simp; try with_reducible rfl)
              simp only [Act.put, List.setIfInBounds_toArray, List.set_cons_zero, List.set_cons_succ]
              refine wpTill_run (i := 26) (by kernel_rfl) rfl o106 (fun K hK => ?_)
              go_simp
              refine hK _ _ ?_
              clear hK K
              refine wpTill_done (by kernel_rfl) ?_
              have HOZ := Lib.hid o106
              go_wp2
              go_roundw
              case rel => exact ⟨k + 1, by omega, by go_num, by rw [HNX.out, HE.out], HGZ.out.trans (on_grown HOZ.out), bk_grown HBZ.out (on_grown HOZ.out) (by simp)⟩
              case measure => simp [intOf]; omega
          · have hc109 := run_conv (wz.alloc (.cells #[.int .u8 (x.h : Int), .int .u8 (x.c : Int), .int .u8 (x.f : Int)] 5)).drew wz.heap.size 3 (by rw [hr80]; rfl) (by decide) (by rw [hr80]; simp [allU8_cons, allU8_nil, uh, uc, uf])
            rw [hr80, strOf3] at hc109
            go_simp
            refine hK _ _ ?_
            clear hK K
            refine wpTill_run (i := 3) (by kernel_rfl) rfl o80 (fun K hK => ?_)
            go_simp
            go_at_call 152
            with_reducible refine (signed_c x.x _).mono ?_
            rintro E w110 ⟨rfl, hb110⟩
            have o110 := on_step (wd := wz) o80 hb110
            refine hK _ _ ?_
            clear hK K
            refine wpTill_take (i := 4) (v := ?vq111) rfl (by kernel_rfl) (fun _ _ _ h => h) (Or.inl ⟨by rfl, ?hq111⟩) o110 ?rq111
            case hq111 => (intro W hW; (try dsimp only at hW); go_simp; try with_reducible rfl)
            simp only [Act.put, List.setIfInBounds_toArray, List.set_cons_zero, List.set_cons_succ]
            refine wpTill_run (i := 7) (by kernel_rfl) rfl o110 (fun K hK => ?_)
            go_simp
            go_at_call 152
            with_reducible refine (signed_c x.y _).mono ?_
            rintro E w112 ⟨rfl, hb112⟩
            have o112 := on_step (wd := wz) o110 hb112
            refine hK _ _ ?_
            clear hK K
            refine wpTill_take (i := 8) (v := ?vq113) rfl (by kernel_rfl) (fun _ _ _ h => h) (Or.inl ⟨by rfl, ?hq113⟩) o112 ?rq113
            case hq113 => (intro W hW; (try dsimp only at hW); go_simp; try with_reducible rfl)
            simp only [Act.put, List.setIfInBounds_toArray, List.set_cons_zero, List.set_cons_succ]
            refine wpTill_run (i := 11) (by kernel_rfl) rfl o112 (fun K hK => ?_)
            go_simp
            go_at_call 152
            with_reducible refine (signed_c x.vx _).mono ?_
            rintro E w114 ⟨rfl, hb114⟩
            have o114 := on_step (wd := wz) o112 hb114
            refine hK _ _ ?_
            clear hK K
            refine wpTill_take (i := 12) (v := ?vq115) rfl (by kernel_rfl) (fun _ _ _ h => h) (Or.inl ⟨by rfl, ?hq115⟩) o114 ?rq115
            case hq115 => (intro W hW; (try dsimp only at hW); go_simp; try with_reducible rfl)
            simp only [Act.put, List.setIfInBounds_toArray, List.set_cons_zero, List.set_cons_succ]
            refine wpTill_run (i := 15) (by kernel_rfl) rfl o114 (fun K hK => ?_)
            go_simp
            go_at_call 152
            with_reducible refine (signed_c x.vy _).mono ?_
            rintro E w116 ⟨rfl, hb116⟩
            have o116 := on_step (wd := wz) o114 hb116
            refine hK _ _ ?_
            clear hK K
            refine wpTill_take (i := 16) (v := ?vq117) rfl (by kernel_rfl) (fun _ _ _ h => h) (Or.inl ⟨by rfl, ?hq117⟩) o116 ?rq117
            case hq117 => (intro W hW; (try dsimp only at hW); go_simp; try with_reducible rfl)
            simp only [Act.put, List.setIfInBounds_toArray, List.set_cons_zero, List.set_cons_succ]
            refine wpTill_take (i := 25) (v := ?vq118) rfl (by kernel_rfl) (fun _ _ _ h => h) (Or.inl ⟨by rfl, ?hq118⟩) o116 ?rq118
            case hq118 => (intro W hW; (try dsimp only at hW); go_simp; try with_reducible rfl)
            simp only [Act.put, List.setIfInBounds_toArray, List.set_cons_zero, List.set_cons_succ]
            refine wpTill_run (i := 26) (by kernel_rfl) rfl o116 (fun K hK => ?_)
            go_simp
            refine hK _ _ ?_
            clear hK K
            refine wpTill_done (by kernel_rfl) ?_
            have HOZ := Lib.hid o116
            go_wp2
            go_roundw
            case rel => exact ⟨k + 1, by omega, by go_num, by rw [HNX.out, HE.out], HGZ.out.trans (on_grown HOZ.out), bk_grown HBZ.out (on_grown HOZ.out) (by simp)⟩
            case measure => simp [intOf]; omega
      · have hk2 : k = 2 := by omega
        subst hk2
        clear hlt hk
        rw [show ((2 : Nat) : Int) = 2 from rfl]
        have hpe : h0 ++ pes ([s.p, s.q].take 2) = h0 ++ (pe s.p ++ pe s.q) := by simp [pes]
        obtain ⟨c0, c1, ⟨c2, c3, c4, c5, c6, c7, c8⟩, ⟨c9, c10, c11, c12, c13, c14, c15⟩, c16, c17, c18⟩ := bk_cells HBk.out
        clear c0 c1 c2 c3 c4 c5 c6 c7 c8 c9 c10 c11 c12 c13 c14 c15
        generalize h0 ++ pes ([s.p, s.q].take 2) = h1 at *
        have HH1 := Lib.hid hpe
        clear hpe
        go_wp2_with fail
        refine (refVar s.ss.length _ (by omega)).mono ?_
        rintro E wv ⟨rfl, hb9⟩
        have HWv := Lib.hid (HW.out.trans hb9)
        have HBv := Lib.hid (bk_grown HBk.out hb9 (by simp))
        have nv : ¬ (9223372036854775807 < (str h1).size + (str (vr s.ss.length)).size) := by have h9 := HLB.out; have h7 := HV.out.2; simp only [str_size]; omega
        have hsv : str h1 ++ str (vr s.ss.length) = str (h1 ++ vr s.ss.length) := str_append _ _
        have HLC : Hid ((h1 ++ vr s.ss.length).length ≤ 1020) := by show _ ≤ _; have h9 := HLB.out; have h7 := HV.out.2; rw [List.length_append]; omega
        clear hb9 c16 c17 c18 HW HBk HLB
        go_wp2
        generalize hh2 : h1 ++ vr s.ss.length = h2 at *
        have HH2 := Lib.hid hh2
        clear hh2
        go_loopw [3, 6] (fun t v wr => ∃ k : Nat, k ≤ s.ss.length ∧ v = .int .i64 k ∧ t = .string (str (h2 ++ hes (s.ss.take k))) ∧ Hid (w.grownBy wr none) ∧ Hid (Bk wr w.heap.size s ao cap)) (fun _ v _ => s.ss.length - (intOf v).toNat)
        case atStart => exact ⟨0, by omega, rfl, by simp [hes], HWv, HBv⟩
        case round =>
          obtain ⟨k, hk, rfl, rfl, HW, HBk⟩ := hrel
          have c16 := (bk_cells HBk.out).2.2.2.2.1
          have HLB : Hid ((h2 ++ hes (s.ss.take k)).length ≤ 1200) := by
            have h9 := HLC.out
            have h7 := hes_len (s.ss.take k)
            have h6 : (s.ss.take k).length ≤ 8 := by simp; omega
            show _ ≤ _
            rw [List.length_append]; omega
          clear HWv HBv
          by_cases hlt : k < s.ss.length
          · obtain ⟨hfx, b, o, hao, hc⟩ := Shs_grown HS.out HW.out (by simp) k hlt
            subst hao
            have d0 : wr.cell? ⟨b, o + k * 6, none⟩ = _ := hc 0 _ rfl
            have d1 := hc 1 _ rfl
            have d2 := hc 2 _ rfl
            have d3 := hc 3 _ rfl
            have d4 := hc 4 _ rfl
            have d5 := hc 5 _ rfl
            have HF1 := Lib.hid hfx
            have HNX : Hid (h2 ++ hes (s.ss.take (k + 1)) = h2 ++ hes (s.ss.take k) ++ he (s.ss[k]'hlt)) := by show _ = _; rw [List.take_succ_eq_append_getElem hlt]; simp only [hes, List.flatMap_append, List.flatMap_cons, List.flatMap_nil, List.append_nil, List.append_assoc]
            have hki : (k : Int) < (s.ss.length : Int) := by omega
            clear hfx hc
            generalize h2 ++ hes (s.ss.take k) = bb at *
            generalize (s.ss[k]'hlt) = x at *
            have HBZ0 := Lib.hid (bk_grown HBk.out (grown_alloc wr (.cells #[.int .i32 x.x, .int .i32 x.y, .int .i32 x.vx, .int .i32 x.vy, .int .u8 (x.o : Int), .int .u8 (x.l : Int)] 98)) (by simp))
            have HGZ0 := Lib.hid (HW.out.trans (grown_alloc wr (.cells #[.int .i32 x.x, .int .i32 x.y, .int .i32 x.vx, .int .i32 x.vy, .int .u8 (x.o : Int), .int .u8 (x.l : Int)] 98)))
            clear HW HBk
            go_wp2_with fail
            have HBX := Lib.hid (Cells.made wr 98 #[.int .i32 x.x, .int .i32 x.y, .int .i32 x.vx, .int .i32 x.vy, .int .u8 (x.o : Int), .int .u8 (x.l : Int)])
            have HE : Hid (str (bb ++ he x) = str bb ++ str (le 4 (un32 x.x)) ++ str (le 4 (un32 x.y)) ++ str (le 4 (un32 x.vx)) ++ str (le 4 (un32 x.vy)) ++ str [UInt8.ofNat x.o, UInt8.ofNat x.l]) := by
              show _ = _
              obtain ⟨_, _, _, _, q1, q2⟩ := HF1.out
              simp [str_append, he, Sh.raw, enM, eN, wd, le, Nat.mod_eq_of_lt q1, Nat.mod_eq_of_lt q2]
            have HBZ := HBZ0
            have HGZ := HGZ0
            clear HBZ0 HGZ0
            generalize wr.alloc (.cells #[.int .i32 x.x, .int .i32 x.y, .int .i32 x.vx, .int .i32 x.vy, .int .u8 (x.o : Int), .int .u8 (x.l : Int)] 98) = wz at *
            have a0 := on_cell (B := wz.heap.size) (t := 98) HBX.out HBX.out.lt 0 rfl
            have a1 := on_cell (B := wz.heap.size) (t := 98) HBX.out HBX.out.lt 1 rfl
            have a2 := on_cell (B := wz.heap.size) (t := 98) HBX.out HBX.out.lt 2 rfl
            have a3 := on_cell (B := wz.heap.size) (t := 98) HBX.out HBX.out.lt 3 rfl
            have a4 := on_cell (B := wz.heap.size) (t := 98) HBX.out HBX.out.lt 4 rfl
            have a5 := on_cell (B := wz.heap.size) (t := 98) HBX.out HBX.out.lt 5 rfl
            have n0 : ¬ (9223372036854775807 < (str bb).size + (str (le 4 (un32 x.x))).size) := by have := HLB.out; simp only [str_size, le_length, List.length_cons, List.length_nil]; omega
            have n1 : ¬ (9223372036854775807 < (str bb).size + (str (le 4 (un32 x.x))).size + (str (le 4 (un32 x.y))).size) := by have := HLB.out; simp only [str_size, le_length, List.length_cons, List.length_nil]; omega
            have n2 : ¬ (9223372036854775807 < (str bb).size + (str (le 4 (un32 x.x))).size + (str (le 4 (un32 x.y))).size + (str (le 4 (un32 x.vx))).size) := by have := HLB.out; simp only [str_size, le_length, List.length_cons, List.length_nil]; omega
            have n3 : ¬ (9223372036854775807 < (str bb).size + (str (le 4 (un32 x.x))).size + (str (le 4 (un32 x.y))).size + (str (le 4 (un32 x.vx))).size + (str (le 4 (un32 x.vy))).size) := by have := HLB.out; simp only [str_size, le_length, List.length_cons, List.length_nil]; omega
            have n4 : ¬ (9223372036854775807 < (str bb).size + (str (le 4 (un32 x.x))).size + (str (le 4 (un32 x.y))).size + (str (le 4 (un32 x.vx))).size + (str (le 4 (un32 x.vy))).size + (str [UInt8.ofNat x.o, UInt8.ofNat x.l]).size) := by have := HLB.out; simp only [str_size, le_length, List.length_cons, List.length_nil]; omega
            have o0 := On.drew wz.heap.size wz
            have o00 := On.refl wz.heap.size wz
            have uo : x.o < 256 := HF1.out.2.2.2.2.1
            have ul : x.l < 256 := HF1.out.2.2.2.2.2
            refine wp_region_till (S := fun w' => On wz.heap.size wz w') (by kernel_rfl) ?_
            refine wpTill_take (i := 0) (v := ?vq119) rfl (by kernel_rfl) (fun _ _ _ h => h) (Or.inl ⟨by rfl, ?hq119⟩) o0 ?rq119
            case hq119 => (intro W hW; (try dsimp only at hW); go_simp; try with_reducible rfl)
            simp only [Act.put, List.setIfInBounds_toArray, List.set_cons_zero, List.set_cons_succ]
            refine wpTill_take (i := 1) (v := ?vq120) rfl (by kernel_rfl) (fun _ _ _ h => h) (Or.inl ⟨by rfl, ?hq120⟩) o0 ?rq120
            case hq120 => (intro W hW; (try dsimp only at hW); go_simp; try with_reducible rfl)
            simp only [Act.put, List.setIfInBounds_toArray, List.set_cons_zero, List.set_cons_succ]
            refine wpTill_take (i := 2) (v := ?vq121) rfl (by kernel_rfl) (fun _ _ _ h => h) (Or.inl ⟨by rfl, ?hq121⟩) o0 ?rq121
            case hq121 => (intro W hW; (try dsimp only at hW); go_simp; try with_reducible rfl)
            simp only [Act.put, List.setIfInBounds_toArray, List.set_cons_zero, List.set_cons_succ]
            refine wpTill_take (i := 5) (v := ?vq122) rfl (by kernel_rfl) (fun _ _ _ h => h) (Or.inl ⟨by rfl, ?hq122⟩) o0 ?rq122
            case hq122 => (intro W hW; (try dsimp only at hW); go_simp; try with_reducible rfl)
            simp only [Act.put, List.setIfInBounds_toArray, List.set_cons_zero, List.set_cons_succ]
            refine wpTill_take (i := 6) (v := ?vq123) rfl (by kernel_rfl) (fun _ _ _ h => h) (Or.inl ⟨by rfl, ?hq123⟩) o0 ?rq123
            case hq123 => (intro W hW; (try dsimp only at hW); go_simp; try with_reducible rfl)
            simp only [Act.put, List.setIfInBounds_toArray, List.set_cons_zero, List.set_cons_succ]
            refine wpTill_take (i := 9) (v := ?vq124) rfl (by kernel_rfl) (fun _ _ _ h => h) (Or.inl ⟨by rfl, ?hq124⟩) o0 ?rq124
            case hq124 => (intro W hW; (try dsimp only at hW); go_simp; try with_reducible rfl)
            simp only [Act.put, List.setIfInBounds_toArray, List.set_cons_zero, List.set_cons_succ]
            refine wpTill_take (i := 10) (v := ?vq125) rfl (by kernel_rfl) (fun _ _ _ h => h) (Or.inl ⟨by rfl, ?hq125⟩) o0 ?rq125
            case hq125 => (intro W hW; (try dsimp only at hW); go_simp; try with_reducible rfl)
            simp only [Act.put, List.setIfInBounds_toArray, List.set_cons_zero, List.set_cons_succ]
            refine wpTill_take (i := 13) (v := ?vq126) rfl (by kernel_rfl) (fun _ _ _ h => h) (Or.inl ⟨by rfl, ?hq126⟩) o0 ?rq126
            case hq126 => (intro W hW; (try dsimp only at hW); go_simp; try with_reducible rfl)
            simp only [Act.put, List.setIfInBounds_toArray, List.set_cons_zero, List.set_cons_succ]
            refine wpTill_take (i := 14) (v := ?vq127) rfl (by kernel_rfl) (fun _ _ _ h => h) (Or.inl ⟨by rfl, ?hq127⟩) o0 ?rq127
            case hq127 => (intro W hW; (try dsimp only at hW); go_simp; try with_reducible rfl)
            simp only [Act.put, List.setIfInBounds_toArray, List.set_cons_zero, List.set_cons_succ]
            refine wpTill_take (i := 17) (v := ?vq128) rfl (by kernel_rfl) (fun _ _ _ h => h) (Or.inl ⟨by rfl, ?hq128⟩) o0 ?rq128
            case hq128 => (intro W hW; (try dsimp only at hW); go_simp; try with_reducible rfl)
            simp only [Act.put, List.setIfInBounds_toArray, List.set_cons_zero, List.set_cons_succ]
            refine wpTill_take (i := 18) (v := ?vq129) rfl (by kernel_rfl) (fun _ _ _ h => h) (Or.inl ⟨by rfl, ?hq129⟩) o0 ?rq129
            case hq129 => (intro W hW; (try dsimp only at hW); go_simp; try with_reducible rfl)
            simp only [Act.put, List.setIfInBounds_toArray, List.set_cons_zero, List.set_cons_succ]
            refine wpTill_take (i := 19) (v := ?vq130) rfl (by kernel_rfl) (fun _ _ _ h => h) (Or.inl ⟨by rfl, ?hq130⟩) o0 ?rq130
            case hq130 => (intro W hW; (try dsimp only at hW); go_simp; try with_reducible rfl)
            simp only [Act.put, List.setIfInBounds_toArray, List.set_cons_zero, List.set_cons_succ]
            refine wpTill_take (i := 20) (v := ?vq131) rfl (by kernel_rfl) (fun _ _ _ h => h) (Or.inl ⟨by rfl, ?hq131⟩) o0 ?rq131
            case hq131 => (intro W hW; (try dsimp only at hW); go_simp; try with_reducible rfl)
            simp only [Act.put, List.setIfInBounds_toArray, List.set_cons_zero, List.set_cons_succ]
            refine wpTill_two (i := 3) (j := 21) (by kernel_rfl) rfl rfl o0 (fun K hK => ?_) (fun K hK => ?_)
            · go_simp
              go_at_call 152
              with_reducible refine (signed_c x.x _).mono ?_
              rintro E w132 ⟨rfl, hb132⟩
              have o132 := on_step (wd := wz) o0 hb132
              refine hK _ _ ?_
              clear hK K
              refine wpTill_take (i := 4) (v := ?vq133) rfl (by kernel_rfl) (fun _ _ _ h => h) (Or.inl ⟨by rfl, ?hq133⟩) o132 ?rq133
              case hq133 => (intro W hW; (try dsimp only at hW); go_simp; try with_reducible rfl)
              simp only [Act.put, List.setIfInBounds_toArray, List.set_cons_zero, List.set_cons_succ]
              refine wpTill_two (i := 7) (j := 21) (by kernel_rfl) rfl rfl o132 (fun K hK => ?_) (fun K hK => ?_)
              · go_simp
                go_at_call 152
                with_reducible refine (signed_c x.y _).mono ?_
                rintro E w134 ⟨rfl, hb134⟩
                have o134 := on_step (wd := wz) o132 hb134
                refine hK _ _ ?_
                clear hK K
                refine wpTill_take (i := 8) (v := ?vq135) rfl (by kernel_rfl) (fun _ _ _ h => h) (Or.inl ⟨by rfl, ?hq135⟩) o134 ?rq135
                case hq135 => (intro W hW; (try dsimp only at hW); go_simp; try with_reducible rfl)
                simp only [Act.put, List.setIfInBounds_toArray, List.set_cons_zero, List.set_cons_succ]
                refine wpTill_two (i := 11) (j := 21) (by kernel_rfl) rfl rfl o134 (fun K hK => ?_) (fun K hK => ?_)
                · go_simp
                  go_at_call 152
                  with_reducible refine (signed_c x.vx _).mono ?_
                  rintro E w136 ⟨rfl, hb136⟩
                  have o136 := on_step (wd := wz) o134 hb136
                  refine hK _ _ ?_
                  clear hK K
                  refine wpTill_take (i := 12) (v := ?vq137) rfl (by kernel_rfl) (fun _ _ _ h => h) (Or.inl ⟨by rfl, ?hq137⟩) o136 ?rq137
                  case hq137 => (intro W hW; (try dsimp only at hW); go_simp; try with_reducible rfl)
                  simp only [Act.put, List.setIfInBounds_toArray, List.set_cons_zero, List.set_cons_succ]
                  refine wpTill_two (i := 15) (j := 21) (by kernel_rfl) rfl rfl o136 (fun K hK => ?_) (fun K hK => ?_)
                  · go_simp
                    go_at_call 152
                    with_reducible refine (signed_c x.vy _).mono ?_
                    rintro E w138 ⟨rfl, hb138⟩
                    have o138 := on_step (wd := wz) o136 hb138
                    refine hK _ _ ?_
                    clear hK K
                    refine wpTill_take (i := 16) (v := ?vq139) rfl (by kernel_rfl) (fun _ _ _ h => h) (Or.inl ⟨by rfl, ?hq139⟩) o138 ?rq139
                    case hq139 => (intro W hW; (try dsimp only at hW); go_simp; try with_reducible rfl)
                    simp only [Act.put, List.setIfInBounds_toArray, List.set_cons_zero, List.set_cons_succ]
                    refine wpTill_run (i := 21) (by kernel_rfl) rfl o138 (fun K hK => ?_)
                    go_simp
                    refine hK _ _ ?_
                    clear hK K
                    have o140 : On wz.heap.size wz (w138.alloc (.cells #[.int .u8 (x.o : Int), .int .u8 (x.l : Int)] 5)) := on_alloc o138
                    have hr140 : rowOf (w138.alloc (.cells #[.int .u8 (x.o : Int), .int .u8 (x.l : Int)] 5)) w138.heap.size = #[.int .u8 (x.o : Int), .int .u8 (x.l : Int)] := rowOf_cells (Cells.made w138 _ _)
                    have hl140 : w138.heap.size < (w138.alloc (.cells #[.int .u8 (x.o : Int), .int .u8 (x.l : Int)] 5)).heap.size := Cells.lt (Cells.made w138 5 #[.int .u8 (x.o : Int), .int .u8 (x.l : Int)])
                    refine wpTill_run (i := 22) (by kernel_rfl) rfl o140 (fun K hK => ?_)
                    have hc141 := run_conv (w138.alloc (.cells #[.int .u8 (x.o : Int), .int .u8 (x.l : Int)] 5)) w138.heap.size 2 (by rw [hr140]; rfl) (by decide) (by rw [hr140]; simp [allU8_cons, allU8_nil, uo, ul])
                    rw [hr140, strOf2] at hc141
                    go_simp
                    refine hK _ _ ?_
                    clear hK K
                    refine wpTill_take (i := 23) (v := ?vq142) rfl (by kernel_rfl) (fun _ _ _ h => h) (Or.inl ⟨by rfl, ?hq142⟩) o140 ?rq142
                    case hq142 => (intro W hW; (try dsimp only at hW); go_simp; try with_reducible rfl)
                    simp only [Act.put, List.setIfInBounds_toArray, List.set_cons_zero, List.set_cons_succ]
                    refine wpTill_run (i := 24) (by kernel_rfl) rfl o140 (fun K hK => ?_)
                    go_simp
                    refine hK _ _ ?_
                    clear hK K
                    refine wpTill_done (by kernel_rfl) ?_
                    have HOZ := Lib.hid o140
                    go_wp2
                    go_roundw
                    case rel => exact ⟨k + 1, by omega, by go_num, by rw [HNX.out, HE.out], HGZ.out.trans (on_grown HOZ.out), bk_grown HBZ.out (on_grown HOZ.out) (by simp)⟩
                    case measure => simp [intOf]; omega
                  · go_simp
                    refine hK _ _ ?_
                    clear hK K
                    have o143 : On wz.heap.size wz (w136.alloc (.cells #[.int .u8 (x.o : Int), .int .u8 (x.l : Int)] 5)) := on_alloc o136
                    have hr143 : rowOf (w136.alloc (.cells #[.int .u8 (x.o : Int), .int .u8 (x.l : Int)] 5)) w136.heap.size = #[.int .u8 (x.o : Int), .int .u8 (x.l : Int)] := rowOf_cells (Cells.made w136 _ _)
                    have hl143 : w136.heap.size < (w136.alloc (.cells #[.int .u8 (x.o : Int), .int .u8 (x.l : Int)] 5)).heap.size := Cells.lt (Cells.made w136 5 #[.int .u8 (x.o : Int), .int .u8 (x.l : Int)])
                    refine wpTill_two (i := 15) (j := 22) (by kernel_rfl) rfl rfl o143 (fun K hK => ?_) (fun K hK => ?_)
                    · go_simp
                      go_at_call 152
                      with_reducible refine (signed_c x.vy _).mono ?_
                      rintro E w144 ⟨rfl, hb144⟩
                      have o144 := on_step (wd := wz) o143 hb144
                      have hr144 : rowOf w144 w136.heap.size = #[.int .u8 (x.o : Int), .int .u8 (x.l : Int)] := by rw [keep_row hb144 _ hl143, hr143]
                      have hl144 : w136.heap.size < w144.heap.size := keep_lt hb144 _ hl143
                      refine hK _ _ ?_
                      clear hK K
                      refine wpTill_take (i := 16) (v := ?vq145) rfl (by kernel_rfl) (fun _ _ _ h => h) (Or.inl ⟨by rfl, ?hq145⟩) o144 ?rq145
                      case hq145 => (intro W hW; (try dsimp only at hW); go_simp; try with_reducible rfl)
                      simp only [Act.put, List.setIfInBounds_toArray, List.set_cons_zero, List.set_cons_succ]
                      refine wpTill_run (i := 22) (by kernel_rfl) rfl o144 (fun K hK => ?_)
                      have hc146 := run_conv w144 w136.heap.size 2 (by rw [hr144]; rfl) (by decide) (by rw [hr144]; simp [allU8_cons, allU8_nil, uo, ul])
                      rw [hr144, strOf2] at hc146
                      go_simp
                      refine hK _ _ ?_
                      clear hK K
                      refine wpTill_take (i := 23) (v := ?vq147) rfl (by kernel_rfl) (fun _ _ _ h => h) (Or.inl ⟨by rfl, ?hq147⟩) o144 ?rq147
                      case hq147 => (intro W hW; (try dsimp only at hW); go_simp; try with_reducible rfl)
                      simp only [Act.put, List.setIfInBounds_toArray, List.set_cons_zero, List.set_cons_succ]
                      refine wpTill_run (i := 24) (by kernel_rfl) rfl o144 (fun K hK => ?_)
                      go_simp
                      refine hK _ _ ?_
                      clear hK K
                      refine wpTill_done (by kernel_rfl) ?_
                      have HOZ := Lib.hid o144
                      go_wp2
                      go_roundw
                      case rel => exact ⟨k + 1, by omega, by go_num, by rw [HNX.out, HE.out], HGZ.out.trans (on_grown HOZ.out), bk_grown HBZ.out (on_grown HOZ.out) (by simp)⟩
                      case measure => simp [intOf]; omega
                    · have hc148 := run_conv (w136.alloc (.cells #[.int .u8 (x.o : Int), .int .u8 (x.l : Int)] 5)) w136.heap.size 2 (by rw [hr143]; rfl) (by decide) (by rw [hr143]; simp [allU8_cons, allU8_nil, uo, ul])
                      rw [hr143, strOf2] at hc148
                      go_simp
                      refine hK _ _ ?_
                      clear hK K
                      refine wpTill_run (i := 15) (by kernel_rfl) rfl o143 (fun K hK => ?_)
                      go_simp
                      go_at_call 152
                      with_reducible refine (signed_c x.vy _).mono ?_
                      rintro E w149 ⟨rfl, hb149⟩
                      have o149 := on_step (wd := wz) o143 hb149
                      refine hK _ _ ?_
                      clear hK K
                      refine wpTill_take (i := 16) (v := ?vq150) rfl (by kernel_rfl) (fun _ _ _ h => h) (Or.inl ⟨by rfl, ?hq150⟩) o149 ?rq150
                      case hq150 => (intro W hW; (try dsimp only at hW); go_simp; try with_reducible rfl)
                      simp only [Act.put, List.setIfInBounds_toArray, List.set_cons_zero, List.set_cons_succ]
                      refine wpTill_take (i := 23) (v := ?vq151) rfl (by kernel_rfl) (fun _ _ _ h => h) (Or.inl ⟨by rfl, ?hq151⟩) o149 ?rq151
                      case hq151 => (intro W hW; (try dsimp only at hW); go_simp; try with_reducible rfl)
                      simp only [Act.put, List.setIfInBounds_toArray, List.set_cons_zero, List.set_cons_succ]
                      refine wpTill_run (i := 24) (by kernel_rfl) rfl o149 (fun K hK => ?_)
                      go_simp
                      refine hK _ _ ?_
                      clear hK K
                      refine wpTill_done (by kernel_rfl) ?_
                      have HOZ := Lib.hid o149
                      go_wp2
                      go_roundw
                      case rel => exact ⟨k + 1, by omega, by go_num, by rw [HNX.out, HE.out], HGZ.out.trans (on_grown HOZ.out), bk_grown HBZ.out (on_grown HOZ.out) (by simp)⟩
                      case measure => simp [intOf]; omega
                · go_simp
                  refine hK _ _ ?_
                  clear hK K
                  have o152 : On wz.heap.size wz (w134.alloc (.cells #[.int .u8 (x.o : Int), .int .u8 (x.l : Int)] 5)) := on_alloc o134
                  have hr152 : rowOf (w134.alloc (.cells #[.int .u8 (x.o : Int), .int .u8 (x.l : Int)] 5)) w134.heap.size = #[.int .u8 (x.o : Int), .int .u8 (x.l : Int)] := rowOf_cells (Cells.made w134 _ _)
                  have hl152 : w134.heap.size < (w134.alloc (.cells #[.int .u8 (x.o : Int), .int .u8 (x.l : Int)] 5)).heap.size := Cells.lt (Cells.made w134 5 #[.int .u8 (x.o : Int), .int .u8 (x.l : Int)])
                  refine wpTill_two (i := 11) (j := 22) (by kernel_rfl) rfl rfl o152 (fun K hK => ?_) (fun K hK => ?_)
                  · go_simp
                    go_at_call 152
                    with_reducible refine (signed_c x.vx _).mono ?_
                    rintro E w153 ⟨rfl, hb153⟩
                    have o153 := on_step (wd := wz) o152 hb153
                    have hr153 : rowOf w153 w134.heap.size = #[.int .u8 (x.o : Int), .int .u8 (x.l : Int)] := by rw [keep_row hb153 _ hl152, hr152]
                    have hl153 : w134.heap.size < w153.heap.size := keep_lt hb153 _ hl152
                    refine hK _ _ ?_
                    clear hK K
                    refine wpTill_take (i := 12) (v := ?vq154) rfl (by kernel_rfl) (fun _ _ _ h => h) (Or.inl ⟨by rfl, ?hq154⟩) o153 ?rq154
                    case hq154 => (intro W hW; (try dsimp only at hW); go_simp; try with_reducible rfl)
                    simp only [Act.put, List.setIfInBounds_toArray, List.set_cons_zero, List.set_cons_succ]
                    refine wpTill_two (i := 15) (j := 22) (by kernel_rfl) rfl rfl o153 (fun K hK => ?_) (fun K hK => ?_)
                    · go_simp
                      go_at_call 152
                      with_reducible refine (signed_c x.vy _).mono ?_
                      rintro E w155 ⟨rfl, hb155⟩
                      have o155 := on_step (wd := wz) o153 hb155
                      have hr155 : rowOf w155 w134.heap.size = #[.int .u8 (x.o : Int), .int .u8 (x.l : Int)] := by rw [keep_row hb155 _ hl153, hr153]
                      have hl155 : w134.heap.size < w155.heap.size := keep_lt hb155 _ hl153
                      refine hK _ _ ?_
                      clear hK K
                      refine wpTill_take (i := 16) (v := ?vq156) rfl (by kernel_rfl) (fun _ _ _ h => h) (Or.inl ⟨by rfl, ?hq156⟩) o155 ?rq156
                      case hq156 => (intro W hW; (try dsimp only at hW); go_simp; try with_reducible rfl)
                      simp only [Act.put, List.setIfInBounds_toArray, List.set_cons_zero, List.set_cons_succ]
                      refine wpTill_run (i := 22) (by kernel_rfl) rfl o155 (fun K hK => ?_)
                      have hc157 := run_conv w155 w134.heap.size 2 (by rw [hr155]; rfl) (by decide) (by rw [hr155]; simp [allU8_cons, allU8_nil, uo, ul])
                      rw [hr155, strOf2] at hc157
                      go_simp
                      refine hK _ _ ?_
                      clear hK K
                      refine wpTill_take (i := 23) (v := ?vq158) rfl (by kernel_rfl) (fun _ _ _ h => h) (Or.inl ⟨by rfl, ?hq158⟩) o155 ?rq158
                      case hq158 => (intro W hW; (try dsimp only at hW); go_simp; try with_reducible rfl)
                      simp only [Act.put, List.setIfInBounds_toArray, List.set_cons_zero, List.set_cons_succ]
                      refine wpTill_run (i := 24) (by kernel_rfl) rfl o155 (fun K hK => ?_)
                      go_simp
                      refine hK _ _ ?_
                      clear hK K
                      refine wpTill_done (by kernel_rfl) ?_
                      have HOZ := Lib.hid o155
                      go_wp2
                      go_roundw
                      case rel => exact ⟨k + 1, by omega, by go_num, by rw [HNX.out, HE.out], HGZ.out.trans (on_grown HOZ.out), bk_grown HBZ.out (on_grown HOZ.out) (by simp)⟩
                      case measure => simp [intOf]; omega
                    · have hc159 := run_conv w153 w134.heap.size 2 (by rw [hr153]; rfl) (by decide) (by rw [hr153]; simp [allU8_cons, allU8_nil, uo, ul])
                      rw [hr153, strOf2] at hc159
                      go_simp
                      refine hK _ _ ?_
                      clear hK K
                      refine wpTill_run (i := 15) (by kernel_rfl) rfl o153 (fun K hK => ?_)
                      go_simp
                      go_at_call 152
                      with_reducible refine (signed_c x.vy _).mono ?_
                      rintro E w160 ⟨rfl, hb160⟩
                      have o160 := on_step (wd := wz) o153 hb160
                      refine hK _ _ ?_
                      clear hK K
                      refine wpTill_take (i := 16) (v := ?vq161) rfl (by kernel_rfl) (fun _ _ _ h => h) (Or.inl ⟨by rfl, ?hq161⟩) o160 ?rq161
                      case hq161 => (intro W hW; (try dsimp only at hW); go_simp; try with_reducible rfl)
                      simp only [Act.put, List.setIfInBounds_toArray, List.set_cons_zero, List.set_cons_succ]
                      refine wpTill_take (i := 23) (v := ?vq162) rfl (by kernel_rfl) (fun _ _ _ h => h) (Or.inl ⟨by rfl, ?hq162⟩) o160 ?rq162
                      case hq162 => (intro W hW; (try dsimp only at hW); go_simp; try with_reducible rfl)
                      simp only [Act.put, List.setIfInBounds_toArray, List.set_cons_zero, List.set_cons_succ]
                      refine wpTill_run (i := 24) (by kernel_rfl) rfl o160 (fun K hK => ?_)
                      go_simp
                      refine hK _ _ ?_
                      clear hK K
                      refine wpTill_done (by kernel_rfl) ?_
                      have HOZ := Lib.hid o160
                      go_wp2
                      go_roundw
                      case rel => exact ⟨k + 1, by omega, by go_num, by rw [HNX.out, HE.out], HGZ.out.trans (on_grown HOZ.out), bk_grown HBZ.out (on_grown HOZ.out) (by simp)⟩
                      case measure => simp [intOf]; omega
                  · have hc163 := run_conv (w134.alloc (.cells #[.int .u8 (x.o : Int), .int .u8 (x.l : Int)] 5)) w134.heap.size 2 (by rw [hr152]; rfl) (by decide) (by rw [hr152]; simp [allU8_cons, allU8_nil, uo, ul])
                    rw [hr152, strOf2] at hc163
                    go_simp
                    refine hK _ _ ?_
                    clear hK K
                    refine wpTill_run (i := 11) (by kernel_rfl) rfl o152 (fun K hK => ?_)
                    go_simp
                    go_at_call 152
                    with_reducible refine (signed_c x.vx _).mono ?_
                    rintro E w164 ⟨rfl, hb164⟩
                    have o164 := on_step (wd := wz) o152 hb164
                    refine hK _ _ ?_
                    clear hK K
                    refine wpTill_take (i := 12) (v := ?vq165) rfl (by kernel_rfl) (fun _ _ _ h => h) (Or.inl ⟨by rfl, ?hq165⟩) o164 ?rq165
                    case hq165 => (intro W hW; (try dsimp only at hW); go_simp; try with_reducible rfl)
                    simp only [Act.put, List.setIfInBounds_toArray, List.set_cons_zero, List.set_cons_succ]
                    refine wpTill_run (i := 15) (by kernel_rfl) rfl o164 (fun K hK => ?_)
                    go_simp
                    go_at_call 152
                    with_reducible refine (signed_c x.vy _).mono ?_
                    rintro E w166 ⟨rfl, hb166⟩
                    have o166 := on_step (wd := wz) o164 hb166
                    refine hK _ _ ?_
                    clear hK K
                    refine wpTill_take (i := 16) (v := ?vq167) rfl (by kernel_rfl) (fun _ _ _ h => h) (Or.inl ⟨by rfl, ?hq167⟩) o166 ?rq167
                    case hq167 => (intro W hW; (try dsimp only at hW); go_simp; try with_reducible rfl)
                    simp only [Act.put, List.setIfInBounds_toArray, List.set_cons_zero, List.set_cons_succ]
                    refine wpTill_take (i := 23) (v := ?vq168) rfl (by kernel_rfl) (fun _ _ _ h => h) (Or.inl ⟨by rfl, ?hq168⟩) o166 ?rq168
                    case hq168 => (intro W hW; (try dsimp only at hW); go_simp; try with_reducible rfl)
                    simp only [Act.put, List.setIfInBounds_toArray, List.set_cons_zero, List.set_cons_succ]
                    refine wpTill_run (i := 24) (by kernel_rfl) rfl o166 (fun K hK => ?_)
                    go_simp
                    refine hK _ _ ?_
                    clear hK K
                    refine wpTill_done (by kernel_rfl) ?_
                    have HOZ := Lib.hid o166
                    go_wp2
                    go_roundw
                    case rel => exact ⟨k + 1, by omega, by go_num, by rw [HNX.out, HE.out], HGZ.out.trans (on_grown HOZ.out), bk_grown HBZ.out (on_grown HOZ.out) (by simp)⟩
                    case measure => simp [intOf]; omega
              · go_simp
                refine hK _ _ ?_
                clear hK K
                have o169 : On wz.heap.size wz (w132.alloc (.cells #[.int .u8 (x.o : Int), .int .u8 (x.l : Int)] 5)) := on_alloc o132
                have hr169 : rowOf (w132.alloc (.cells #[.int .u8 (x.o : Int), .int .u8 (x.l : Int)] 5)) w132.heap.size = #[.int .u8 (x.o : Int), .int .u8 (x.l : Int)] := rowOf_cells (Cells.made w132 _ _)
                have hl169 : w132.heap.size < (w132.alloc (.cells #[.int .u8 (x.o : Int), .int .u8 (x.l : Int)] 5)).heap.size := Cells.lt (Cells.made w132 5 #[.int .u8 (x.o : Int), .int .u8 (x.l : Int)])
                refine wpTill_two (i := 7) (j := 22) (by kernel_rfl) rfl rfl o169 (fun K hK => ?_) (fun K hK => ?_)
                · go_simp
                  go_at_call 152
                  with_reducible refine (signed_c x.y _).mono ?_
                  rintro E w170 ⟨rfl, hb170⟩
                  have o170 := on_step (wd := wz) o169 hb170
                  have hr170 : rowOf w170 w132.heap.size = #[.int .u8 (x.o : Int), .int .u8 (x.l : Int)] := by rw [keep_row hb170 _ hl169, hr169]
                  have hl170 : w132.heap.size < w170.heap.size := keep_lt hb170 _ hl169
                  refine hK _ _ ?_
                  clear hK K
                  refine wpTill_take (i := 8) (v := ?vq171) rfl (by kernel_rfl) (fun _ _ _ h => h) (Or.inl ⟨by rfl, ?hq171⟩) o170 ?rq171
                  case hq171 => (intro W hW; (try dsimp only at hW); go_simp; try with_reducible rfl)
                  simp only [Act.put, List.setIfInBounds_toArray, List.set_cons_zero, List.set_cons_succ]
                  refine wpTill_two (i := 11) (j := 22) (by kernel_rfl) rfl rfl o170 (fun K hK => ?_) (fun K hK => ?_)
                  · go_simp
                    go_at_call 152
                    with_reducible refine (signed_c x.vx _).mono ?_
                    rintro E w172 ⟨rfl, hb172⟩
                    have o172 := on_step (wd := wz) o170 hb172
                    have hr172 : rowOf w172 w132.heap.size = #[.int .u8 (x.o : Int), .int .u8 (x.l : Int)] := by rw [keep_row hb172 _ hl170, hr170]
                    have hl172 : w132.heap.size < w172.heap.size := keep_lt hb172 _ hl170
                    refine hK _ _ ?_
                    clear hK K
                    refine wpTill_take (i := 12) (v := ?vq173) rfl (by kernel_rfl) (fun _ _ _ h => h) (Or.inl ⟨by rfl, ?hq173⟩) o172 ?rq173
                    case hq173 => (intro W hW; (try dsimp only at hW); go_simp; try with_reducible rfl)
                    simp only [Act.put, List.setIfInBounds_toArray, List.set_cons_zero, List.set_cons_succ]
                    refine wpTill_two (i := 15) (j := 22) (by kernel_rfl) rfl rfl o172 (fun K hK => ?_) (fun K hK => ?_)
                    · go_simp
                      go_at_call 152
                      with_reducible refine (signed_c x.vy _).mono ?_
                      rintro E w174 ⟨rfl, hb174⟩
                      have o174 := on_step (wd := wz) o172 hb174
                      have hr174 : rowOf w174 w132.heap.size = #[.int .u8 (x.o : Int), .int .u8 (x.l : Int)] := by rw [keep_row hb174 _ hl172, hr172]
                      have hl174 : w132.heap.size < w174.heap.size := keep_lt hb174 _ hl172
                      refine hK _ _ ?_
                      clear hK K
                      refine wpTill_take (i := 16) (v := ?vq175) rfl (by kernel_rfl) (fun _ _ _ h => h) (Or.inl ⟨by rfl, ?hq175⟩) o174 ?rq175
                      case hq175 => (intro W hW; (try dsimp only at hW); go_simp; try with_reducible rfl)
                      simp only [Act.put, List.setIfInBounds_toArray, List.set_cons_zero, List.set_cons_succ]
                      refine wpTill_run (i := 22) (by kernel_rfl) rfl o174 (fun K hK => ?_)
                      have hc176 := run_conv w174 w132.heap.size 2 (by rw [hr174]; rfl) (by decide) (by rw [hr174]; simp [allU8_cons, allU8_nil, uo, ul])
                      rw [hr174, strOf2] at hc176
                      go_simp
                      refine hK _ _ ?_
                      clear hK K
                      refine wpTill_take (i := 23) (v := ?vq177) rfl (by kernel_rfl) (fun _ _ _ h => h) (Or.inl ⟨by rfl, ?hq177⟩) o174 ?rq177
                      case hq177 => (intro W hW; (try dsimp only at hW); go_simp; try with_reducible rfl)
                      simp only [Act.put, List.setIfInBounds_toArray, List.set_cons_zero, List.set_cons_succ]
                      refine wpTill_run (i := 24) (by kernel_rfl) rfl o174 (fun K hK => ?_)
                      go_simp
                      refine hK _ _ ?_
                      clear hK K
                      refine wpTill_done (by kernel_rfl) ?_
                      have HOZ := Lib.hid o174
                      go_wp2
                      go_roundw
                      case rel => exact ⟨k + 1, by omega, by go_num, by rw [HNX.out, HE.out], HGZ.out.trans (on_grown HOZ.out), bk_grown HBZ.out (on_grown HOZ.out) (by simp)⟩
                      case measure => simp [intOf]; omega
                    · have hc178 := run_conv w172 w132.heap.size 2 (by rw [hr172]; rfl) (by decide) (by rw [hr172]; simp [allU8_cons, allU8_nil, uo, ul])
                      rw [hr172, strOf2] at hc178
                      go_simp
                      refine hK _ _ ?_
                      clear hK K
                      refine wpTill_run (i := 15) (by kernel_rfl) rfl o172 (fun K hK => ?_)
                      go_simp
                      go_at_call 152
                      with_reducible refine (signed_c x.vy _).mono ?_
                      rintro E w179 ⟨rfl, hb179⟩
                      have o179 := on_step (wd := wz) o172 hb179
                      refine hK _ _ ?_
                      clear hK K
                      refine wpTill_take (i := 16) (v := ?vq180) rfl (by kernel_rfl) (fun _ _ _ h => h) (Or.inl ⟨by rfl, ?hq180⟩) o179 ?rq180
                      case hq180 => (intro W hW; (try dsimp only at hW); go_simp; try with_reducible rfl)
                      simp only [Act.put, List.setIfInBounds_toArray, List.set_cons_zero, List.set_cons_succ]
                      refine wpTill_take (i := 23) (v := ?vq181) rfl (by kernel_rfl) (fun _ _ _ h => h) (Or.inl ⟨by rfl, ?hq181⟩) o179 ?rq181
                      case hq181 => (intro W hW; (try dsimp only at hW); go_simp; try with_reducible rfl)
                      simp only [Act.put, List.setIfInBounds_toArray, List.set_cons_zero, List.set_cons_succ]
                      refine wpTill_run (i := 24) (by kernel_rfl) rfl o179 (fun K hK => ?_)
                      go_simp
                      refine hK _ _ ?_
                      clear hK K
                      refine wpTill_done (by kernel_rfl) ?_
                      have HOZ := Lib.hid o179
                      go_wp2
                      go_roundw
                      case rel => exact ⟨k + 1, by omega, by go_num, by rw [HNX.out, HE.out], HGZ.out.trans (on_grown HOZ.out), bk_grown HBZ.out (on_grown HOZ.out) (by simp)⟩
                      case measure => simp [intOf]; omega
                  · have hc182 := run_conv w170 w132.heap.size 2 (by rw [hr170]; rfl) (by decide) (by rw [hr170]; simp [allU8_cons, allU8_nil, uo, ul])
                    rw [hr170, strOf2] at hc182
                    go_simp
                    refine hK _ _ ?_
                    clear hK K
                    refine wpTill_run (i := 11) (by kernel_rfl) rfl o170 (fun K hK => ?_)
                    go_simp
                    go_at_call 152
                    with_reducible refine (signed_c x.vx _).mono ?_
                    rintro E w183 ⟨rfl, hb183⟩
                    have o183 := on_step (wd := wz) o170 hb183
                    refine hK _ _ ?_
                    clear hK K
                    refine wpTill_take (i := 12) (v := ?vq184) rfl (by kernel_rfl) (fun _ _ _ h => h) (Or.inl ⟨by rfl, ?hq184⟩) o183 ?rq184
                    case hq184 => (intro W hW; (try dsimp only at hW); go_simp; try with_reducible rfl)
                    simp only [Act.put, List.setIfInBounds_toArray, List.set_cons_zero, List.set_cons_succ]
                    refine wpTill_run (i := 15) (by kernel_rfl) rfl o183 (fun K hK => ?_)
                    go_simp
                    go_at_call 152
                    with_reducible refine (signed_c x.vy _).mono ?_
                    rintro E w185 ⟨rfl, hb185⟩
                    have o185 := on_step (wd := wz) o183 hb185
                    refine hK _ _ ?_
                    clear hK K
                    refine wpTill_take (i := 16) (v := ?vq186) rfl (by kernel_rfl) (fun _ _ _ h => h) (Or.inl ⟨by rfl, ?hq186⟩) o185 ?rq186
                    case hq186 => (intro W hW; (try dsimp only at hW); go_simp; try with_reducible rfl)
                    simp only [Act.put, List.setIfInBounds_toArray, List.set_cons_zero, List.set_cons_succ]
                    refine wpTill_take (i := 23) (v := ?vq187) rfl (by kernel_rfl) (fun _ _ _ h => h) (Or.inl ⟨by rfl, ?hq187⟩) o185 ?rq187
                    case hq187 => (intro W hW; (try dsimp only at hW); go_simp; try with_reducible rfl)
                    simp only [Act.put, List.setIfInBounds_toArray, List.set_cons_zero, List.set_cons_succ]
                    refine wpTill_run (i := 24) (by kernel_rfl) rfl o185 (fun K hK => ?_)
                    go_simp
                    refine hK _ _ ?_
                    clear hK K
                    refine wpTill_done (by kernel_rfl) ?_
                    have HOZ := Lib.hid o185
                    go_wp2
                    go_roundw
                    case rel => exact ⟨k + 1, by omega, by go_num, by rw [HNX.out, HE.out], HGZ.out.trans (on_grown HOZ.out), bk_grown HBZ.out (on_grown HOZ.out) (by simp)⟩
                    case measure => simp [intOf]; omega
                · have hc188 := run_conv (w132.alloc (.cells #[.int .u8 (x.o : Int), .int .u8 (x.l : Int)] 5)) w132.heap.size 2 (by rw [hr169]; rfl) (by decide) (by rw [hr169]; simp [allU8_cons, allU8_nil, uo, ul])
                  rw [hr169, strOf2] at hc188
                  go_simp
                  refine hK _ _ ?_
                  clear hK K
                  refine wpTill_run (i := 7) (by kernel_rfl) rfl o169 (fun K hK => ?_)
                  go_simp
                  go_at_call 152
                  with_reducible refine (signed_c x.y _).mono ?_
                  rintro E w189 ⟨rfl, hb189⟩
                  have o189 := on_step (wd := wz) o169 hb189
                  refine hK _ _ ?_
                  clear hK K
                  refine wpTill_take (i := 8) (v := ?vq190) rfl (by kernel_rfl) (fun _ _ _ h => h) (Or.inl ⟨by rfl, ?hq190⟩) o189 ?rq190
                  case hq190 => (intro W hW; (try dsimp only at hW); go_simp; try with_reducible rfl)
                  simp only [Act.put, List.setIfInBounds_toArray, List.set_cons_zero, List.set_cons_succ]
                  refine wpTill_run (i := 11) (by kernel_rfl) rfl o189 (fun K hK => ?_)
                  go_simp
                  go_at_call 152
                  with_reducible refine (signed_c x.vx _).mono ?_
                  rintro E w191 ⟨rfl, hb191⟩
                  have o191 := on_step (wd := wz) o189 hb191
                  refine hK _ _ ?_
                  clear hK K
                  refine wpTill_take (i := 12) (v := ?vq192) rfl (by kernel_rfl) (fun _ _ _ h => h) (Or.inl ⟨by rfl, ?hq192⟩) o191 ?rq192
                  case hq192 => (intro W hW; (try dsimp only at hW); go_simp; try with_reducible rfl)
                  simp only [Act.put, List.setIfInBounds_toArray, List.set_cons_zero, List.set_cons_succ]
                  refine wpTill_run (i := 15) (by kernel_rfl) rfl o191 (fun K hK => ?_)
                  go_simp
                  go_at_call 152
                  with_reducible refine (signed_c x.vy _).mono ?_
                  rintro E w193 ⟨rfl, hb193⟩
                  have o193 := on_step (wd := wz) o191 hb193
                  refine hK _ _ ?_
                  clear hK K
                  refine wpTill_take (i := 16) (v := ?vq194) rfl (by kernel_rfl) (fun _ _ _ h => h) (Or.inl ⟨by rfl, ?hq194⟩) o193 ?rq194
                  case hq194 => (intro W hW; (try dsimp only at hW); go_simp; try with_reducible rfl)
                  simp only [Act.put, List.setIfInBounds_toArray, List.set_cons_zero, List.set_cons_succ]
                  refine wpTill_take (i := 23) (v := ?vq195) rfl (by kernel_rfl) (fun _ _ _ h => h) (Or.inl ⟨by rfl, ?hq195⟩) o193 ?rq195
                  case hq195 => (intro W hW; (try dsimp only at hW); go_simp; try with_reducible rfl)
                  simp only [Act.put, List.setIfInBounds_toArray, List.set_cons_zero, List.set_cons_succ]
                  refine wpTill_run (i := 24) (by kernel_rfl) rfl o193 (fun K hK => ?_)
                  go_simp
                  refine hK _ _ ?_
                  clear hK K
                  refine wpTill_done (by kernel_rfl) ?_
                  have HOZ := Lib.hid o193
                  go_wp2
                  go_roundw
                  case rel => exact ⟨k + 1, by omega, by go_num, by rw [HNX.out, HE.out], HGZ.out.trans (on_grown HOZ.out), bk_grown HBZ.out (on_grown HOZ.out) (by simp)⟩
                  case measure => simp [intOf]; omega
            · go_simp
              refine hK _ _ ?_
              clear hK K
              have o196 : On wz.heap.size wz (wz.alloc (.cells #[.int .u8 (x.o : Int), .int .u8 (x.l : Int)] 5)).drew := on_drewB (on_alloc o00)
              have hr196 : rowOf (wz.alloc (.cells #[.int .u8 (x.o : Int), .int .u8 (x.l : Int)] 5)).drew wz.heap.size = #[.int .u8 (x.o : Int), .int .u8 (x.l : Int)] := rowOf_cells (Cells.made wz _ _)
              have hl196 : wz.heap.size < (wz.alloc (.cells #[.int .u8 (x.o : Int), .int .u8 (x.l : Int)] 5)).drew.heap.size := Cells.lt (Cells.made wz 5 #[.int .u8 (x.o : Int), .int .u8 (x.l : Int)])
              refine wpTill_two (i := 3) (j := 22) (by kernel_rfl) rfl rfl o196 (fun K hK => ?_) (fun K hK => ?_)
              · go_simp
                go_at_call 152
                with_reducible refine (signed_c x.x _).mono ?_
                rintro E w197 ⟨rfl, hb197⟩
                have o197 := on_step (wd := wz) o196 hb197
                have hr197 : rowOf w197 wz.heap.size = #[.int .u8 (x.o : Int), .int .u8 (x.l : Int)] := by rw [keep_row hb197 _ hl196, hr196]
                have hl197 : wz.heap.size < w197.heap.size := keep_lt hb197 _ hl196
                refine hK _ _ ?_
                clear hK K
                refine wpTill_take (i := 4) (v := ?vq198) rfl (by kernel_rfl) (fun _ _ _ h => h) (Or.inl ⟨by rfl, ?hq198⟩) o197 ?rq198
                case hq198 => (intro W hW; (try dsimp only at hW); go_simp; try with_reducible rfl)
                simp only [Act.put, List.setIfInBounds_toArray, List.set_cons_zero, List.set_cons_succ]
                refine wpTill_two (i := 7) (j := 22) (by kernel_rfl) rfl rfl o197 (fun K hK => ?_) (fun K hK => ?_)
                · go_simp
                  go_at_call 152
                  with_reducible refine (signed_c x.y _).mono ?_
                  rintro E w199 ⟨rfl, hb199⟩
                  have o199 := on_step (wd := wz) o197 hb199
                  have hr199 : rowOf w199 wz.heap.size = #[.int .u8 (x.o : Int), .int .u8 (x.l : Int)] := by rw [keep_row hb199 _ hl197, hr197]
                  have hl199 : wz.heap.size < w199.heap.size := keep_lt hb199 _ hl197
                  refine hK _ _ ?_
                  clear hK K
                  refine wpTill_take (i := 8) (v := ?vq200) rfl (by kernel_rfl) (fun _ _ _ h => h) (Or.inl ⟨by rfl, ?hq200⟩) o199 ?rq200
                  case hq200 => (intro W hW; (try dsimp only at hW); go_simp; try with_reducible rfl)
                  simp only [Act.put, List.setIfInBounds_toArray, List.set_cons_zero, List.set_cons_succ]
                  refine wpTill_two (i := 11) (j := 22) (by kernel_rfl) rfl rfl o199 (fun K hK => ?_) (fun K hK => ?_)
                  · go_simp
                    go_at_call 152
                    with_reducible refine (signed_c x.vx _).mono ?_
                    rintro E w201 ⟨rfl, hb201⟩
                    have o201 := on_step (wd := wz) o199 hb201
                    have hr201 : rowOf w201 wz.heap.size = #[.int .u8 (x.o : Int), .int .u8 (x.l : Int)] := by rw [keep_row hb201 _ hl199, hr199]
                    have hl201 : wz.heap.size < w201.heap.size := keep_lt hb201 _ hl199
                    refine hK _ _ ?_
                    clear hK K
                    refine wpTill_take (i := 12) (v := ?vq202) rfl (by kernel_rfl) (fun _ _ _ h => h) (Or.inl ⟨by rfl, ?hq202⟩) o201 ?rq202
                    case hq202 => (intro W hW; (try dsimp only at hW); go_simp; try with_reducible rfl)
                    simp only [Act.put, List.setIfInBounds_toArray, List.set_cons_zero, List.set_cons_succ]
                    refine wpTill_two (i := 15) (j := 22) (by kernel_rfl) rfl rfl o201 (fun K hK => ?_) (fun K hK => ?_)
                    · go_simp
                      go_at_call 152
                      with_reducible refine (signed_c x.vy _).mono ?_
                      rintro E w203 ⟨rfl, hb203⟩
                      have o203 := on_step (wd := wz) o201 hb203
                      have hr203 : rowOf w203 wz.heap.size = #[.int .u8 (x.o : Int), .int .u8 (x.l : Int)] := by rw [keep_row hb203 _ hl201, hr201]
                      have hl203 : wz.heap.size < w203.heap.size := keep_lt hb203 _ hl201
                      refine hK _ _ ?_
                      clear hK K
                      refine wpTill_take (i := 16) (v := ?vq204) rfl (by kernel_rfl) (fun _ _ _ h => h) (Or.inl ⟨by rfl, ?hq204⟩) o203 ?rq204
                      case hq204 => (intro W hW; (try dsimp only at hW); go_simp; try with_reducible rfl)
                      simp only [Act.put, List.setIfInBounds_toArray, List.set_cons_zero, List.set_cons_succ]
                      refine wpTill_run (i := 22) (by kernel_rfl) rfl o203 (fun K hK => ?_)
                      have hc205 := run_conv w203 wz.heap.size 2 (by rw [hr203]; rfl) (by decide) (by rw [hr203]; simp [allU8_cons, allU8_nil, uo, ul])
                      rw [hr203, strOf2] at hc205
                      go_simp
                      refine hK _ _ ?_
                      clear hK K
                      refine wpTill_take (i := 23) (v := ?vq206) rfl (by kernel_rfl) (fun _ _ _ h => h) (Or.inl ⟨by rfl, ?hq206⟩) o203 ?rq206
                      case hq206 => (intro W hW; (try dsimp only at hW); go_simp; try with_reducible rfl)
                      simp only [Act.put, List.setIfInBounds_toArray, List.set_cons_zero, List.set_cons_succ]
                      refine wpTill_run (i := 24) (by kernel_rfl) rfl o203 (fun K hK => ?_)
                      go_simp
                      refine hK _ _ ?_
                      clear hK K
                      refine wpTill_done (by kernel_rfl) ?_
                      have HOZ := Lib.hid o203
                      go_wp2
                      go_roundw
                      case rel => exact ⟨k + 1, by omega, by go_num, by rw [HNX.out, HE.out], HGZ.out.trans (on_grown HOZ.out), bk_grown HBZ.out (on_grown HOZ.out) (by simp)⟩
                      case measure => simp [intOf]; omega
                    · have hc207 := run_conv w201 wz.heap.size 2 (by rw [hr201]; rfl) (by decide) (by rw [hr201]; simp [allU8_cons, allU8_nil, uo, ul])
                      rw [hr201, strOf2] at hc207
                      go_simp
                      refine hK _ _ ?_
                      clear hK K
                      refine wpTill_run (i := 15) (by kernel_rfl) rfl o201 (fun K hK => ?_)
                      go_simp
                      go_at_call 152
                      with_reducible refine (signed_c x.vy _).mono ?_
                      rintro E w208 ⟨rfl, hb208⟩
                      have o208 := on_step (wd := wz) o201 hb208
                      refine hK _ _ ?_
                      clear hK K
                      refine wpTill_take (i := 16) (v := ?vq209) rfl (by kernel_rfl) (fun _ _ _ h => h) (Or.inl ⟨by rfl, ?hq209⟩) o208 ?rq209
                      case hq209 => (intro W hW; (try dsimp only at hW); go_simp; try with_reducible rfl)
                      simp only [Act.put, List.setIfInBounds_toArray, List.set_cons_zero, List.set_cons_succ]
                      refine wpTill_take (i := 23) (v := ?vq210) rfl (by kernel_rfl) (fun _ _ _ h => h) (Or.inl ⟨by rfl, ?hq210⟩) o208 ?rq210
                      case hq210 => (intro W hW; (try dsimp only at hW); go_simp; try with_reducible rfl)
                      simp only [Act.put, List.setIfInBounds_toArray, List.set_cons_zero, List.set_cons_succ]
                      refine wpTill_run (i := 24) (by kernel_rfl) rfl o208 (fun K hK => ?_)
                      go_simp
                      refine hK _ _ ?_
                      clear hK K
                      refine wpTill_done (by kernel_rfl) ?_
                      have HOZ := Lib.hid o208
                      go_wp2
                      go_roundw
                      case rel => exact ⟨k + 1, by omega, by go_num, by rw [HNX.out, HE.out], HGZ.out.trans (on_grown HOZ.out), bk_grown HBZ.out (on_grown HOZ.out) (by simp)⟩
                      case measure => simp [intOf]; omega
                  · have hc211 := run_conv w199 wz.heap.size 2 (by rw [hr199]; rfl) (by decide) (by rw [hr199]; simp [allU8_cons, allU8_nil, uo, ul])
                    rw [hr199, strOf2] at hc211
                    go_simp
                    refine hK _ _ ?_
                    clear hK K
                    refine wpTill_run (i := 11) (by kernel_rfl) rfl o199 (fun K hK => ?_)
                    go_simp
                    go_at_call 152
                    with_reducible refine (signed_c x.vx _).mono ?_
                    rintro E w212 ⟨rfl, hb212⟩
                    have o212 := on_step (wd := wz) o199 hb212
                    refine hK _ _ ?_
                    clear hK K
                    refine wpTill_take (i := 12) (v := ?vq213) rfl (by kernel_rfl) (fun _ _ _ h => h) (Or.inl ⟨by rfl, ?hq213⟩) o212 ?rq213
                    case hq213 => (intro W hW; (try dsimp only at hW); go_simp; try with_reducible rfl)
                    simp only [Act.put, List.setIfInBounds_toArray, List.set_cons_zero, List.set_cons_succ]
                    refine wpTill_run (i := 15) (by kernel_rfl) rfl o212 (fun K hK => ?_)
                    go_simp
                    go_at_call 152
                    with_reducible refine (signed_c x.vy _).mono ?_
                    rintro E w214 ⟨rfl, hb214⟩
                    have o214 := on_step (wd := wz) o212 hb214
                    refine hK _ _ ?_
                    clear hK K
                    refine wpTill_take (i := 16) (v := ?vq215) rfl (by kernel_rfl) (fun _ _ _ h => h) (Or.inl ⟨by rfl, ?hq215⟩) o214 ?rq215
                    case hq215 => (intro W hW; (try dsimp only at hW); go_simp; try with_reducible rfl)
                    simp only [Act.put, List.setIfInBounds_toArray, List.set_cons_zero, List.set_cons_succ]
                    refine wpTill_take (i := 23) (v := ?vq216) rfl (by kernel_rfl) (fun _ _ _ h => h) (Or.inl ⟨by rfl, ?hq216⟩) o214 ?rq216
                    case hq216 => (intro W hW; (try dsimp only at hW); go_simp; try with_reducible rfl)
                    simp only [Act.put, List.setIfInBounds_toArray, List.set_cons_zero, List.set_cons_succ]
                    refine wpTill_run (i := 24) (by kernel_rfl) rfl o214 (fun K hK => ?_)
                    go_simp
                    refine hK _ _ ?_
                    clear hK K
                    refine wpTill_done (by kernel_rfl) ?_
                    have HOZ := Lib.hid o214
                    go_wp2
                    go_roundw
                    case rel => exact ⟨k + 1, by omega, by go_num, by rw [HNX.out, HE.out], HGZ.out.trans (on_grown HOZ.out), bk_grown HBZ.out (on_grown HOZ.out) (by simp)⟩
                    case measure => simp [intOf]; omega
                · have hc217 := run_conv w197 wz.heap.size 2 (by rw [hr197]; rfl) (by decide) (by rw [hr197]; simp [allU8_cons, allU8_nil, uo, ul])
                  rw [hr197, strOf2] at hc217
                  go_simp
                  refine hK _ _ ?_
                  clear hK K
                  refine wpTill_run (i := 7) (by kernel_rfl) rfl o197 (fun K hK => ?_)
                  go_simp
                  go_at_call 152
                  with_reducible refine (signed_c x.y _).mono ?_
                  rintro E w218 ⟨rfl, hb218⟩
                  have o218 := on_step (wd := wz) o197 hb218
                  refine hK _ _ ?_
                  clear hK K
                  refine wpTill_take (i := 8) (v := ?vq219) rfl (by kernel_rfl) (fun _ _ _ h => h) (Or.inl ⟨by rfl, ?hq219⟩) o218 ?rq219
                  case hq219 => (intro W hW; (try dsimp only at hW); go_simp; try with_reducible rfl)
                  simp only [Act.put, List.setIfInBounds_toArray, List.set_cons_zero, List.set_cons_succ]
                  refine wpTill_run (i := 11) (by kernel_rfl) rfl o218 (fun K hK => ?_)
                  go_simp
                  go_at_call 152
                  with_reducible refine (signed_c x.vx _).mono ?_
                  rintro E w220 ⟨rfl, hb220⟩
                  have o220 := on_step (wd := wz) o218 hb220
                  refine hK _ _ ?_
                  clear hK K
                  refine wpTill_take (i := 12) (v := ?vq221) rfl (by kernel_rfl) (fun _ _ _ h => h) (Or.inl ⟨by rfl, ?hq221⟩) o220 ?rq221
                  case hq221 => (intro W hW; (try dsimp only at hW); go_simp; try with_reducible rfl)
                  simp only [Act.put, List.setIfInBounds_toArray, List.set_cons_zero, List.set_cons_succ]
                  refine wpTill_run (i := 15) (by kernel_rfl) rfl o220 (fun K hK => ?_)
                  go_simp
                  go_at_call 152
                  with_reducible refine (signed_c x.vy _).mono ?_
                  rintro E w222 ⟨rfl, hb222⟩
                  have o222 := on_step (wd := wz) o220 hb222
                  refine hK _ _ ?_
                  clear hK K
                  refine wpTill_take (i := 16) (v := ?vq223) rfl (by kernel_rfl) (fun _ _ _ h => h) (Or.inl ⟨by rfl, ?hq223⟩) o222 ?rq223
                  case hq223 => (intro W hW; (try dsimp only at hW); go_simp; try with_reducible rfl)
                  simp only [Act.put, List.setIfInBounds_toArray, List.set_cons_zero, List.set_cons_succ]
                  refine wpTill_take (i := 23) (v := ?vq224) rfl (by kernel_rfl) (fun _ _ _ h => h) (Or.inl ⟨by rfl, ?hq224⟩) o222 ?rq224
                  case hq224 => (intro W hW; (try dsimp only at hW); go_simp; try with_reducible rfl)
                  simp only [Act.put, List.setIfInBounds_toArray, List.set_cons_zero, List.set_cons_succ]
                  refine wpTill_run (i := 24) (by kernel_rfl) rfl o222 (fun K hK => ?_)
                  go_simp
                  refine hK _ _ ?_
                  clear hK K
                  refine wpTill_done (by kernel_rfl) ?_
                  have HOZ := Lib.hid o222
                  go_wp2
                  go_roundw
                  case rel => exact ⟨k + 1, by omega, by go_num, by rw [HNX.out, HE.out], HGZ.out.trans (on_grown HOZ.out), bk_grown HBZ.out (on_grown HOZ.out) (by simp)⟩
                  case measure => simp [intOf]; omega
              · have hc225 := run_conv (wz.alloc (.cells #[.int .u8 (x.o : Int), .int .u8 (x.l : Int)] 5)).drew wz.heap.size 2 (by rw [hr196]; rfl) (by decide) (by rw [hr196]; simp [allU8_cons, allU8_nil, uo, ul])
                rw [hr196, strOf2] at hc225
                go_simp
                refine hK _ _ ?_
                clear hK K
                refine wpTill_run (i := 3) (by kernel_rfl) rfl o196 (fun K hK => ?_)
                go_simp
                go_at_call 152
                with_reducible refine (signed_c x.x _).mono ?_
                rintro E w226 ⟨rfl, hb226⟩
                have o226 := on_step (wd := wz) o196 hb226
                refine hK _ _ ?_
                clear hK K
                refine wpTill_take (i := 4) (v := ?vq227) rfl (by kernel_rfl) (fun _ _ _ h => h) (Or.inl ⟨by rfl, ?hq227⟩) o226 ?rq227
                case hq227 => (intro W hW; (try dsimp only at hW); go_simp; try with_reducible rfl)
                simp only [Act.put, List.setIfInBounds_toArray, List.set_cons_zero, List.set_cons_succ]
                refine wpTill_run (i := 7) (by kernel_rfl) rfl o226 (fun K hK => ?_)
                go_simp
                go_at_call 152
                with_reducible refine (signed_c x.y _).mono ?_
                rintro E w228 ⟨rfl, hb228⟩
                have o228 := on_step (wd := wz) o226 hb228
                refine hK _ _ ?_
                clear hK K
                refine wpTill_take (i := 8) (v := ?vq229) rfl (by kernel_rfl) (fun _ _ _ h => h) (Or.inl ⟨by rfl, ?hq229⟩) o228 ?rq229
                case hq229 => (intro W hW; (try dsimp only at hW); go_simp; try with_reducible rfl)
                simp only [Act.put, List.setIfInBounds_toArray, List.set_cons_zero, List.set_cons_succ]
                refine wpTill_run (i := 11) (by kernel_rfl) rfl o228 (fun K hK => ?_)
                go_simp
                go_at_call 152
                with_reducible refine (signed_c x.vx _).mono ?_
                rintro E w230 ⟨rfl, hb230⟩
                have o230 := on_step (wd := wz) o228 hb230
                refine hK _ _ ?_
                clear hK K
                refine wpTill_take (i := 12) (v := ?vq231) rfl (by kernel_rfl) (fun _ _ _ h => h) (Or.inl ⟨by rfl, ?hq231⟩) o230 ?rq231
                case hq231 => (intro W hW; (try dsimp only at hW); go_simp; try with_reducible rfl)
                simp only [Act.put, List.setIfInBounds_toArray, List.set_cons_zero, List.set_cons_succ]
                refine wpTill_run (i := 15) (by kernel_rfl) rfl o230 (fun K hK => ?_)
                go_simp
                go_at_call 152
                with_reducible refine (signed_c x.vy _).mono ?_
                rintro E w232 ⟨rfl, hb232⟩
                have o232 := on_step (wd := wz) o230 hb232
                refine hK _ _ ?_
                clear hK K
                refine wpTill_take (i := 16) (v := ?vq233) rfl (by kernel_rfl) (fun _ _ _ h => h) (Or.inl ⟨by rfl, ?hq233⟩) o232 ?rq233
                case hq233 => (intro W hW; (try dsimp only at hW); go_simp; try with_reducible rfl)
                simp only [Act.put, List.setIfInBounds_toArray, List.set_cons_zero, List.set_cons_succ]
                refine wpTill_take (i := 23) (v := ?vq234) rfl (by kernel_rfl) (fun _ _ _ h => h) (Or.inl ⟨by rfl, ?hq234⟩) o232 ?rq234
                case hq234 => (intro W hW; (try dsimp only at hW); go_simp; try with_reducible rfl)
                simp only [Act.put, List.setIfInBounds_toArray, List.set_cons_zero, List.set_cons_succ]
                refine wpTill_run (i := 24) (by kernel_rfl) rfl o232 (fun K hK => ?_)
                go_simp
                refine hK _ _ ?_
                clear hK K
                refine wpTill_done (by kernel_rfl) ?_
                have HOZ := Lib.hid o232
                go_wp2
                go_roundw
                case rel => exact ⟨k + 1, by omega, by go_num, by rw [HNX.out, HE.out], HGZ.out.trans (on_grown HOZ.out), bk_grown HBZ.out (on_grown HOZ.out) (by simp)⟩
                case measure => simp [intOf]; omega
          · obtain rfl : k = s.ss.length := by omega
            have hq3 : h2 ++ hes (s.ss.take s.ss.length) = h2 ++ hes s.ss := by rw [List.take_length]
            obtain ⟨h3, hh3⟩ : ∃ h3, h3 = h2 ++ hes s.ss := ⟨_, rfl⟩
            rw [hq3, ← hh3] at HLB ⊢
            have HH3 := Lib.hid hh3
            clear hq3 hh3 hlt hk
            have HEND : Hid (str (sput s) = str h3 ++ str (le 2 s.s0) ++ str (le 2 s.s1)) := by
              show _ = _
              rw [HX.out, str_append, str_append, HH3.out, ← HH2.out, HH1.out, ← HH0.out]
              simp only [ste, List.append_assoc]
            go_wp2_with fail
            have c17 := on_cell (B := wr.heap.size) HBk.out (Cells.lt HBk.out) 17 rfl
            have c18 := on_cell (B := wr.heap.size) HBk.out (Cells.lt HBk.out) 18 rfl
            have n0 : ¬ (9223372036854775807 < (str h3).size + (str (le 2 s.s0)).size) := by have := HLB.out; simp only [str_size, le_length]; omega
            have n1 : ¬ (9223372036854775807 < (str h3).size + (str (le 2 s.s0)).size + (str (le 2 s.s1)).size) := by have := HLB.out; simp only [str_size, le_length]; omega
            have o0 := On.drew wr.heap.size wr
            have v0 : IntKind.u64.wrap (s.s0 : Int) = (s.s0 : Int) := u64_id _ (by omega) (by have := HF.out.2.2.2.2.2.1; omega)
            have v1 : IntKind.u64.wrap (s.s1 : Int) = (s.s1 : Int) := u64_id _ (by omega) (by have := HF.out.2.2.2.2.2.2; omega)
            have N0 : Hid (∀ W, Calls Tryz.prog 76 #[.int .u64 (s.s0 : Int), .int .i64 2] W fun E w' => E = .returned (.string (str (le 2 s.s0))) ∧ W.grownBy w' none) := fun W => refNumber s.s0 2 W (by have := HF.out.2.2.2.2.2.1; omega) (by omega)
            have N1 : Hid (∀ W, Calls Tryz.prog 76 #[.int .u64 (s.s1 : Int), .int .i64 2] W fun E w' => E = .returned (.string (str (le 2 s.s1))) ∧ W.grownBy w' none) := fun W => refNumber s.s1 2 W (by have := HF.out.2.2.2.2.2.2; omega) (by omega)
            go_region_held3 (fun w' => On wr.heap.size wr w') (first | with_reducible assumption) (first | (go_at_call 76; with_reducible refine (N0.out _).mono ?_; rintro E w4 ⟨rfl, hb4⟩; have o4 := on_step (wd := wr) (by assumption) hb4) | (go_at_call 76; with_reducible refine (N1.out _).mono ?_; rintro E w4 ⟨rfl, hb4⟩; have o4 := on_step (wd := wr) (by assumption) hb4))
            all_goals go_wp2
            all_goals go_ret
            all_goals exact ⟨by rw [HEND.out]; rfl, HW.out.trans (on_grown o4)⟩
end Go.Proofs.YtacgmadgkmcmoaaGreatDoor
