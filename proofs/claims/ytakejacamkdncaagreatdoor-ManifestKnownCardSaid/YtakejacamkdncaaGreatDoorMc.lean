/- May a manifest be, by the program: one contract each. -/
import Derived.Test.YtakejacamkdncaaGreatDoorMb
import Derived.BigQuiet
import Derived.WalkSmall
import Derived.IntWalk
namespace Go.Proofs.YtakejacamkdncaaGreatDoor
open Go.RowKit
set_option linter.unusedVariables false
set_option linter.unusedSimpArgs false
set_option maxRecDepth 20000
attribute [local go_sem ↓] ld_part ld_u64 st_part
set_option maxHeartbeats 1000000 in
theorem segs_c (l : List (Nat × Nat)) (ao : Option Addr) (cap : Nat) (w : World) (h : PsAt w ao l) (hf : sgFit l) (hl : l.length ≤ maxLen) :
    Calls Tryz.prog 45 #[.slice ao l.length cap] w fun R w' => R = .returned (.bool (segsB l)) ∧ Below w.heap.size w w' := by
  have HA := Lib.hid h
  have HF := Lib.hid hf
  clear h hf
  simp only [maxLen] at hl
  by_cases h0 : l.length = 0
  · have hz : segsB l = false := by unfold segsB; simp [h0]
    rw [hz]
    have hq : ((l.length : Int) == 0) = true := by rw [h0]; rfl
    clear h0
    go_enter Tryz.func45, Tryz.ntmps45
    go_wp2_with fail
    go_ret
    exact ⟨rfl, Below.refl _ _⟩
  · have hq : ((l.length : Int) == 0) = false := beq_eq_false_iff_ne.2 (by omega)
    by_cases h1 : 12 < l.length
    · have hz : segsB l = false := by unfold segsB; simp; intro _ h2; omega
      rw [hz]
      have h2 : (12 : Int) < (l.length : Int) := by omega
      go_enter Tryz.func45, Tryz.ntmps45
      go_wp2_with fail
      go_ret
      exact ⟨rfl, Below.refl _ _⟩
    · have hz : segsB l = sgOk 0 0 l := by unfold segsB; rw [decide_eq_true (by omega), decide_eq_true (by omega)]; rfl
      rw [hz]
      have h2 : ¬ (12 : Int) < (l.length : Int) := by omega
      obtain ⟨z, hzz⟩ : ∃ z, z = sgOk 0 0 l := ⟨_, rfl⟩
      rw [← hzz]
      have HZ := Lib.hid hzz
      have HS := Lib.hid (show 0 < l.length ∧ l.length ≤ 12 by omega)
      clear hz hzz h0 h1 hl
      have H0 := Loc.nil (B := w.heap.size) (w := w) (Nat.le_refl _)
      obtain ⟨g, w1, z1, s1, H1, _⟩ := H0.newA ty_part #[.int .u64 0, .int .u64 0] #[.int .u64 0, .int .u64 0] rfl rfl rfl
      go_enter Tryz.func45, Tryz.ntmps45
      go_wp2
      clear s1 hq h2 z1 H0
      go_loopw [17] (fun i wr => ∃ k a b : Nat, k ≤ l.length ∧ a < 18446744073709551616 ∧ b < 18446744073709551616 ∧ i = .int .i64 (k : Int) ∧ Hid (z = sgOk a b (l.drop k)) ∧ Hid (Loc w.heap.size w wr [(g, 61, #[.int .u64 (a : Int), .int .u64 (b : Int)])])) (fun i _ => l.length - (intOf i).toNat)
      case atStart => exact ⟨0, 0, 0, Nat.zero_le _, by decide, by decide, rfl, HZ.out, H1⟩
      case round =>
        obtain ⟨k, a, b, hk, ha, hb, rfl, HZK, HL⟩ := hrel
        clear H1 HZ
        have hs := HS.out.2
        by_cases hlt : k < l.length
        · obtain ⟨bb, oo, rfl, hone⟩ := HA.out.one hlt
          have hpf := HF.out _ (List.getElem_mem hlt)
          have HDK := Lib.hid (List.drop_eq_getElem_cons hlt)
          have hld := (hone wr HL.out.be).1 _ ty_part
          obtain ⟨⟨p1, p2⟩, hp⟩ : ∃ p, p = l[k]'hlt := ⟨_, rfl⟩
          rw [← hp] at hpf hld HDK
          dsimp only at hpf hld
          obtain ⟨hp1, hp2⟩ := hpf
          clear hone hp
          obtain ⟨g5, w5, z5, s5, H5, _⟩ := HL.out.newA ty_part #[.int .u64 0, .int .u64 0] #[.int .u64 (p1 : Int), .int .u64 (p2 : Int)] rfl rfl rfl
          replace H5 : Loc _ _ _ [(g, 61, #[.int .u64 (a : Int), .int .u64 (b : Int)]), (g5, 61, #[.int .u64 (p1 : Int), .int .u64 (p2 : Int)])] := H5
          have l1 := H5.ldO ty_u64 1 rfl 0 (v := .int .u64 (p1 : Int)) rfl
          have l2 := H5.ldO ty_u64 0 rfl 0 (v := .int .u64 (a : Int)) rfl
          have l3 := H5.ldO ty_u64 1 rfl 1 (v := .int .u64 (p2 : Int)) rfl
          have l4 := H5.ldO ty_u64 0 rfl 1 (v := .int .u64 (b : Int)) rfl
          by_cases hc1 : p1 ≤ a
          · have e : z = false := by rw [HZK.out, HDK.out]; unfold sgOk; simp; intro _; omega
            have hc : (p1 : Int) ≤ (a : Int) := by omega
            have E := Lib.hid e
            clear e hc1
            go_wp2_with fail
            go_ret
            exact ⟨by rw [E.out]; rfl, H5.be⟩
          · have hc : ¬ (p1 : Int) ≤ (a : Int) := by omega
            by_cases hc2 : p2 < b
            · have e : z = false := by rw [HZK.out, HDK.out]; unfold sgOk; simp; intro _ _; omega
              have hc3 : (p2 : Int) < (b : Int) := by omega
              have E := Lib.hid e
              clear e hc1 hc2
              go_wp2_with fail
              go_ret
              exact ⟨by rw [E.out]; rfl, H5.be⟩
            · have hc3 : ¬ (p2 : Int) < (b : Int) := by omega
              have e : Hid (z = sgOk p1 p2 (l.drop (k + 1))) := by
                show _ = _
                rw [HZK.out, HDK.out]
                show (decide _ && (decide _ && _)) = _
                rw [decide_eq_true (by omega), decide_eq_true (by omega)]
                rfl
              clear hc1 hc2
              have l5 := H5.ldA ty_part 1 rfl 0 (vs := #[.int .u64 (p1 : Int), .int .u64 (p2 : Int)]) rfl (Nat.le_of_ble_eq_true rfl)
              obtain ⟨w6, s6, H6, _⟩ := H5.stA ty_part 0 rfl 0 #[.int .u64 (p1 : Int), .int .u64 (p2 : Int)] (cs' := #[.int .u64 (p1 : Int), .int .u64 (p2 : Int)]) rfl (L' := [(g, 61, #[.int .u64 (p1 : Int), .int .u64 (p2 : Int)]), (g5, 61, #[.int .u64 (p1 : Int), .int .u64 (p2 : Int)])]) rfl (Nat.le_of_ble_eq_true rfl) rfl rfl
              go_wp2
              go_roundw
              case rel => exact ⟨k + 1, p1, p2, by omega, hp1, hp2, by go_num, e, H6.drop 1 rfl⟩
              case measure => have := HS.out; simp [intOf]; omega
        · have e : z = true := by rw [HZK.out, List.drop_of_length_le (by omega)]; rfl
          have E := Lib.hid e
          clear e hs
          go_wp2_with fail
          go_ret
          exact ⟨by rw [E.out]; rfl, HL.out.be⟩
theorem cks_short {l : List Nat} (h : l.length ≤ 1) : ckOk l = true := by
  match l, h with
  | [], _ => rfl
  | [_], _ => rfl
set_option maxHeartbeats 1000000 in
theorem cks_c (l : List Nat) (ao : Option Addr) (cap : Nat) (w : World) (h : NsAt w ao l) (hf : ckFit l) (hl : l.length ≤ maxLen) :
    Calls Tryz.prog 46 #[.slice ao l.length cap] w fun R w' => R = .returned (.bool (cksB l)) ∧ Below w.heap.size w w' := by
  have HA := Lib.hid h
  have HF := Lib.hid hf
  clear h hf
  simp only [maxLen] at hl
  by_cases h1 : 2 < l.length
  · have hz : cksB l = false := by unfold cksB; simp; intro h2; omega
    rw [hz]
    have h2 : (2 : Int) < (l.length : Int) := by omega
    go_enter Tryz.func46, Tryz.ntmps46
    go_wp2_with fail
    go_ret
    exact ⟨rfl, Below.refl _ _⟩
  · have hz : cksB l = ckOk l := by unfold cksB; rw [decide_eq_true (by omega)]; rfl
    rw [hz]
    have h2 : ¬ (2 : Int) < (l.length : Int) := by omega
    obtain ⟨z, hzz⟩ : ∃ z, z = ckOk l := ⟨_, rfl⟩
    rw [← hzz]
    have HZ := Lib.hid hzz
    have HS := Lib.hid (show l.length ≤ 2 by omega)
    clear hz hzz h1 hl
    go_enter Tryz.func46, Tryz.ntmps46
    go_wp2
    clear h2
    go_loopw [3] (fun i wr => ∃ k : Nat, k ≤ l.length ∧ i = .int .i64 ((k : Int) + 1) ∧ Hid (z = ckOk (l.drop k)) ∧ Hid (Below w.heap.size w wr)) (fun i _ => 3 - (intOf i).toNat)
    case atStart => exact ⟨0, Nat.zero_le _, rfl, HZ.out, Below.refl _ _⟩
    case round =>
      obtain ⟨k, hk, rfl, HZK, HB⟩ := hrel
      have hs := HS.out
      clear HZ
      by_cases hlt : k + 1 < l.length
      · obtain ⟨bb, oo, rfl, hone⟩ := HA.out.one hlt
        obtain ⟨bb2, oo2, e2, hone2⟩ := HA.out.one (show k < l.length by omega)
        cases e2
        have hx1 := HF.out _ (List.getElem_mem hlt)
        have hx2 := HF.out _ (List.getElem_mem (show k < l.length by omega))
        have d1 := fun n => hone _ (below_drewN HB.out n)
        have d2 := fun n => hone2 _ (below_drewN HB.out n)
        have HDK := Lib.hid (List.drop_eq_getElem_cons (show k < l.length by omega))
        have HDK2 := Lib.hid (List.drop_eq_getElem_cons hlt)
        clear hone hone2
        generalize l[k + 1]'hlt = x at *
        generalize l[k]'(show k < l.length by omega) = y at *
        have hw1 : IntKind.i64.wrap ((k : Int) + 1 - 1) = (k : Int) := by rw [show (k : Int) + 1 - 1 = (k : Int) by omega]; exact IntWalk.i64_in _ (by omega)
        have hlt1 : (k : Int) + 1 < (l.length : Int) := by omega
        by_cases hc : y ≤ x
        · have e : z = false := by rw [HZK.out, HDK.out, HDK2.out]; unfold ckOk; simp; intro _; omega
          have E := Lib.hid e
          have hc1 : decide ((y : Int) ≤ (x : Int)) = true := by simp; omega
          have hc2 : decide (y ≤ x) = true := by simp; omega
          clear e hc
          go_upto_region 6 with fail
          go_quiet (fail)
          go_wp2_with fail
          go_ret
          exact ⟨by rw [E.out]; rfl, below_drewN HB.out _⟩
        · have E : Hid (z = ckOk (l.drop (k + 1))) := by
            show _ = _
            rw [HZK.out, HDK.out, HDK2.out]
            show (decide _ && _) = _
            rw [decide_eq_true (by omega)]; rfl
          have hc1 : decide ((y : Int) ≤ (x : Int)) = false := by simp; omega
          have hc2 : decide (y ≤ x) = false := by simp; omega
          clear hc
          go_upto_region 6 with fail
          go_quiet (fail)
          go_wp2
          go_roundw
          case rel => exact ⟨k + 1, by omega, by go_num, E.out, below_drewN HB.out _⟩
          case measure => have := HS.out; simp [intOf]; omega
      · have e : z = true := by rw [HZK.out]; exact cks_short (by rw [List.length_drop]; omega)
        have E := Lib.hid e
        have hlt1 : ¬ (k : Int) + 1 < (l.length : Int) := by omega
        clear e
        go_wp2_with fail
        go_ret
        exact ⟨by rw [E.out]; rfl, HB.out⟩
end Go.Proofs.YtakejacamkdncaaGreatDoor
