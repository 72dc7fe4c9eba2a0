/- ManifestSwaps: the walk. Nothing is assumed beyond the bounds of the row's own types. -/
import Derived.Test.YtakejacamkdncaaGreatDoorZr
import Derived.Test.YtakejacamkdncaaGreatDoorZs
namespace Go.Proofs.YtakejacamkdncaaGreatDoor
open Go.RowKit
set_option linter.unusedVariables false
set_option linter.unusedSimpArgs false
set_option maxRecDepth 20000
section
variable {P : Program} {md : Region.Mode} {ops : Array Oper} {Q : Exit → Act → World → Prop} {S : World → Prop}
theorem wpTill_weak {S' : World → Prop} (hs : ∀ w, S' w → S w) : ∀ (n : Nat) (listed : Array Bool) (a : Act) (w : World), wpTill P md ops Q S' n listed a w → wpTill P md ops Q S n listed a w
  | 0, _, _, _, h => h
  | n + 1, _, _, _, h => ⟨h.1, fun k => hs _ (h.2.1 k), fun i hi => wpOp_mono (fun a' w' k => wpTill_weak hs n _ a' w' k) (h.2.2 i hi)⟩
end
theorem mz_lens : mz.sg.length < 256 ∧ mz.ck.length < 256 := ⟨by decide, by decide⟩
theorem tk_lens (s : List UInt8) : (tkM s).sg.length < 256 ∧ (tkM s).ck.length < 256 := by
  unfold tkM
  split
  · split
    · exact rdM_lens _
    · exact mz_lens
  · exact mz_lens
theorem ldM_lens (p : Pw) : (ldM p).sg.length < 256 ∧ (ldM p).ck.length < 256 := by
  unfold ldM
  split
  · exact tk_lens _
  · exact mz_lens
attribute [local go_sem ↓] ld_man st_man ld_rman st_rman
set_option maxHeartbeats 16000000 in
theorem law_swaps (l : List Stp) (lo : Option Addr) (cap n : Nat) (w : World) (hl : StAt w lo l) (hlen : l.length ≤ maxLen) (hn : n < 65536) (ht : Tab w) :
    Calls Tryz.prog 3 #[.slice lo l.length cap, .int .u16 (n : Int)] w fun E w' => E = .returned (.bool true) ∧ Below w.heap.size w w' := by
  have HA := Lib.hid hl
  have HT := Lib.hid ht
  simp only [maxLen] at hlen
  clear hl ht
  by_cases h8 : 8 < l.length
  · have i8 : (8 : Int) < (l.length : Int) := by omega
    clear h8
    go_enter Tryz.func3, Tryz.ntmps3
    go_wp2_with fail
    refine (awake_c w HT.out).mono ?_
    rintro R w2 ⟨rfl, hb2⟩
    go_wp2
    go_ret
    exact ⟨rfl, hb2⟩
  have i8 : ¬ (8 : Int) < (l.length : Int) := by omega
  obtain ⟨r, hr, hr2⟩ : ∃ r : Nat, (n : Int) % 3000 = (r : Int) ∧ r < 3000 := ⟨n % 3000, by omega, Nat.mod_lt _ (by decide)⟩
  have HR := Lib.hid hr
  go_enter Tryz.func3, Tryz.ntmps3
  go_upto_region 4 with fail
  clear i8 hr h8
  obtain ⟨y, hy, hy1, hy2⟩ : ∃ y : Int, y = 1 + (r : Int) ∧ 1 ≤ y ∧ y ≤ 3000 := ⟨_, rfl, by omega, by omega⟩
  try rw [HR.out]
  rw [← hy]
  clear hy HR hr2
  go_wp2_with fail
  refine (new_c y w).mono ?_
  rintro R w1 ⟨hb1, (⟨_, _, v, rfl, hd1⟩ | ⟨h1, _⟩)⟩
  rotate_left
  · omega
  obtain ⟨gd, rfl⟩ := hd1.ptr1
  have HD1 := Lib.hid hd1
  have HB1 := Lib.hid hb1
  clear hd1 hb1
  go_wp2_with fail
  refine (rnew_c y w1).mono ?_
  rintro R w2 ⟨hb2, (⟨_, _, v, rfl, hd2⟩ | ⟨h1, _⟩)⟩
  rotate_left
  · omega
  obtain ⟨gr, rfl⟩ := hd2.ptr
  have HB2 := Lib.hid (HB1.out.trans (hb2.mono HB1.out.size))
  have HQ1 := Lib.hid (show DkS (fun x => w.heap.size ≤ x ∧ x < w1.heap.size) w2 (.pointer (some ⟨gd, 0, none⟩)) y.toNat [] from (HD1.out.mono fun x hx h => ⟨h, hx⟩).new hb2)
  have HQ2 := Lib.hid (show RkS (fun x => w1.heap.size ≤ x) w2 (.pointer (some ⟨gr, 0, none⟩)) y.toNat [] from hd2)
  obtain ⟨q, hq⟩ : ∃ q, q = y.toNat := ⟨_, rfl⟩
  rw [← hq] at HQ1 HQ2
  have h1s := HB1.out.size
  have HPK : Hid (∃ S1 S2 : Nat → Prop, ∃ E, (∀ x, S1 x → w.heap.size ≤ x) ∧ (∀ x, S2 x → w.heap.size ≤ x) ∧ (∀ x, S1 x → ¬ S2 x) ∧ DkS S1 w2 (.pointer (some ⟨gd, 0, none⟩)) q E ∧ RkS S2 w2 (.pointer (some ⟨gr, 0, none⟩)) q E) :=
    ⟨_, _, [], fun x hx => hx.1, fun x hx => by omega, fun x h1 h2 => by have := h1.2; omega, HQ1.out, HQ2.out⟩
  clear hd2 hb2 HD1 HQ1 HQ2 HB1 hq h1s
  go_wp2
  go_loopw [8] (fun i wr => ∃ k : Nat, k ≤ l.length ∧ i = .int .i64 (k : Int) ∧ Hid (∃ S1 S2 : Nat → Prop, ∃ E, (∀ x, S1 x → w.heap.size ≤ x) ∧ (∀ x, S2 x → w.heap.size ≤ x) ∧ (∀ x, S1 x → ¬ S2 x) ∧ DkS S1 wr (.pointer (some ⟨gd, 0, none⟩)) q E ∧ RkS S2 wr (.pointer (some ⟨gr, 0, none⟩)) q E) ∧ Hid (Below w.heap.size w wr)) (fun i _ => l.length - (intOf i).toNat)
  case atStart => exact ⟨0, Nat.zero_le _, rfl, HPK.out, HB2.out⟩
  case round =>
    obtain ⟨k, hk, rfl, HPP, HB⟩ := hrel
    clear HPK HB2
    by_cases hlt : k < l.length
    · have hlt1 : (k : Int) < (l.length : Int) := by omega
      obtain ⟨bb, oo, so, sc, co, cc, ko, kc, hlo, hone⟩ := HA.out k hlt
      obtain ⟨s, hs⟩ : ∃ s, s = l[k]'hlt := ⟨_, rfl⟩
      rw [← hs] at hone
      have HO := Lib.hid hone
      subst hlo
      clear hs hone
      obtain ⟨R1, R2, E, hr1, hr2, hrd, hdk, hrk⟩ := HPP.out
      obtain ⟨S1, hS1⟩ : ∃ S : Nat → Prop, S = fun x => R1 x ∧ x < wr.heap.size := ⟨_, rfl⟩
      obtain ⟨S2, hS2⟩ : ∃ S : Nat → Prop, S = fun x => R2 x ∧ x < wr.heap.size := ⟨_, rfl⟩
      have HS1 := Lib.hid (show ∀ x, S1 x → w.heap.size ≤ x ∧ x < wr.heap.size from fun x hx => by rw [hS1] at hx; exact ⟨hr1 x hx.1, hx.2⟩)
      have HS2 := Lib.hid (show ∀ x, S2 x → w.heap.size ≤ x ∧ x < wr.heap.size from fun x hx => by rw [hS2] at hx; exact ⟨hr2 x hx.1, hx.2⟩)
      have HS12 := Lib.hid (show ∀ x, S1 x → ¬ S2 x from fun x hx h2 => by rw [hS1] at hx; rw [hS2] at h2; exact hrd x hx.1 h2.1)
      have HD := Lib.hid (show DkS S1 wr (.pointer (some ⟨gd, 0, none⟩)) q E from by rw [hS1]; exact hdk.mono fun x hx h => ⟨h, hx⟩)
      have HK := Lib.hid (show RkS S2 wr (.pointer (some ⟨gr, 0, none⟩)) q E from by rw [hS2]; exact hrk.mono fun x hx h => ⟨h, hx⟩)
      clear hS1 hS2 hr1 hr2 hrd hdk hrk HPP
      clear R1 R2
      have oR := HO.out.to HB.out
      have lm := oR.man
      have lk := oR.keep
      obtain ⟨z, hz⟩ : ∃ z, z = fewB s.m := ⟨_, rfl⟩
      have HF := fun W => few_c s.m so sc co cc W oR.m.l1 oR.m.l2
      rw [← hz] at HF
      have HZ := Lib.hid hz
      clear hz
      have hkl := oR.l
      simp only [maxLen] at hkl
      go_wp2_with fail
      refine (HF wr).mono ?_
      rintro R w2 ⟨rfl, hb2⟩
      have HB2 := Lib.hid (HB.out.trans (hb2.mono HB.out.size))
      have HW2 := Lib.hid hb2
      clear HF lm lk hb2
      cases z
      · go_wp2_with fail
        refine (awake_c w2 (tab_below HT.out HB2.out)).mono ?_
        rintro R w3 ⟨rfl, hb3⟩
        go_wp2
        go_ret
        exact ⟨rfl, HB2.out.trans (hb3.mono HB2.out.size)⟩
      have lk2 := (HO.out.to HB2.out).keep
      by_cases h10 : 10 < s.ks.length
      · have i10 : (10 : Int) < (s.ks.length : Int) := by omega
        clear h10
        go_wp2_with fail
        refine (awake_c w2 (tab_below HT.out HB2.out)).mono ?_
        rintro R w3 ⟨rfl, hb3⟩
        go_wp2
        go_ret
        exact ⟨rfl, HB2.out.trans (hb3.mono HB2.out.size)⟩
      have i10 : ¬ (10 : Int) < (s.ks.length : Int) := by omega
      have HKL := Lib.hid (show s.ks.length ≤ 10 by omega)
      have HFW := Lib.hid (show s.m.sg.length ≤ 50 ∧ s.m.ck.length ≤ 50 from by have := HZ.out; simpa [fewB] using this.symm)
      clear h10 HZ
      go_upto_region 12 with fail
      clear lk2 i10
      have a1 := fun W (hW : Below w.heap.size w W) => (HO.out.to hW).man
      have a2 := fun W (hW : Below w.heap.size w W) => (HO.out.to hW).fuse
      have a3 := fun W (hW : Below w.heap.size w W) => (HO.out.to hW).keep
      have o0 : Below w.heap.size w w2.drew := HB2.out.drew
      have HD2 := Lib.hid (show DkS S1 w2.drew (.pointer (some ⟨gd, 0, none⟩)) q E from HD.out.new (HW2.out.drew))
      have HK2 := Lib.hid (show RkS S2 w2.drew (.pointer (some ⟨gr, 0, none⟩)) q E from HK.out.new (HW2.out.drew))
      have HRS := Lib.hid (show wr.heap.size ≤ w2.drew.heap.size from HW2.out.drew.size)
      clear HD HK HW2
      refine wp_region_till (S := fun W => Below w.heap.size w W) (by kernel_rfl) ?_
      generalize w2.drew = wd at *
      refine wpTill_take (i := 0) (v := ?vq1) rfl (by kernel_rfl) (fun _ _ _ h => h) (Or.inl ⟨by rfl, ?hq1⟩) o0 ?rq1
      case hq1 => (intro W hW; (try dsimp only at hW); go_simp; try with_reducible rfl)
      simp only [Act.put, List.setIfInBounds_toArray, List.set_cons_zero, List.set_cons_succ, List.getElem_toArray, List.getElem_cons_succ, List.getElem_cons_zero]
      refine wpTill_take (i := 1) (v := ?vq2) rfl (by kernel_rfl) (fun _ _ _ h => h) (Or.inl ⟨by rfl, ?hq2⟩) o0 ?rq2
      case hq2 => (intro W hW; (try dsimp only at hW); go_simp; try with_reducible rfl)
      simp only [Act.put, List.setIfInBounds_toArray, List.set_cons_zero, List.set_cons_succ, List.getElem_toArray, List.getElem_cons_succ, List.getElem_cons_zero]
      refine wpTill_take (i := 2) (v := ?vq3) rfl (by kernel_rfl) (fun _ _ _ h => h) (Or.inl ⟨by rfl, ?hq3⟩) o0 ?rq3
      case hq3 => (intro W hW; (try dsimp only at hW); go_simp; try with_reducible rfl)
      simp only [Act.put, List.setIfInBounds_toArray, List.set_cons_zero, List.set_cons_succ, List.getElem_toArray, List.getElem_cons_succ, List.getElem_cons_zero]
      refine wpTill_take (i := 3) (v := ?vq4) rfl (by kernel_rfl) (fun _ _ _ h => h) (Or.inl ⟨by rfl, ?hq4⟩) o0 ?rq4
      case hq4 => (intro W hW; (try dsimp only at hW); go_simp; try with_reducible rfl)
      simp only [Act.put, List.setIfInBounds_toArray, List.set_cons_zero, List.set_cons_succ, List.getElem_toArray, List.getElem_cons_succ, List.getElem_cons_zero]
      refine wpTill_take (i := 4) (v := ?vq5) rfl (by kernel_rfl) (fun _ _ _ h => h) (Or.inl ⟨by rfl, ?hq5⟩) o0 ?rq5
      case hq5 => (intro W hW; (try dsimp only at hW); go_simp; try with_reducible rfl)
      simp only [Act.put, List.setIfInBounds_toArray, List.set_cons_zero, List.set_cons_succ, List.getElem_toArray, List.getElem_cons_succ, List.getElem_cons_zero]
      refine wpTill_take (i := 5) (v := ?vq6) rfl (by kernel_rfl) (fun _ _ _ h => h) (Or.inl ⟨by rfl, ?hq6⟩) o0 ?rq6
      case hq6 => (intro W hW; (try dsimp only at hW); go_simp; try with_reducible rfl)
      simp only [Act.put, List.setIfInBounds_toArray, List.set_cons_zero, List.set_cons_succ, List.getElem_toArray, List.getElem_cons_succ, List.getElem_cons_zero]
      refine wpTill_take (i := 6) (v := ?vq7) rfl (by kernel_rfl) (fun _ _ _ h => h) (Or.inl ⟨by rfl, ?hq7⟩) o0 ?rq7
      case hq7 => (intro W hW; (try dsimp only at hW); go_simp; try with_reducible rfl)
      simp only [Act.put, List.setIfInBounds_toArray, List.set_cons_zero, List.set_cons_succ, List.getElem_toArray, List.getElem_cons_succ, List.getElem_cons_zero]
      refine wpTill_take (i := 7) (v := ?vq8) rfl (by kernel_rfl) (fun _ _ _ h => h) (Or.inl ⟨by rfl, ?hq8⟩) o0 ?rq8
      case hq8 => (intro W hW; (try dsimp only at hW); go_simp; try with_reducible rfl)
      simp only [Act.put, List.setIfInBounds_toArray, List.set_cons_zero, List.set_cons_succ, List.getElem_toArray, List.getElem_cons_succ, List.getElem_cons_zero]
      refine wpTill_take (i := 8) (v := ?vq9) rfl (by kernel_rfl) (fun _ _ _ h => h) (Or.inl ⟨by rfl, ?hq9⟩) o0 ?rq9
      case hq9 => (intro W hW; (try dsimp only at hW); go_simp; try with_reducible rfl)
      simp only [Act.put, List.setIfInBounds_toArray, List.set_cons_zero, List.set_cons_succ, List.getElem_toArray, List.getElem_cons_succ, List.getElem_cons_zero]
      refine wpTill_take (i := 9) (v := ?vq10) rfl (by kernel_rfl) (fun _ _ _ h => h) (Or.inl ⟨by rfl, ?hq10⟩) o0 ?rq10
      case hq10 => (intro W hW; (try dsimp only at hW); go_simp; try with_reducible rfl)
      simp only [Act.put, List.setIfInBounds_toArray, List.set_cons_zero, List.set_cons_succ, List.getElem_toArray, List.getElem_cons_succ, List.getElem_cons_zero]
      refine wpTill_take (i := 10) (v := ?vq11) rfl (by kernel_rfl) (fun _ _ _ h => h) (Or.inl ⟨by rfl, ?hq11⟩) o0 ?rq11
      case hq11 => (intro W hW; (try dsimp only at hW); go_simp; try with_reducible rfl)
      simp only [Act.put, List.setIfInBounds_toArray, List.set_cons_zero, List.set_cons_succ, List.getElem_toArray, List.getElem_cons_succ, List.getElem_cons_zero]
      refine wpTill_run (i := 11) (by kernel_rfl) rfl o0 (fun K hK => ?_)
      go_simp
      go_at_call 10
      refine (pnew_c s.fu ko s.ks kc wd HD2.out (HO.out.to o0).k (by have := HKL.out; omega)).mono ?_
      rintro R w6 ⟨gp, ko6, kc6, rfl, hgp, hko, hp6, hb6⟩
      have HP6 := Lib.hid (hp6.mono (S' := S1) (fun x hx => ⟨fun h => h.1, fun h => ⟨h, Nat.lt_of_lt_of_le (HS1.out x h).2 HRS.out⟩⟩))
      have o6 := o0.trans (hb6.mono o0.size)
      have HK6 := Lib.hid (HK2.out.new hb6)
      have HGP := Lib.hid hgp
      have HKO := Lib.hid hko
      have HB6 := Lib.hid hb6.size
      clear hp6 hgp hko hb6 HD2 HK2
      refine hK _ _ ?_
      clear hK K
      refine wpTill_run (i := 12) (by kernel_rfl) rfl o6 (fun K hK => ?_)
      go_simp
      refine hK _ _ ?_
      clear hK K
      refine wpTill_done (by kernel_rfl) ?_
      have HO6 := Lib.hid o6
      clear o0 o6
      have a2 := fun W (hW : Below w.heap.size w W) => (HO.out.to hW).fuse
      have a3 := fun W (hW : Below w.heap.size w W) => (HO.out.to hW).keep
      go_upto_region 13 with fail
      go_cut [10] (fun v wx => ∃ h : Nat, v = .pointer (some ⟨h, 0, none⟩) ∧ Hid (BothP w wx gp gd h gr q ko6 ko kc6 kc ⟨s.fu, s.ks, 0, false, E⟩ ⟨s.fu, s.ks, 0, false, E⟩ S1 S2))
      case first =>
        have o7 : Below w.heap.size w w6.drew := HO6.out.drew
        refine wp_region_till (S := fun W => Below w.heap.size w W) (by kernel_rfl) ?_
        refine wpTill_take (i := 0) (v := ?vq12) rfl (by kernel_rfl) (fun _ _ _ h => h) (Or.inl ⟨by rfl, ?hq12⟩) o7 ?rq12
        case hq12 => (intro W hW; (try dsimp only at hW); go_simp; try with_reducible rfl)
        simp only [Act.put, List.setIfInBounds_toArray, List.set_cons_zero, List.set_cons_succ, List.getElem_toArray, List.getElem_cons_succ, List.getElem_cons_zero]
        refine wpTill_take (i := 1) (v := ?vq13) rfl (by kernel_rfl) (fun _ _ _ h => h) (Or.inl ⟨by rfl, ?hq13⟩) o7 ?rq13
        case hq13 => (intro W hW; (try dsimp only at hW); go_simp; try with_reducible rfl)
        simp only [Act.put, List.setIfInBounds_toArray, List.set_cons_zero, List.set_cons_succ, List.getElem_toArray, List.getElem_cons_succ, List.getElem_cons_zero]
        refine wpTill_take (i := 2) (v := ?vq14) rfl (by kernel_rfl) (fun _ _ _ h => h) (Or.inl ⟨by rfl, ?hq14⟩) o7 ?rq14
        case hq14 => (intro W hW; (try dsimp only at hW); go_simp; try with_reducible rfl)
        simp only [Act.put, List.setIfInBounds_toArray, List.set_cons_zero, List.set_cons_succ, List.getElem_toArray, List.getElem_cons_succ, List.getElem_cons_zero]
        refine wpTill_take (i := 3) (v := ?vq15) rfl (by kernel_rfl) (fun _ _ _ h => h) (Or.inl ⟨by rfl, ?hq15⟩) o7 ?rq15
        case hq15 => (intro W hW; (try dsimp only at hW); go_simp; try with_reducible rfl)
        simp only [Act.put, List.setIfInBounds_toArray, List.set_cons_zero, List.set_cons_succ, List.getElem_toArray, List.getElem_cons_succ, List.getElem_cons_zero]
        refine wpTill_take (i := 4) (v := ?vq16) rfl (by kernel_rfl) (fun _ _ _ h => h) (Or.inl ⟨by rfl, ?hq16⟩) o7 ?rq16
        case hq16 => (intro W hW; (try dsimp only at hW); go_simp; try with_reducible rfl)
        simp only [Act.put, List.setIfInBounds_toArray, List.set_cons_zero, List.set_cons_succ, List.getElem_toArray, List.getElem_cons_succ, List.getElem_cons_zero]
        refine wpTill_take (i := 5) (v := ?vq17) rfl (by kernel_rfl) (fun _ _ _ h => h) (Or.inl ⟨by rfl, ?hq17⟩) o7 ?rq17
        case hq17 => (intro W hW; (try dsimp only at hW); go_simp; try with_reducible rfl)
        simp only [Act.put, List.setIfInBounds_toArray, List.set_cons_zero, List.set_cons_succ, List.getElem_toArray, List.getElem_cons_succ, List.getElem_cons_zero]
        refine wpTill_take (i := 6) (v := ?vq18) rfl (by kernel_rfl) (fun _ _ _ h => h) (Or.inl ⟨by rfl, ?hq18⟩) o7 ?rq18
        case hq18 => (intro W hW; (try dsimp only at hW); go_simp; try with_reducible rfl)
        simp only [Act.put, List.setIfInBounds_toArray, List.set_cons_zero, List.set_cons_succ, List.getElem_toArray, List.getElem_cons_succ, List.getElem_cons_zero]
        refine wpTill_take (i := 7) (v := ?vq19) rfl (by kernel_rfl) (fun _ _ _ h => h) (Or.inl ⟨by rfl, ?hq19⟩) o7 ?rq19
        case hq19 => (intro W hW; (try dsimp only at hW); go_simp; try with_reducible rfl)
        simp only [Act.put, List.setIfInBounds_toArray, List.set_cons_zero, List.set_cons_succ, List.getElem_toArray, List.getElem_cons_succ, List.getElem_cons_zero]
        refine wpTill_take (i := 8) (v := ?vq20) rfl (by kernel_rfl) (fun _ _ _ h => h) (Or.inl ⟨by rfl, ?hq20⟩) o7 ?rq20
        case hq20 => (intro W hW; (try dsimp only at hW); go_simp; try with_reducible rfl)
        simp only [Act.put, List.setIfInBounds_toArray, List.set_cons_zero, List.set_cons_succ, List.getElem_toArray, List.getElem_cons_succ, List.getElem_cons_zero]
        refine wpTill_take (i := 9) (v := ?vq21) rfl (by kernel_rfl) (fun _ _ _ h => h) (Or.inl ⟨by rfl, ?hq21⟩) o7 ?rq21
        case hq21 => (intro W hW; (try dsimp only at hW); go_simp; try with_reducible rfl)
        simp only [Act.put, List.setIfInBounds_toArray, List.set_cons_zero, List.set_cons_succ, List.getElem_toArray, List.getElem_cons_succ, List.getElem_cons_zero]
        refine wpTill_take (i := 10) (v := ?vq22) rfl (by kernel_rfl) (fun _ _ _ h => h) (Or.inl ⟨by rfl, ?hq22⟩) o7 ?rq22
        case hq22 => (intro W hW; (try dsimp only at hW); go_simp; try with_reducible rfl)
        simp only [Act.put, List.setIfInBounds_toArray, List.set_cons_zero, List.set_cons_succ, List.getElem_toArray, List.getElem_cons_succ, List.getElem_cons_zero]
        refine wpTill_take (i := 11) (v := ?vq23) rfl (by kernel_rfl) (fun _ _ _ h => h) (Or.inl ⟨by rfl, ?hq23⟩) o7 ?rq23
        case hq23 => (intro W hW; (try dsimp only at hW); go_simp; try with_reducible rfl)
        simp only [Act.put, List.setIfInBounds_toArray, List.set_cons_zero, List.set_cons_succ, List.getElem_toArray, List.getElem_cons_succ, List.getElem_cons_zero]
        refine wpTill_run (i := 12) (by kernel_rfl) rfl o7 (fun K hK => ?_)
        go_simp
        have o8 : Below w.heap.size w (w6.drew.alloc (.cells (qcs gr ko kc ⟨s.fu, s.ks, 0, false, E⟩) 42)) := o7.trans ((mb_alloc w6.drew _).mono o7.size)
        refine hK _ _ ?_
        clear hK K
        refine wpTill_run (i := 13) (by kernel_rfl) rfl o8 (fun K hK => ?_)
        go_simp
        refine hK _ _ ?_
        clear hK K
        refine wpTill_done (by kernel_rfl) ?_
        have P8 : Hid (BothP w (w6.drew.alloc (.cells (qcs gr ko kc ⟨s.fu, s.ks, 0, false, E⟩) 42)) gp gd w6.heap.size gr q ko6 ko kc6 kc ⟨s.fu, s.ks, 0, false, E⟩ ⟨s.fu, s.ks, 0, false, E⟩ S1 S2) := by
          have hd : Below w6.heap.size w6 (w6.drew.alloc (.cells (qcs gr ko kc ⟨s.fu, s.ks, 0, false, E⟩) 42)) := (Below.refl _ w6).drew.trans (mb_alloc w6.drew _)
          have hO := HO6.out.size
          have hkr := HO.out.k
          have hb6 := HB6.out
          have hrs := HRS.out
          have hgp := HGP.out
          have hgl := HP6.out.lt
          have hwr := HB.out.size
          have hki : ∀ a, ko = some a → s.ks ≠ [] → a.block < w.heap.size := fun a e hn => by
            obtain ⟨b, o', e2, hc, _⟩ := hkr 0 (List.length_pos_iff.2 hn)
            rw [e] at e2
            cases e2
            exact World.block_lt_of_cell? w _ hc
          refine ⟨HP6.out.new hd, ⟨Cells.made w6.drew _ _, (HO.out.to o8).k, by show s.ks.length ≤ 20; have := HKL.out; omega, fun a e hn => ⟨⟨fun hx => ?_, ?_⟩, ?_⟩, fun hx => ?_, HK6.out.new hd⟩, HS12.out, by omega, fun hx => ?_, fun hx => ?_, fun a e hn => ⟨?_, fun hx => ?_⟩, fun a e hn => ⟨?_, fun hx => ?_⟩, fun x hx => ?_, fun x hx => ?_, o8⟩
          · have := hki a e hn; have := (HS2.out _ hx).1; omega
          · have := hki a e hn; show a.block ≠ w6.heap.size; omega
          · have := hki a e hn; have := o8.size; omega
          · have := (HS2.out _ hx).2; have h : w6.heap.size < wr.heap.size := this; omega
          · have := (HS2.out _ hx).2; omega
          · have := (HS1.out _ hx).2; omega
          · have := (HP6.out.kf a e hn).2; omega
          · have := HKO.out a e hn; have := (HS2.out _ hx).2; omega
          · have := hki a e hn; omega
          · have := hki a e hn; have := (HS1.out _ hx).1; omega
          · rcases hx with hx | hx
            · omega
            · exact (HS1.out _ hx).1
          · rcases hx with hx | hx
            · omega
            · exact (HS2.out _ hx).1
        go_wp2_with fail
        go_meet
        exact ⟨_, rfl, P8.out⟩
      case rest =>
      obtain ⟨h, rfl, HP⟩ := hcut
      clear HP6 HO6 HK6 HGP HKO HB6 HRS HB2 a2 a3 HS1 HS2 HS12 HB
      obtain ⟨p0, hp0⟩ : ∃ p0 : Pw, p0 = ⟨s.fu, s.ks, 0, false, E⟩ := ⟨_, rfl⟩
      have HP0 := Lib.hid (show p0.n = 0 from by rw [hp0])
      rw [← hp0] at HP
      clear hp0
      have lm := (HO.out.to HP.out.be).man
      have HW1 := Lib.hid HP.out.wide1
      go_wp2_with fail
      refine (swap_c s.m so sc co cc _ HW1.out.d (fun x hx => .inr hx) (HO.out.to HW1.out.be).m (by rw [HP0.out]; decide) (pn_names HW1.out.d) (tab_below HT.out HW1.out.be)).mono ?_
      rintro R w9 ⟨rfl, hp9, ht9⟩
      have B9 := Lib.hid ((HW1.out.s1 hp9 (swP_ks _ _ _) ht9).trim)
      clear HP HW1 hp9 ht9 lm
      obtain ⟨e, he⟩ : ∃ e : Int, e = ((swE q s.m p0 : Nat) : Int) := ⟨_, rfl⟩
      rw [← he]
      have KS : Hid (∀ (W : World) (T : Nat → Prop) so3 sc3 co3 cc3, QwC T W h gr q ko kc p0 → (∀ x, W.heap.size ≤ x → T x) → MfAt W s.m so3 co3 → Calls Tryz.prog 12 #[.pointer (some ⟨h, 0, none⟩), .agg (mcs s.m so3 sc3 co3 cc3)] W fun R w' => R = .returned (.int .i64 e) ∧ QwC T w' h gr q ko kc (swP q s.m p0) ∧ Tu (fun x => x = h ∨ T x) W w') := fun W T so3 sc3 co3 cc3 h1 h2 h3 => by
        have := rswap_c s.m so3 sc3 co3 cc3 W h1 h2 h3 (by rw [HP0.out]; decide)
        unfold RwPost at this
        rw [← he] at this
        exact this
      have hN9 : Hid ((swP q s.m p0).n ≤ p0.n + 5) := swP_n _ _ _
      have hKS9 : Hid ((swP q s.m p0).ks = p0.ks) := swP_ks _ _ _
      obtain ⟨p1, hp1⟩ : ∃ p1, p1 = swP q s.m p0 := ⟨_, rfl⟩
      rw [← hp1] at B9 KS hN9 hKS9
      clear hp1 he
      go_upto_region 17 with fail
      have a1 := fun W (hW : Below w.heap.size w W) => (HO.out.to hW).man
      have hee : (e != e) = false := bne_self_eq_false e
      have hnn : ((p1.n : Int) != (p1.n : Int)) = false := bne_self_eq_false _
      have C9 := Lib.hid (B9.out.new (Below.refl _ w9).drew)
      clear B9
      have o9 : Below w.heap.size w w9.drew := C9.out.be
      go_cut [105] (fun v wx => v = .bool false ∧ Hid (∃ T1 T2, BothP w wx gp gd h gr q ko6 ko kc6 kc p1 p1 T1 T2))
      case first =>
        refine wp_region_till (S := fun W => Below w.heap.size w W) (by kernel_rfl) ?_
        refine wpTill_take (i := 0) (v := ?vq24) rfl (by kernel_rfl) (fun _ _ _ h => h) (Or.inl ⟨by rfl, ?hq24⟩) o9 ?rq24
        case hq24 => (intro W hW; (try dsimp only at hW); go_simp; try with_reducible rfl)
        simp only [Act.put, List.setIfInBounds_toArray, List.set_cons_zero, List.set_cons_succ, List.getElem_toArray, List.getElem_cons_succ, List.getElem_cons_zero]
        refine wpTill_take (i := 1) (v := ?vq25) rfl (by kernel_rfl) (fun _ _ _ h => h) (Or.inl ⟨by rfl, ?hq25⟩) o9 ?rq25
        case hq25 => (intro W hW; (try dsimp only at hW); go_simp; try with_reducible rfl)
        simp only [Act.put, List.setIfInBounds_toArray, List.set_cons_zero, List.set_cons_succ, List.getElem_toArray, List.getElem_cons_succ, List.getElem_cons_zero]
        refine wpTill_take (i := 2) (v := ?vq26) rfl (by kernel_rfl) (fun _ _ _ h => h) (Or.inl ⟨by rfl, ?hq26⟩) o9 ?rq26
        case hq26 => (intro W hW; (try dsimp only at hW); go_simp; try with_reducible rfl)
        simp only [Act.put, List.setIfInBounds_toArray, List.set_cons_zero, List.set_cons_succ, List.getElem_toArray, List.getElem_cons_succ, List.getElem_cons_zero]
        refine wpTill_take (i := 3) (v := ?vq27) rfl (by kernel_rfl) (fun _ _ _ h => h) (Or.inl ⟨by rfl, ?hq27⟩) o9 ?rq27
        case hq27 => (intro W hW; (try dsimp only at hW); go_simp; try with_reducible rfl)
        simp only [Act.put, List.setIfInBounds_toArray, List.set_cons_zero, List.set_cons_succ, List.getElem_toArray, List.getElem_cons_succ, List.getElem_cons_zero]
        refine wpTill_take (i := 4) (v := ?vq28) rfl (by kernel_rfl) (fun _ _ _ h => h) (Or.inl ⟨by rfl, ?hq28⟩) o9 ?rq28
        case hq28 => (intro W hW; (try dsimp only at hW); go_simp; try with_reducible rfl)
        simp only [Act.put, List.setIfInBounds_toArray, List.set_cons_zero, List.set_cons_succ, List.getElem_toArray, List.getElem_cons_succ, List.getElem_cons_zero]
        refine wpTill_take (i := 5) (v := ?vq29) rfl (by kernel_rfl) (fun _ _ _ h => h) (Or.inl ⟨by rfl, ?hq29⟩) o9 ?rq29
        case hq29 => (intro W hW; (try dsimp only at hW); go_simp; try with_reducible rfl)
        simp only [Act.put, List.setIfInBounds_toArray, List.set_cons_zero, List.set_cons_succ, List.getElem_toArray, List.getElem_cons_succ, List.getElem_cons_zero]
        refine wpTill_take (i := 6) (v := ?vq30) rfl (by kernel_rfl) (fun _ _ _ h => h) (Or.inl ⟨by rfl, ?hq30⟩) o9 ?rq30
        case hq30 => (intro W hW; (try dsimp only at hW); go_simp; try with_reducible rfl)
        simp only [Act.put, List.setIfInBounds_toArray, List.set_cons_zero, List.set_cons_succ, List.getElem_toArray, List.getElem_cons_succ, List.getElem_cons_zero]
        refine wpTill_run (i := 7) (by kernel_rfl) rfl o9 (fun K hK => ?_)
        go_simp
        go_at_call 13
        refine (theirs_c s.m so sc co cc _ (HO.out.to o9).m HO.out.n (by have := HFW.out; omega) (by have := HFW.out; omega)).mono ?_
        rintro R w10 ⟨so3, sc3, co3, cc3, rfl, hm3, hb3⟩
        have B10 := Lib.hid ((C9.out.new hb3).wide2)
        have HM10 := Lib.hid hm3
        have o10 : Below w.heap.size w w10 := B10.out.be
        clear hm3 hb3 C9
        refine hK _ _ ?_
        clear hK K
        refine wpTill_run (i := 8) (by kernel_rfl) rfl o10 (fun K hK => ?_)
        go_simp
        go_at_call 12
        refine (KS.out w10 _ so3 sc3 co3 cc3 B10.out.r (fun x hx => .inr hx) HM10.out).mono ?_
        rintro R w11 ⟨rfl, hr11, ht11⟩
        have B11 := Lib.hid (B10.out.s2 hr11 hKS9.out ht11)
        have o11 : Below w11.heap.size w11 w11 := Below.refl _ _
        have c3 := fun W (hW : Below w11.heap.size w11 W) => (B11.out.r.new hW).c3
        clear hr11 ht11 B10 HM10
        refine hK _ _ ?_
        clear hK K
        refine wpTill_weak (S' := fun W => Below w11.heap.size w11 W) (fun W hW => B11.out.be.trans (hW.mono B11.out.be.size)) _ _ _ _ ?_
        refine wpTill_take (i := 9) (v := ?vq31) rfl (by kernel_rfl) (fun _ _ _ h => h) (Or.inl ⟨by rfl, ?hq31⟩) o11 ?rq31
        case hq31 => (intro W hW; (try dsimp only at hW); go_simp; try with_reducible rfl)
        simp only [Act.put, List.setIfInBounds_toArray, List.set_cons_zero, List.set_cons_succ, List.getElem_toArray, List.getElem_cons_succ, List.getElem_cons_zero]
        refine wpTill_take (i := 10) (v := ?vq32) rfl (by kernel_rfl) (fun _ _ _ h => h) (Or.inl ⟨by rfl, ?hq32⟩) o11 ?rq32
        case hq32 => (intro W hW; (try dsimp only at hW); go_simp; try with_reducible rfl)
        simp only [Act.put, List.setIfInBounds_toArray, List.set_cons_zero, List.set_cons_succ, List.getElem_toArray, List.getElem_cons_succ, List.getElem_cons_zero]
        refine wpTill_take (i := 11) (v := ?vq33) rfl (by kernel_rfl) (fun _ _ _ h => h) (Or.inl ⟨by rfl, ?hq33⟩) o11 ?rq33
        case hq33 => (intro W hW; (try dsimp only at hW); go_simp; try with_reducible rfl)
        simp only [Act.put, List.setIfInBounds_toArray, List.set_cons_zero, List.set_cons_succ, List.getElem_toArray, List.getElem_cons_succ, List.getElem_cons_zero]
        refine wpTill_take (i := 13) (v := ?vq34) rfl (by kernel_rfl) (fun _ _ _ h => h) (Or.inl ⟨by rfl, ?hq34⟩) o11 ?rq34
        case hq34 => (intro W hW; (try dsimp only at hW); go_simp; try with_reducible rfl)
        simp only [Act.put, List.setIfInBounds_toArray, List.set_cons_zero, List.set_cons_succ, List.getElem_toArray, List.getElem_cons_succ, List.getElem_cons_zero]
        refine wpTill_take (i := 14) (v := ?vq35) rfl (by kernel_rfl) (fun _ _ _ h => h) (Or.inl ⟨by rfl, ?hq35⟩) o11 ?rq35
        case hq35 => (intro W hW; (try dsimp only at hW); go_simp; try with_reducible rfl)
        simp only [Act.put, List.setIfInBounds_toArray, List.set_cons_zero, List.set_cons_succ, List.getElem_toArray, List.getElem_cons_succ, List.getElem_cons_zero]
        refine wpTill_take (i := 15) (v := ?vq36) rfl (by kernel_rfl) (fun _ _ _ h => h) (Or.inl ⟨by rfl, ?hq36⟩) o11 ?rq36
        case hq36 => (intro W hW; (try dsimp only at hW); go_simp; try with_reducible rfl)
        simp only [Act.put, List.setIfInBounds_toArray, List.set_cons_zero, List.set_cons_succ, List.getElem_toArray, List.getElem_cons_succ, List.getElem_cons_zero]
        refine wpTill_take (i := 16) (v := ?vq37) rfl (by kernel_rfl) (fun _ _ _ h => h) (Or.inl ⟨by rfl, ?hq37⟩) o11 ?rq37
        case hq37 => (intro W hW; (try dsimp only at hW); go_simp; try with_reducible rfl)
        simp only [Act.put, List.setIfInBounds_toArray, List.set_cons_zero, List.set_cons_succ, List.getElem_toArray, List.getElem_cons_succ, List.getElem_cons_zero]
        refine wpTill_run (i := 12) (by kernel_rfl) rfl o11 (fun K hK => ?_)
        go_simp
        go_at_call 14
        refine (pwrites_c w11 B11.out.d).mono ?_
        rintro R w12 ⟨rfl, rfl⟩
        refine hK _ _ ?_
        clear hK K
        refine wpTill_take (i := 17) (v := ?vq38) rfl (by kernel_rfl) (fun _ _ _ h => h) (Or.inl ⟨by rfl, ?hq38⟩) o11 ?rq38
        case hq38 => (intro W hW; (try dsimp only at hW); go_simp; try with_reducible rfl)
        simp only [Act.put, List.setIfInBounds_toArray, List.set_cons_zero, List.set_cons_succ, List.getElem_toArray, List.getElem_cons_succ, List.getElem_cons_zero]
        refine wpTill_run (i := 18) (by kernel_rfl) rfl o11 (fun K hK => ?_)
        go_simp
        refine hK _ _ ?_
        clear hK K
        refine wpTill_done (by kernel_rfl) ?_
        go_wp2_with fail
        go_meet
        exact ⟨rfl, _, _, B11.out⟩
      case rest =>
      obtain ⟨rfl, HBP⟩ := hcut
      clear C9 KS o9 a1 hee hnn
      obtain ⟨T1, T2, hbp⟩ := HBP.out
      have B12 := Lib.hid hbp
      clear hbp HBP
      have HLN := Lib.hid (ldM_lens p1)
      go_wp2_with fail
      refine (load_c _ B12.out.d (tab_below HT.out B12.out.be)).mono ?_
      rintro R w13 ⟨so4, sc4, co4, cc4, rfl, hm4, hb4, -, -, hn4⟩
      have KR : Hid (∀ W (T : Nat → Prop), QwC T W h gr q ko kc p1 → Calls Tryz.prog 16 #[.pointer (some ⟨h, 0, none⟩)] W (ManPost W (ldM p1) (ldC p1))) := fun W T hW => rload_c W hW
      obtain ⟨m2, hm2⟩ : ∃ m2, m2 = ldM p1 := ⟨_, rfl⟩
      obtain ⟨f, hf⟩ : ∃ f, f = ldC p1 := ⟨_, rfl⟩
      rw [← hm2] at KR HLN hm4 ⊢
      rw [← hf] at KR ⊢
      clear hm2 hf
      have HN4 := Lib.hid hn4
      have B13 := B12.out.new hb4
      have L13 := Loc.nil (B := w.heap.size) (w := w13) B13.be.size
      obtain ⟨g14, w14, z14, s14, H14, q14⟩ := L13.newA ty_man #[.int .u64 0, .int .u8 0, .slice none 0 0, .slice none 0 0] (mcs m2 so4 sc4 co4 cc4) rfl rfl rfl
      have B14 := Lib.hid (B13.new (below_of_grown q14))
      have A14 := Lib.hid (hm4.to (below_of_grown q14))
      clear hm4 hb4 hn4 q14 B13 L13 B12
      go_wp2_with fail
      clear s14 z14
      refine (KR.out w14 _ B14.out.r).mono ?_
      rintro R w15 ⟨so5, sc5, co5, cc5, rfl, hm5, hb5, -⟩
      have B15 := B14.out.new hb5
      have H15 := H14.to hb5
      have A15 := A14.out.to hb5
      obtain ⟨g16, w16, z16, s16, H16, q16⟩ := H15.newA ty_rman #[.int .u64 0, .int .u8 0, .slice none 0 0, .slice none 0 0] (mcs m2 so5 sc5 co5 cc5) rfl rfl rfl
      replace H16 : Loc _ _ _ [(g14, 34, mcs m2 so4 sc4 co4 cc4), (g16, 48, mcs m2 so5 sc5 co5 cc5)] := H16
      have B16 := Lib.hid (B15.new (below_of_grown q16))
      have A16 := Lib.hid (A15.to (below_of_grown q16))
      have C16 := Lib.hid (hm5.to (below_of_grown q16))
      clear hm5 hb5 q16 B15 H15 A15 B14 A14 H14 KR
      go_upto_region 21 with fail
      clear s16 z16
      have a1 := H16.onA ty_man 0 rfl 0 (vs := mcs m2 so4 sc4 co4 cc4) rfl (Nat.le_of_ble_eq_true rfl)
      have a2 := H16.onA ty_rman 1 rfl 0 (vs := mcs m2 so5 sc5 co5 cc5) rfl (Nat.le_of_ble_eq_true rfl)
      have hff : (f != f) = false := bne_self_eq_false f
      have LD : Hid (∀ W, Below w16.heap.size w16 W → Calls Tryz.prog 18 #[.pointer (some ⟨gd, 0, none⟩)] W fun R w' => ∃ u, R = .returned u ∧ Lst w' W.heap.size u (p1.E.map Ent.nm) ∧ Below W.heap.size W w') := fun W hW => list_s W (B16.out.new hW).d.dk
      have LU : Hid (∀ W, Below w16.heap.size w16 W → Calls Tryz.prog 20 #[.pointer (some ⟨gd, 0, none⟩)] W fun R w' => R = .returned (.int .i64 (used p1.E)) ∧ Below W.heap.size W w') := fun W hW => used_s W (B16.out.new hW).d.dk
      have LR : Hid (∀ W, Below w16.heap.size w16 W → Calls Tryz.prog 19 #[.pointer (some ⟨gr, 0, none⟩)] W fun R w' => ∃ u, R = .returned u ∧ Lst w' W.heap.size u (p1.E.map Ent.nm) ∧ Below W.heap.size W w') := fun W hW => by
        obtain ⟨ao, cp, hk⟩ := RkS.of (B16.out.new hW).r.rk
        exact rlist_c hk
      have LV : Hid (∀ W, Below w16.heap.size w16 W → Calls Tryz.prog 21 #[.pointer (some ⟨gr, 0, none⟩)] W fun R w' => R = .returned (.int .i64 (used p1.E)) ∧ W = w') := fun W hW => by
        obtain ⟨ao, cp, hk⟩ := RkS.of (B16.out.new hW).r.rk
        exact rused_c hk
      obtain ⟨us, hus⟩ : ∃ us : Int, us = (used p1.E : Int) := ⟨_, rfl⟩
      rw [← hus] at LU LV
      obtain ⟨NN, hNN⟩ : ∃ NN, NN = p1.E.map Ent.nm := ⟨_, rfl⟩
      rw [← hNN] at LD LR
      clear hus hNN
      have huu : (us != us) = false := bne_self_eq_false us
      have hll : ((NN.length : Int) != (NN.length : Int)) = false := bne_self_eq_false _
      have o0 : G.On w16.heap.size w16 w16.drew := (Below.refl _ w16).drew
      go_cut [141] (fun v wx => v = .bool false ∧ Hid (Below w16.heap.size w16 wx))
      case first =>
        refine wp_region_till (S := fun W => G.On w16.heap.size w16 W) (by kernel_rfl) ?_
        refine wpTill_take (i := 0) (v := ?vq39) rfl (by kernel_rfl) (fun _ _ _ h => h) (Or.inl ⟨by rfl, ?hq39⟩) o0 ?rq39
        case hq39 => (intro W hW; (try dsimp only at hW); go_simp; try with_reducible rfl)
        simp only [Act.put, List.setIfInBounds_toArray, List.set_cons_zero, List.set_cons_succ, List.getElem_toArray, List.getElem_cons_succ, List.getElem_cons_zero]
        refine wpTill_take (i := 2) (v := ?vq40) rfl (by kernel_rfl) (fun _ _ _ h => h) (Or.inl ⟨by rfl, ?hq40⟩) o0 ?rq40
        case hq40 => (intro W hW; (try dsimp only at hW); go_simp; try with_reducible rfl)
        simp only [Act.put, List.setIfInBounds_toArray, List.set_cons_zero, List.set_cons_succ, List.getElem_toArray, List.getElem_cons_succ, List.getElem_cons_zero]
        refine wpTill_run (i := 1) (by kernel_rfl) rfl o0 (fun K hK => ?_)
        go_simp
        go_at_call 13
        refine (theirs_c m2 so4 sc4 co4 cc4 _ (A16.out.to o0) HN4.out (by have := HLN.out; omega) (by have := HLN.out; omega)).mono ?_
        rintro R w17 ⟨so6, sc6, co6, cc6, rfl, hm6, hb6⟩
        have o1 := G.on_step (wd := w16) o0 hb6
        refine hK _ _ ?_
        clear hK K
        refine wpTill_run (i := 3) (by kernel_rfl) rfl o1 (fun K hK => ?_)
        go_simp
        go_at_call 17
        refine (rsame_c m2 m2 so6 sc6 co6 cc6 so5 sc5 co5 cc5 w17 hm6 (C16.out.to o1)).mono ?_
        rintro R w18 ⟨rfl, hb7⟩
        rw [smB_self]
        have o2 := G.on_step (wd := w16) o1 hb7
        refine hK _ _ ?_
        clear hK K
        refine wpTill_take (i := 4) (v := ?vq41) rfl (by kernel_rfl) (fun _ _ _ h => h) (Or.inl ⟨by rfl, ?hq41⟩) o2 ?rq41
        case hq41 => (intro W hW; (try dsimp only at hW); go_simp; try with_reducible rfl)
        simp only [Act.put, List.setIfInBounds_toArray, List.set_cons_zero, List.set_cons_succ, List.getElem_toArray, List.getElem_cons_succ, List.getElem_cons_zero]
        refine wpTill_take (i := 5) (v := ?vq42) rfl (by kernel_rfl) (fun _ _ _ h => h) (Or.inl ⟨by rfl, ?hq42⟩) o2 ?rq42
        case hq42 => (intro W hW; (try dsimp only at hW); go_simp; try with_reducible rfl)
        simp only [Act.put, List.setIfInBounds_toArray, List.set_cons_zero, List.set_cons_succ, List.getElem_toArray, List.getElem_cons_succ, List.getElem_cons_zero]
        refine wpTill_take (i := 6) (v := ?vq43) rfl (by kernel_rfl) (fun _ _ _ h => h) (Or.inl ⟨by rfl, ?hq43⟩) o2 ?rq43
        case hq43 => (intro W hW; (try dsimp only at hW); go_simp; try with_reducible rfl)
        simp only [Act.put, List.setIfInBounds_toArray, List.set_cons_zero, List.set_cons_succ, List.getElem_toArray, List.getElem_cons_succ, List.getElem_cons_zero]
        refine wpTill_take (i := 7) (v := ?vq44) rfl (by kernel_rfl) (fun _ _ _ h => h) (Or.inl ⟨by rfl, ?hq44⟩) o2 ?rq44
        case hq44 => (intro W hW; (try dsimp only at hW); go_simp; try with_reducible rfl)
        simp only [Act.put, List.setIfInBounds_toArray, List.set_cons_zero, List.set_cons_succ, List.getElem_toArray, List.getElem_cons_succ, List.getElem_cons_zero]
        refine wpTill_take (i := 8) (v := ?vq45) rfl (by kernel_rfl) (fun _ _ _ h => h) (Or.inl ⟨by rfl, ?hq45⟩) o2 ?rq45
        case hq45 => (intro W hW; (try dsimp only at hW); go_simp; try with_reducible rfl)
        simp only [Act.put, List.setIfInBounds_toArray, List.set_cons_zero, List.set_cons_succ, List.getElem_toArray, List.getElem_cons_succ, List.getElem_cons_zero]
        refine wpTill_take (i := 9) (v := ?vq46) rfl (by kernel_rfl) (fun _ _ _ h => h) (Or.inl ⟨by rfl, ?hq46⟩) o2 ?rq46
        case hq46 => (intro W hW; (try dsimp only at hW); go_simp; try with_reducible rfl)
        simp only [Act.put, List.setIfInBounds_toArray, List.set_cons_zero, List.set_cons_succ, List.getElem_toArray, List.getElem_cons_succ, List.getElem_cons_zero]
        refine wpTill_take (i := 10) (v := ?vq47) rfl (by kernel_rfl) (fun _ _ _ h => h) (Or.inl ⟨by rfl, ?hq47⟩) o2 ?rq47
        case hq47 => (intro W hW; (try dsimp only at hW); go_simp; try with_reducible rfl)
        simp only [Act.put, List.setIfInBounds_toArray, List.set_cons_zero, List.set_cons_succ, List.getElem_toArray, List.getElem_cons_succ, List.getElem_cons_zero]
        refine wpTill_take (i := 11) (v := ?vq48) rfl (by kernel_rfl) (fun _ _ _ h => h) (Or.inl ⟨by rfl, ?hq48⟩) o2 ?rq48
        case hq48 => (intro W hW; (try dsimp only at hW); go_simp; try with_reducible rfl)
        simp only [Act.put, List.setIfInBounds_toArray, List.set_cons_zero, List.set_cons_succ, List.getElem_toArray, List.getElem_cons_succ, List.getElem_cons_zero]
        refine wpTill_take (i := 14) (v := ?vq49) rfl (by kernel_rfl) (fun _ _ _ h => h) (Or.inl ⟨by rfl, ?hq49⟩) o2 ?rq49
        case hq49 => (intro W hW; (try dsimp only at hW); go_simp; try with_reducible rfl)
        simp only [Act.put, List.setIfInBounds_toArray, List.set_cons_zero, List.set_cons_succ, List.getElem_toArray, List.getElem_cons_succ, List.getElem_cons_zero]
        refine wpTill_run (i := 12) (by kernel_rfl) rfl o2 (fun K hK => ?_)
        go_simp
        go_at_call 18
        refine (LD.out _ o2).mono ?_
        rintro R w19 ⟨u1, rfl, hu1, hb8⟩
        obtain ⟨ua, uc, rfl⟩ := hu1.sl
        have o3 := G.on_step (wd := w16) o2 hb8
        clear hu1
        refine hK _ _ ?_
        clear hK K
        refine wpTill_take (i := 13) (v := ?vq50) rfl (by kernel_rfl) (fun _ _ _ h => h) (Or.inl ⟨by rfl, ?hq50⟩) o3 ?rq50
        case hq50 => (intro W hW; (try dsimp only at hW); go_simp; try with_reducible rfl)
        simp only [Act.put, List.setIfInBounds_toArray, List.set_cons_zero, List.set_cons_succ, List.getElem_toArray, List.getElem_cons_succ, List.getElem_cons_zero]
        refine wpTill_run (i := 15) (by kernel_rfl) rfl o3 (fun K hK => ?_)
        go_simp
        go_at_call 19
        refine (LR.out _ o3).mono ?_
        rintro R w20 ⟨u2, rfl, hu2, hb9⟩
        obtain ⟨ub, ud, rfl⟩ := hu2.sl
        have o4 := G.on_step (wd := w16) o3 hb9
        clear hu2
        refine hK _ _ ?_
        clear hK K
        refine wpTill_take (i := 16) (v := ?vq51) rfl (by kernel_rfl) (fun _ _ _ h => h) (Or.inl ⟨by rfl, ?hq51⟩) o4 ?rq51
        case hq51 => (intro W hW; (try dsimp only at hW); go_simp; try with_reducible rfl)
        simp only [Act.put, List.setIfInBounds_toArray, List.set_cons_zero, List.set_cons_succ, List.getElem_toArray, List.getElem_cons_succ, List.getElem_cons_zero]
        refine wpTill_take (i := 17) (v := ?vq52) rfl (by kernel_rfl) (fun _ _ _ h => h) (Or.inl ⟨by rfl, ?hq52⟩) o4 ?rq52
        case hq52 => (intro W hW; (try dsimp only at hW); go_simp; try with_reducible rfl)
        simp only [Act.put, List.setIfInBounds_toArray, List.set_cons_zero, List.set_cons_succ, List.getElem_toArray, List.getElem_cons_succ, List.getElem_cons_zero]
        refine wpTill_take (i := 18) (v := ?vq53) rfl (by kernel_rfl) (fun _ _ _ h => h) (Or.inl ⟨by rfl, ?hq53⟩) o4 ?rq53
        case hq53 => (intro W hW; (try dsimp only at hW); go_simp; try with_reducible rfl)
        simp only [Act.put, List.setIfInBounds_toArray, List.set_cons_zero, List.set_cons_succ, List.getElem_toArray, List.getElem_cons_succ, List.getElem_cons_zero]
        refine wpTill_take (i := 19) (v := ?vq54) rfl (by kernel_rfl) (fun _ _ _ h => h) (Or.inl ⟨by rfl, ?hq54⟩) o4 ?rq54
        case hq54 => (intro W hW; (try dsimp only at hW); go_simp; try with_reducible rfl)
        simp only [Act.put, List.setIfInBounds_toArray, List.set_cons_zero, List.set_cons_succ, List.getElem_toArray, List.getElem_cons_succ, List.getElem_cons_zero]
        refine wpTill_take (i := 20) (v := ?vq55) rfl (by kernel_rfl) (fun _ _ _ h => h) (Or.inl ⟨by rfl, ?hq55⟩) o4 ?rq55
        case hq55 => (intro W hW; (try dsimp only at hW); go_simp; try with_reducible rfl)
        simp only [Act.put, List.setIfInBounds_toArray, List.set_cons_zero, List.set_cons_succ, List.getElem_toArray, List.getElem_cons_succ, List.getElem_cons_zero]
        refine wpTill_take (i := 22) (v := ?vq56) rfl (by kernel_rfl) (fun _ _ _ h => h) (Or.inl ⟨by rfl, ?hq56⟩) o4 ?rq56
        case hq56 => (intro W hW; (try dsimp only at hW); go_simp; try with_reducible rfl)
        simp only [Act.put, List.setIfInBounds_toArray, List.set_cons_zero, List.set_cons_succ, List.getElem_toArray, List.getElem_cons_succ, List.getElem_cons_zero]
        refine wpTill_run (i := 21) (by kernel_rfl) rfl o4 (fun K hK => ?_)
        go_simp
        go_at_call 20
        refine (LU.out _ o4).mono ?_
        rintro R w21 ⟨rfl, hb10⟩
        have o5 := G.on_step (wd := w16) o4 hb10
        refine hK _ _ ?_
        clear hK K
        refine wpTill_run (i := 23) (by kernel_rfl) rfl o5 (fun K hK => ?_)
        go_simp
        go_at_call 21
        refine (LV.out _ o5).mono ?_
        rintro R w22 ⟨rfl, rfl⟩
        refine hK _ _ ?_
        clear hK K
        refine wpTill_take (i := 24) (v := ?vq57) rfl (by kernel_rfl) (fun _ _ _ h => h) (Or.inl ⟨by rfl, ?hq57⟩) o5 ?rq57
        case hq57 => (intro W hW; (try dsimp only at hW); go_simp; try with_reducible rfl)
        simp only [Act.put, List.setIfInBounds_toArray, List.set_cons_zero, List.set_cons_succ, List.getElem_toArray, List.getElem_cons_succ, List.getElem_cons_zero]
        refine wpTill_run (i := 25) (by kernel_rfl) rfl o5 (fun K hK => ?_)
        go_simp
        refine hK _ _ ?_
        clear hK K
        refine wpTill_done (by kernel_rfl) ?_
        go_wp2_with fail
        go_meet
        exact ⟨rfl, o5⟩
      case rest =>
      obtain ⟨rfl, HBE⟩ := hcut
      have B20 := B16.out.new HBE.out
      have HPE : Hid (∃ S1 S2 : Nat → Prop, ∃ E, (∀ x, S1 x → w.heap.size ≤ x) ∧ (∀ x, S2 x → w.heap.size ≤ x) ∧ (∀ x, S1 x → ¬ S2 x) ∧ DkS S1 _ (.pointer (some ⟨gd, 0, none⟩)) q E ∧ RkS S2 _ (.pointer (some ⟨gr, 0, none⟩)) q E) :=
        ⟨T1, T2, p1.E, fun x hx => B20.lo1 x (.inr hx), fun x hx => B20.lo2 x (.inr hx), B20.ap, B20.d.dk, B20.r.rk⟩
      have HBL := Lib.hid B20.be
      clear B20 a1 a2 o0 H16 hff huu hll
      go_wp2
      go_roundw
      case rel => exact ⟨k + 1, by omega, by go_num, HPE.out, HBL.out⟩
      case measure => simp [intOf]; omega
    · have hlt1 : ¬ (k : Int) < (l.length : Int) := by omega
      go_wp2_with fail
      refine (awake_c wr (tab_below HT.out HB.out)).mono ?_
      rintro R w2 ⟨rfl, hb2⟩
      go_wp2
      go_ret
      exact ⟨rfl, HB.out.trans (hb2.mono HB.out.size)⟩
theorem rowSwaps (lo : Option Addr) (len cap : Nat) (l : List Stp) (q : Int) (W : World) (h : StArg W lo len l) (hq : (Lit.int .u16 q).wf = true) (hL : laidMetH Tryz.prog laidList W) :
    Calls Tryz.prog 3 #[.slice lo len cap, .int .u16 q] W fun E w' => E = .returned (.bool true) ∧ Below W.heap.size W w' := by
  have h3 : (decide (0 ≤ q) && decide (q ≤ 65535)) = true := hq
  simp only [Bool.and_eq_true, decide_eq_true_eq] at h3
  obtain ⟨k, rfl⟩ := Int.eq_ofNat_of_zero_le h3.1
  obtain ⟨rfl, h1, h2⟩ := h
  exact law_swaps l lo cap k W h2 h1 (by omega) (tab_of_laid hL)
end Go.Proofs.YtakejacamkdncaaGreatDoor
