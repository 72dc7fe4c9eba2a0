/- Two of the program's disks of the same files are the same. -/
import Derived.Test.YthjhjbiihhpnfaaGreatPk
namespace Go.Proofs.YthjhjbiihhpnfaaGreat
open Go.RowKit Go.Shelf Go.Deep
set_option linter.unusedVariables false
set_option linter.unusedSimpArgs false
set_option maxRecDepth 100000

set_option maxHeartbeats 4000000 in
theorem same3_c {S S2 : Nat → Prop} {gd g q q2 : Nat} {E : List Ent} (w : World) (h : DkS S w (.pointer (some ⟨gd, 0, none⟩)) q E) (h2 : DkS S2 w (.pointer (some ⟨g, 0, none⟩)) q2 E) :
    Calls Tryz.prog 17 #[.pointer (some ⟨gd, 0, none⟩), .pointer (some ⟨g, 0, none⟩)] w fun R w' => R = .returned (.bool true) ∧ Below w.heap.size w w' := by
  have HG := Lib.hid h.good
  have hel := h.good.len
  have HD := Lib.hid h
  have HR := Lib.hid h2
  clear h h2
  have hnot : ∀ (x : Bool) (w : World), (Op.unary .not (.bool x)).run Tryz.prog w = .ok (.bool (!x)) w := fun _ _ => rfl
  go_enter Tryz.func17, Tryz.ntmps17
  go_wp2_with fail
  refine (list_s w HD.out).mono ?_
  rintro R w1 ⟨u, rfl, hu, hb1⟩
  have B1 := Lib.hid hb1
  have HU := Lib.hid hu
  clear hb1 hu
  obtain ⟨uo, uc, rfl⟩ := HU.out.nmE
  go_wp2_with fail
  refine (list_s w1 (HR.out.new B1.out)).mono ?_
  rintro R w2 ⟨u2, rfl, hu2, hb2⟩
  have HV2 := Lib.hid hu2
  have HU2 := Lib.hid (HU.out.new hb2)
  have B2 := Lib.hid (B1.out.trans (hb2.mono B1.out.size))
  clear hb2 hu2 HU B1
  go_wp2_with fail
  refine (texts_c HU2.out HV2.out (by rw [List.length_map]; omega)).mono ?_
  rintro R w3 ⟨rfl, hb3⟩
  have HU3 := Lib.hid (HU2.out.new hb3)
  have B3 := Lib.hid (B2.out.trans (hb3.mono B2.out.size))
  clear hb3 HU2 HV2 B2
  have HU4 := HU3
  have B4 := B3
  clear HU3 B3
  generalize w3 = w4 at *
  go_wp2
  go_loopw [6] (fun i wr => ∃ k : Nat, k ≤ E.length ∧ i = .int .i64 k ∧ Hid (Below w4.heap.size w4 wr)) (fun i _ => E.length - (intOf i).toNat)
  case atStart => exact ⟨0, Nat.zero_le _, rfl, Below.refl _ _⟩
  case round =>
    obtain ⟨k, hk, rfl, HB⟩ := hrel
    by_cases hlt : k < E.length
    · have i2 : (k : Int) < (E.length : Int) := by omega
      obtain ⟨gu, rfl, cu⟩ := HU4.out.nmAt2 hlt
      have HN2 : Hid ((E[k]'hlt).nm.length ≤ maxLen) := Nat.le_trans (nm_short2 HG.out hlt) (by decide)
      have CU := Lib.hid cu
      clear cu
      generalize (E[k]'hlt).nm = m at *
      obtain ⟨r2, hr2⟩ : ∃ r2, rd E m = r2 := ⟨_, rfl⟩
      obtain ⟨e2, he2⟩ : ∃ e2, eFind E m = e2 := ⟨_, rfl⟩
      obtain ⟨s2, hs2⟩ : ∃ s2, sy E m = s2 := ⟨_, rfl⟩
      have HR2 := Lib.hid hr2
      have HE2 := Lib.hid he2
      have HS2 := Lib.hid hs2
      clear hr2 he2 hs2
      have q1 := str_yes2 r2
      have HW0 := Lib.hid (B4.out.trans (HB.out.mono B4.out.size))
      have cu0 := CU.out wr HB.out
      go_wp2_with fail
      refine (read_c m wr (HD.out.new HW0.out) HN2.out).mono ?_
      rintro R w7 ⟨rfl, hb7⟩
      rw [HR2.out, HE2.out]
      have HB7 := Lib.hid (HB.out.trans (hb7.mono HB.out.size))
      have HW7 := Lib.hid (HW0.out.trans (hb7.mono HW0.out.size))
      clear hb7 cu0 HW0 HB
      have cu0 := CU.out w7 HB7.out
      go_wp2_with fail
      refine (read_c m w7 (HR.out.new HW7.out) HN2.out).mono ?_
      rintro R w8 ⟨rfl, hb8⟩
      rw [HR2.out, HE2.out]
      have HB8 := Lib.hid (HB7.out.trans (hb8.mono HB7.out.size))
      have HW8 := Lib.hid (HW7.out.trans (hb8.mono HW7.out.size))
      clear hb8 cu0 HW7 HB7
      have lu : ∀ W, Below w4.heap.size w4 W → W.cell? ⟨gu, k, none⟩ = some (.string (str m)) := CU.out
      go_upto_region 9 with fail
      have hs0 := HB8.out.drew
      have hw0 := HW8.out.drew
      generalize hwd : w8.drew = wd at *
      refine wp_region_till (S := fun w' => Below w4.heap.size w4 w') (by kernel_rfl) ?_
      rw [hwd]
      clear hwd
      refine wpTill_take (i := 0) (v := ?va0) rfl (by kernel_rfl) (fun _ _ _ h => h) (Or.inl ⟨by rfl, ?hya0⟩) hs0 ?resta0
      case hya0 => (intro W hW; (try dsimp only at hW); go_simp; try with_reducible rfl)
      simp only [Act.put, List.setIfInBounds_toArray, List.set_cons_zero, List.set_cons_succ, List.getElem_toArray, List.getElem_cons_succ, List.getElem_cons_zero]
      refine wpTill_take (i := 1) (v := ?va1) rfl (by kernel_rfl) (fun _ _ _ h => h) (Or.inl ⟨by rfl, ?hya1⟩) hs0 ?resta1
      case hya1 => (intro W hW; (try dsimp only at hW); go_simp; try with_reducible rfl)
      simp only [Act.put, List.setIfInBounds_toArray, List.set_cons_zero, List.set_cons_succ, List.getElem_toArray, List.getElem_cons_succ, List.getElem_cons_zero]
      refine wpTill_take (i := 2) (v := ?va2) rfl (by kernel_rfl) (fun _ _ _ h => h) (Or.inl ⟨by rfl, ?hya2⟩) hs0 ?resta2
      case hya2 => (intro W hW; (try dsimp only at hW); go_simp; try with_reducible rfl)
      simp only [Act.put, List.setIfInBounds_toArray, List.set_cons_zero, List.set_cons_succ, List.getElem_toArray, List.getElem_cons_succ, List.getElem_cons_zero]
      refine wpTill_take (i := 3) (v := ?va3) rfl (by kernel_rfl) (fun _ _ _ h => h) (Or.inl ⟨by rfl, ?hya3⟩) hs0 ?resta3
      case hya3 => (intro W hW; (try dsimp only at hW); go_simp; try with_reducible rfl)
      simp only [Act.put, List.setIfInBounds_toArray, List.set_cons_zero, List.set_cons_succ, List.getElem_toArray, List.getElem_cons_succ, List.getElem_cons_zero]
      refine wpTill_take (i := 4) (v := ?va4) rfl (by kernel_rfl) (fun _ _ _ h => h) (Or.inl ⟨by rfl, ?hya4⟩) hs0 ?resta4
      case hya4 => (intro W hW; (try dsimp only at hW); go_simp; try with_reducible rfl)
      simp only [Act.put, List.setIfInBounds_toArray, List.set_cons_zero, List.set_cons_succ, List.getElem_toArray, List.getElem_cons_succ, List.getElem_cons_zero]
      refine wpTill_take (i := 5) (v := ?va5) rfl (by kernel_rfl) (fun _ _ _ h => h) (Or.inl ⟨by rfl, ?hya5⟩) hs0 ?resta5
      case hya5 => (intro W hW; (try dsimp only at hW); go_simp; try with_reducible rfl)
      simp only [Act.put, List.setIfInBounds_toArray, List.set_cons_zero, List.set_cons_succ, List.getElem_toArray, List.getElem_cons_succ, List.getElem_cons_zero]
      refine wpTill_take (i := 6) (v := ?va6) rfl (by kernel_rfl) (fun _ _ _ h => h) (Or.inl ⟨by rfl, ?hya6⟩) hs0 ?resta6
      case hya6 => (intro W hW; (try dsimp only at hW); go_simp; try with_reducible rfl)
      simp only [Act.put, List.setIfInBounds_toArray, List.set_cons_zero, List.set_cons_succ, List.getElem_toArray, List.getElem_cons_succ, List.getElem_cons_zero]
      refine wpTill_take (i := 7) (v := ?va7) rfl (by kernel_rfl) (fun _ _ _ h => h) (Or.inl ⟨by rfl, ?hya7⟩) hs0 ?resta7
      case hya7 => (intro W hW; (try dsimp only at hW); go_simp; try with_reducible rfl)
      simp only [Act.put, List.setIfInBounds_toArray, List.set_cons_zero, List.set_cons_succ, List.getElem_toArray, List.getElem_cons_succ, List.getElem_cons_zero]
      refine wpTill_take (i := 8) (v := ?va8) rfl (by kernel_rfl) (fun _ _ _ h => h) (Or.inl ⟨by rfl, ?hya8⟩) hs0 ?resta8
      case hya8 => (intro W hW; (try dsimp only at hW); go_simp; try with_reducible rfl)
      simp only [Act.put, List.setIfInBounds_toArray, List.set_cons_zero, List.set_cons_succ, List.getElem_toArray, List.getElem_cons_succ, List.getElem_cons_zero]
      refine wpTill_take (i := 10) (v := ?va10) rfl (by kernel_rfl) (fun _ _ _ h => h) (Or.inl ⟨by rfl, ?hya10⟩) hs0 ?resta10
      case hya10 => (intro W hW; (try dsimp only at hW); go_simp; try with_reducible rfl)
      simp only [Act.put, List.setIfInBounds_toArray, List.set_cons_zero, List.set_cons_succ, List.getElem_toArray, List.getElem_cons_succ, List.getElem_cons_zero]
      refine wpTill_take (i := 11) (v := ?va11) rfl (by kernel_rfl) (fun _ _ _ h => h) (Or.inl ⟨by rfl, ?hya11⟩) hs0 ?resta11
      case hya11 => (intro W hW; (try dsimp only at hW); go_simp; try with_reducible rfl)
      simp only [Act.put, List.setIfInBounds_toArray, List.set_cons_zero, List.set_cons_succ, List.getElem_toArray, List.getElem_cons_succ, List.getElem_cons_zero]
      refine wpTill_take (i := 12) (v := ?va12) rfl (by kernel_rfl) (fun _ _ _ h => h) (Or.inl ⟨by rfl, ?hya12⟩) hs0 ?resta12
      case hya12 => (intro W hW; (try dsimp only at hW); go_simp; try with_reducible rfl)
      simp only [Act.put, List.setIfInBounds_toArray, List.set_cons_zero, List.set_cons_succ, List.getElem_toArray, List.getElem_cons_succ, List.getElem_cons_zero]
      refine wpTill_take (i := 13) (v := ?va13) rfl (by kernel_rfl) (fun _ _ _ h => h) (Or.inl ⟨by rfl, ?hya13⟩) hs0 ?resta13
      case hya13 => (intro W hW; (try dsimp only at hW); go_simp; try with_reducible rfl)
      simp only [Act.put, List.setIfInBounds_toArray, List.set_cons_zero, List.set_cons_succ, List.getElem_toArray, List.getElem_cons_succ, List.getElem_cons_zero]
      refine wpTill_take (i := 14) (v := ?va14) rfl (by kernel_rfl) (fun _ _ _ h => h) (Or.inl ⟨by rfl, ?hya14⟩) hs0 ?resta14
      case hya14 => (intro W hW; (try dsimp only at hW); go_simp; try with_reducible rfl)
      simp only [Act.put, List.setIfInBounds_toArray, List.set_cons_zero, List.set_cons_succ, List.getElem_toArray, List.getElem_cons_succ, List.getElem_cons_zero]
      refine wpTill_run (i := 9) (by kernel_rfl) rfl hs0 (fun K hK => ?_)
      go_simp
      go_at_call 41
      refine (synced_c m wd (HD.out.new hw0) HN2.out).mono ?_
      rintro R w9 ⟨rfl, hb9⟩
      rw [HS2.out]
      have hs1 := hs0.trans (hb9.mono hs0.size)
      have hw1 := hw0.trans (hb9.mono hw0.size)
      refine hK _ _ ?_
      clear hK K
      refine wpTill_run (i := 15) (by kernel_rfl) rfl hs1 (fun K hK => ?_)
      go_simp
      go_at_call 41
      refine (synced_c m w9 (HR.out.new hw1) HN2.out).mono ?_
      rintro R w10 ⟨rfl, hb10⟩
      rw [HS2.out]
      have hs2 := hs1.trans (hb10.mono hs1.size)
      refine hK _ _ ?_
      clear hK K
      refine wpTill_take (i := 16) (v := ?vb16) rfl (by kernel_rfl) (fun _ _ _ h => h) (Or.inl ⟨by rfl, ?hyb16⟩) hs2 ?restb16
      case hyb16 => (intro W hW; (try dsimp only at hW); go_simp; try with_reducible rfl)
      simp only [Act.put, List.setIfInBounds_toArray, List.set_cons_zero, List.set_cons_succ, List.getElem_toArray, List.getElem_cons_succ, List.getElem_cons_zero]
      refine wpTill_run (i := 17) (by kernel_rfl) rfl hs2 (fun K hK => ?_)
      go_simp
      refine hK _ _ ?_
      clear hK K
      refine wpTill_done (by kernel_rfl) ?_
      have HS1 := Lib.hid hs2
      clear hs0 hs1 hs2 hw0 hw1 hb9 lu
      go_wp2
      go_round
      case rel => exact ⟨k + 1, by omega, by go_num, HS1.out⟩
      case measure => simp [intOf]; omega
    · have hx : k = E.length := by omega
      have i2 : ¬ (k : Int) < (E.length : Int) := by omega
      have HX := Lib.hid hx
      clear hx hlt hk
      go_wp2
      go_ret
      exact ⟨rfl, B4.out.trans (HB.out.mono B4.out.size)⟩
end Go.Proofs.YthjhjbiihhpnfaaGreat
