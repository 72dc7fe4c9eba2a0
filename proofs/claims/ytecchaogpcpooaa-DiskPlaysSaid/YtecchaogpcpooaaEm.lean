/- alike: two disks of one list; both nil. -/
import Derived.Test.YtecchaogpcpooaaEl
import Derived.Test.YtecchaogpcpooaaDp
import Derived.Test.YtecchaogpcpooaaDy
namespace Go.Proofs.Ytecchaogpcpooaa
open Go.RowKit Go.Shelf Go.Deep
set_option linter.unusedVariables false
set_option linter.unusedSimpArgs false
set_option maxRecDepth 100000

theorem Lst.nmAt2 {w : World} {B : Nat} {uo : Option Addr} {uc : Nat} {E : List Ent} (h : Lst w B (.slice uo E.length uc) (E.map Ent.nm)) {k : Nat} (hk : k < E.length) :
    ∃ g, uo = some ⟨g, 0, none⟩ ∧ ∀ W, Below w.heap.size w W → W.cell? ⟨g, k, none⟩ = some (.string (str (E[k]'hk).nm)) := by
  obtain ⟨g, cap, e, hc⟩ := h.at (k := k) (by rw [List.length_map]; exact hk)
  have e2 : uo = some ⟨g, 0, none⟩ := by injection e
  refine ⟨g, e2, fun W hW => ?_⟩
  rw [Nat.zero_add] at hc
  rw [hW.cell (p := ⟨g, k, none⟩) (World.block_lt_of_cell? w _ hc), hc, List.getElem_map]
theorem nm_short2 {q : Nat} {E : List Ent} (h : Good q E) {j : Nat} (hj : j < E.length) : (E[j]'hj).nm.length ≤ 32 := by
  have := h.nms _ (List.getElem_mem hj)
  simp [isNm] at this
  exact this.1.2
set_option maxHeartbeats 4000000 in
theorem alike_c {S S2 : Nat → Prop} {gd g q cap : Nat} {ao : Option Addr} {E : List Ent} (n : List UInt8) (w : World) (h : DkS S w (.pointer (some ⟨gd, 0, none⟩)) q E) (h2 : RkC S2 w g q ao cap E) (hn : n.length ≤ maxLen) :
    Calls Try.prog 13 #[.pointer (some ⟨gd, 0, none⟩), .pointer (some ⟨g, 0, none⟩), .string (str n)] w fun R w' => R = .returned (.bool true) ∧ Below w.heap.size w w' := by
  have HG := Lib.hid h.good
  have hel := h.good.len
  have HD := Lib.hid h
  have HR := Lib.hid h2
  have HN := Lib.hid hn
  clear h h2 hn
  have q1 := str_yes2 (rd E n)
  go_enter Try.func13, Try.ntmps13
  go_wp2_with fail
  refine (read_c n w HD.out HN.out).mono ?_
  rintro R w1 ⟨rfl, hb1⟩
  have B1 := Lib.hid hb1
  clear hb1
  go_wp2_with fail
  refine (rread_c (HR.out.new B1.out) n HN.out).mono ?_
  rintro R w2 ⟨rfl, rfl⟩
  go_wp2_with fail
  refine (list_s w1 (HD.out.new B1.out)).mono ?_
  rintro R w2 ⟨u, rfl, hu, hb2⟩
  obtain ⟨uo, uc, rfl⟩ := hu.sl
  rw [List.length_map] at hu ⊢
  have HU := Lib.hid hu
  have B2 := Lib.hid (B1.out.trans (hb2.mono B1.out.size))
  clear hu hb2
  go_wp2_with fail
  refine (used_s w2 (HD.out.new B2.out)).mono ?_
  rintro R w3 ⟨rfl, hb3⟩
  have HU3 := Lib.hid (HU.out.new hb3)
  have B3 := Lib.hid (B2.out.trans (hb3.mono B2.out.size))
  clear hb3 HU
  go_wp2_with fail
  refine (rused_c (HR.out.new B3.out)).mono ?_
  rintro R w4 ⟨rfl, rfl⟩
  go_wp2_with fail
  refine (synced_c n w3 (HD.out.new B3.out) HN.out).mono ?_
  rintro R w4 ⟨rfl, hb4⟩
  have HU4 := Lib.hid (HU3.out.new hb4)
  have B4 := Lib.hid (B3.out.trans (hb4.mono B3.out.size))
  clear hb4 HU3
  go_wp2_with fail
  refine (rsynced_c (HR.out.new B4.out) n HN.out).mono ?_
  rintro R w5 ⟨rfl, rfl⟩
  go_wp2_with fail
  refine (rlist_c (HR.out.new B4.out)).mono ?_
  rintro R w5 ⟨u2, rfl, hu2, hb5⟩
  have HV5 := Lib.hid hu2
  have HU5 := Lib.hid (HU4.out.new hb5)
  have B5 := Lib.hid (B4.out.trans (hb5.mono B4.out.size))
  clear hb5 hu2 HU4
  go_wp2_with fail
  have hsm := rsame_c HU5.out HV5.out (by rw [List.length_map]; omega)
  refine hsm.mono ?_
  rintro R w6 ⟨rfl, hb6⟩
  have HU6 := Lib.hid (HU5.out.new hb6)
  have B6 := Lib.hid (B5.out.trans (hb6.mono B5.out.size))
  clear hb6 HU5 HV5 hsm q1 B1 B2 B3 B4 B5
  go_wp2
  go_loopw [12] (fun i wr => ∃ k : Nat, k ≤ E.length ∧ i = .int .i64 k ∧ Hid (Below w6.heap.size w6 wr)) (fun i _ => E.length - (intOf i).toNat)
  case atStart => exact ⟨0, Nat.zero_le _, rfl, Below.refl _ _⟩
  case round =>
    obtain ⟨k, hk, rfl, HB⟩ := hrel
    by_cases hlt : k < E.length
    · have i2 : (k : Int) < (E.length : Int) := by omega
      obtain ⟨gu, rfl, cu⟩ := HU6.out.nmAt2 hlt
      have HN2 : Hid ((E[k]'hlt).nm.length ≤ maxLen) := Nat.le_trans (nm_short2 HG.out hlt) (by decide)
      have CU := Lib.hid cu
      clear cu
      generalize (E[k]'hlt).nm = m at *
      obtain ⟨r2, hr2⟩ : ∃ r2, rd E m = r2 := ⟨_, rfl⟩
      obtain ⟨e2, he2⟩ : ∃ e2, eFind E m = e2 := ⟨_, rfl⟩
      obtain ⟨s2, hs2⟩ : ∃ s2, sy E m = s2 := ⟨_, rfl⟩
      have HR2 := Lib.hid hr2
      have HE2 := Lib.hid he2
      have HS2 := Lib.hid hs2
      clear hr2 he2 hs2
      have q1 := str_yes2 r2
      have HW0 := Lib.hid (B6.out.trans (HB.out.mono B6.out.size))
      have cu0 := CU.out wr HB.out
      go_wp2_with fail
      refine (read_c m wr (HD.out.new HW0.out) HN2.out).mono ?_
      rintro R w7 ⟨rfl, hb7⟩
      rw [HR2.out, HE2.out]
      have HB7 := Lib.hid (HB.out.trans (hb7.mono HB.out.size))
      have HW7 := Lib.hid (HW0.out.trans (hb7.mono HW0.out.size))
      clear hb7 cu0 HW0 HB
      have cu0 := CU.out w7 HB7.out
      go_wp2_with fail
      refine (rread_c (HR.out.new HW7.out) m HN2.out).mono ?_
      rintro R w8 ⟨rfl, rfl⟩
      rw [HR2.out, HE2.out]
      clear cu0
      have lu : ∀ W, Below w6.heap.size w6 W → W.cell? ⟨gu, k, none⟩ = some (.string (str m)) := CU.out
      go_upto_region 11 with fail
      have hs0 := HB7.out.drew
      have hw0 := HW7.out.drew
      generalize hwd : w7.drew = wd at *
      refine wp_region_till (S := fun w' => Below w6.heap.size w6 w') (by kernel_rfl) ?_
      rw [hwd]
      clear hwd
      refine wpTill_take (i := 0) (v := ?va0) rfl (by kernel_rfl) (fun _ _ _ h => h) (Or.inl ⟨by rfl, ?hya0⟩) hs0 ?resta0
      case hya0 => (intro W hW; (try dsimp only at hW); go_simp; try with_reducible rfl)
      simp only [Act.put, List.setIfInBounds_toArray, List.set_cons_zero, List.set_cons_succ, List.getElem_toArray, List.getElem_cons_succ, List.getElem_cons_zero]
      refine wpTill_take (i := 1) (v := ?va1) rfl (by kernel_rfl) (fun _ _ _ h => h) (Or.inl ⟨by rfl, ?hya1⟩) hs0 ?resta1
      case hya1 => (intro W hW; (try dsimp only at hW); go_simp; try with_reducible rfl)
      simp only [Act.put, List.setIfInBounds_toArray, List.set_cons_zero, List.set_cons_succ, List.getElem_toArray, List.getElem_cons_succ, List.getElem_cons_zero]
      refine wpTill_take (i := 2) (v := ?va2) rfl (by kernel_rfl) (fun _ _ _ h => h) (Or.inl ⟨by rfl, ?hya2⟩) hs0 ?resta2
      case hya2 => (intro W hW; (try dsimp only at hW); go_simp; try with_reducible rfl)
      simp only [Act.put, List.setIfInBounds_toArray, List.set_cons_zero, List.set_cons_succ, List.getElem_toArray, List.getElem_cons_succ, List.getElem_cons_zero]
      refine wpTill_take (i := 3) (v := ?va3) rfl (by kernel_rfl) (fun _ _ _ h => h) (Or.inl ⟨by rfl, ?hya3⟩) hs0 ?resta3
      case hya3 => (intro W hW; (try dsimp only at hW); go_simp; try with_reducible rfl)
      simp only [Act.put, List.setIfInBounds_toArray, List.set_cons_zero, List.set_cons_succ, List.getElem_toArray, List.getElem_cons_succ, List.getElem_cons_zero]
      refine wpTill_take (i := 4) (v := ?va4) rfl (by kernel_rfl) (fun _ _ _ h => h) (Or.inl ⟨by rfl, ?hya4⟩) hs0 ?resta4
      case hya4 => (intro W hW; (try dsimp only at hW); go_simp; try with_reducible rfl)
      simp only [Act.put, List.setIfInBounds_toArray, List.set_cons_zero, List.set_cons_succ, List.getElem_toArray, List.getElem_cons_succ, List.getElem_cons_zero]
      refine wpTill_take (i := 5) (v := ?va5) rfl (by kernel_rfl) (fun _ _ _ h => h) (Or.inl ⟨by rfl, ?hya5⟩) hs0 ?resta5
      case hya5 => (intro W hW; (try dsimp only at hW); go_simp; try with_reducible rfl)
      simp only [Act.put, List.setIfInBounds_toArray, List.set_cons_zero, List.set_cons_succ, List.getElem_toArray, List.getElem_cons_succ, List.getElem_cons_zero]
      refine wpTill_take (i := 6) (v := ?va6) rfl (by kernel_rfl) (fun _ _ _ h => h) (Or.inl ⟨by rfl, ?hya6⟩) hs0 ?resta6
      case hya6 => (intro W hW; (try dsimp only at hW); go_simp; try with_reducible rfl)
      simp only [Act.put, List.setIfInBounds_toArray, List.set_cons_zero, List.set_cons_succ, List.getElem_toArray, List.getElem_cons_succ, List.getElem_cons_zero]
      refine wpTill_take (i := 7) (v := ?va7) rfl (by kernel_rfl) (fun _ _ _ h => h) (Or.inl ⟨by rfl, ?hya7⟩) hs0 ?resta7
      case hya7 => (intro W hW; (try dsimp only at hW); go_simp; try with_reducible rfl)
      simp only [Act.put, List.setIfInBounds_toArray, List.set_cons_zero, List.set_cons_succ, List.getElem_toArray, List.getElem_cons_succ, List.getElem_cons_zero]
      refine wpTill_take (i := 8) (v := ?va8) rfl (by kernel_rfl) (fun _ _ _ h => h) (Or.inl ⟨by rfl, ?hya8⟩) hs0 ?resta8
      case hya8 => (intro W hW; (try dsimp only at hW); go_simp; try with_reducible rfl)
      simp only [Act.put, List.setIfInBounds_toArray, List.set_cons_zero, List.set_cons_succ, List.getElem_toArray, List.getElem_cons_succ, List.getElem_cons_zero]
      refine wpTill_take (i := 10) (v := ?va10) rfl (by kernel_rfl) (fun _ _ _ h => h) (Or.inl ⟨by rfl, ?hya10⟩) hs0 ?resta10
      case hya10 => (intro W hW; (try dsimp only at hW); go_simp; try with_reducible rfl)
      simp only [Act.put, List.setIfInBounds_toArray, List.set_cons_zero, List.set_cons_succ, List.getElem_toArray, List.getElem_cons_succ, List.getElem_cons_zero]
      refine wpTill_take (i := 11) (v := ?va11) rfl (by kernel_rfl) (fun _ _ _ h => h) (Or.inl ⟨by rfl, ?hya11⟩) hs0 ?resta11
      case hya11 => (intro W hW; (try dsimp only at hW); go_simp; try with_reducible rfl)
      simp only [Act.put, List.setIfInBounds_toArray, List.set_cons_zero, List.set_cons_succ, List.getElem_toArray, List.getElem_cons_succ, List.getElem_cons_zero]
      refine wpTill_take (i := 12) (v := ?va12) rfl (by kernel_rfl) (fun _ _ _ h => h) (Or.inl ⟨by rfl, ?hya12⟩) hs0 ?resta12
      case hya12 => (intro W hW; (try dsimp only at hW); go_simp; try with_reducible rfl)
      simp only [Act.put, List.setIfInBounds_toArray, List.set_cons_zero, List.set_cons_succ, List.getElem_toArray, List.getElem_cons_succ, List.getElem_cons_zero]
      refine wpTill_take (i := 13) (v := ?va13) rfl (by kernel_rfl) (fun _ _ _ h => h) (Or.inl ⟨by rfl, ?hya13⟩) hs0 ?resta13
      case hya13 => (intro W hW; (try dsimp only at hW); go_simp; try with_reducible rfl)
      simp only [Act.put, List.setIfInBounds_toArray, List.set_cons_zero, List.set_cons_succ, List.getElem_toArray, List.getElem_cons_succ, List.getElem_cons_zero]
      refine wpTill_take (i := 14) (v := ?va14) rfl (by kernel_rfl) (fun _ _ _ h => h) (Or.inl ⟨by rfl, ?hya14⟩) hs0 ?resta14
      case hya14 => (intro W hW; (try dsimp only at hW); go_simp; try with_reducible rfl)
      simp only [Act.put, List.setIfInBounds_toArray, List.set_cons_zero, List.set_cons_succ, List.getElem_toArray, List.getElem_cons_succ, List.getElem_cons_zero]
      refine wpTill_run (i := 9) (by kernel_rfl) rfl hs0 (fun K hK => ?_)
      go_simp
      go_at_call 20
      refine (synced_c m wd (HD.out.new hw0) HN2.out).mono ?_
      rintro R w8 ⟨rfl, hb8⟩
      rw [HS2.out]
      have hs1 := hs0.trans (hb8.mono hs0.size)
      have hw1 := hw0.trans (hb8.mono hw0.size)
      refine hK _ _ ?_
      clear hK K
      refine wpTill_run (i := 15) (by kernel_rfl) rfl hs1 (fun K hK => ?_)
      go_simp
      go_at_call 39
      refine (rsynced_c (HR.out.new hw1) m HN2.out).mono ?_
      rintro R w9 ⟨rfl, rfl⟩
      rw [HS2.out]
      refine hK _ _ ?_
      clear hK K
      refine wpTill_take (i := 16) (v := ?vb16) rfl (by kernel_rfl) (fun _ _ _ h => h) (Or.inl ⟨by rfl, ?hyb16⟩) hs1 ?restb16
      case hyb16 => (intro W hW; (try dsimp only at hW); go_simp; try with_reducible rfl)
      simp only [Act.put, List.setIfInBounds_toArray, List.set_cons_zero, List.set_cons_succ, List.getElem_toArray, List.getElem_cons_succ, List.getElem_cons_zero]
      refine wpTill_run (i := 17) (by kernel_rfl) rfl hs1 (fun K hK => ?_)
      go_simp
      refine hK _ _ ?_
      clear hK K
      refine wpTill_done (by kernel_rfl) ?_
      have HS1 := Lib.hid hs1
      clear hs0 hs1 hw0 hw1 hb8 lu
      go_wp2
      go_round
      case rel => exact ⟨k + 1, by omega, by go_num, HS1.out⟩
      case measure => simp [intOf]; omega
    · have hx : k = E.length := by omega
      have i2 : ¬ (k : Int) < (E.length : Int) := by omega
      have HX := Lib.hid hx
      clear hx hlt hk
      go_wp2
      go_ret
      exact ⟨rfl, B6.out.trans (HB.out.mono B6.out.size)⟩
set_option maxHeartbeats 2000000 in
theorem alike_nil (n : List UInt8) (w : World) :
    Calls Try.prog 13 #[.pointer none, .pointer none, .string (str n)] w fun R w' => R = .returned (.bool true) ∧ Below w.heap.size w w' := by
  have q1 := str_yes2 []
  have HN : Hid (∀ W, NilD W (.pointer none)) := fun W => .inl rfl
  go_enter Try.func13, Try.ntmps13
  go_wp2_with fail
  refine (read_nil _ n w (HN.out _)).mono ?_
  rintro R w1 ⟨rfl, hb1⟩
  have B1 := Lib.hid hb1
  clear hb1
  go_wp2_with fail
  refine (rread_nil n w1).mono ?_
  rintro R w2 ⟨rfl, rfl⟩
  go_wp2_with fail
  refine (list_nil w1 (HN.out _)).mono ?_
  rintro R w2 ⟨u, rfl, hu, hb2⟩
  obtain ⟨uo, uc, rfl⟩ := hu.sl
  rw [List.length_nil] at hu ⊢
  have HU := Lib.hid hu
  have B2 := Lib.hid (B1.out.trans (hb2.mono B1.out.size))
  clear hu hb2
  go_wp2_with fail
  refine (usedD_nil w2 (HN.out _)).mono ?_
  rintro R w3 ⟨rfl, hb3⟩
  have HU3 := Lib.hid (HU.out.new hb3)
  have B3 := Lib.hid (B2.out.trans (hb3.mono B2.out.size))
  clear hb3 HU
  go_wp2_with fail
  refine (rused_nil w3).mono ?_
  rintro R w4 ⟨rfl, rfl⟩
  go_wp2_with fail
  refine (synced_nil _ n w3 (HN.out _)).mono ?_
  rintro R w4 ⟨rfl, hb4⟩
  have HU4 := Lib.hid (HU3.out.new hb4)
  have B4 := Lib.hid (B3.out.trans (hb4.mono B3.out.size))
  clear hb4 HU3
  go_wp2_with fail
  refine (rsynced_nil n w4).mono ?_
  rintro R w5 ⟨rfl, rfl⟩
  go_wp2_with fail
  refine (rlist_nil w4).mono ?_
  rintro R w5 ⟨rfl, rfl⟩
  go_wp2_with fail
  have hsm := rsame_c (l := []) HU4.out (World.ownsRow_nil _ _ _ _ : Lst w4 w4.heap.size (.slice none 0 0) []) (by simp)
  refine hsm.mono ?_
  rintro R w6 ⟨rfl, hb6⟩
  have B6 := Lib.hid (B4.out.trans (hb6.mono B4.out.size))
  clear hb6 hsm q1 B1 B2 B3 B4
  go_wp2
  go_loopw [12] (fun i wr => i = .int .i64 0 ∧ wr = w6) (fun i _ => 0)
  case atStart => exact ⟨rfl, rfl⟩
  case round =>
    obtain ⟨rfl, rfl⟩ := hrel
    go_wp2
    go_ret
    exact ⟨rfl, B6.out⟩
end Go.Proofs.Ytecchaogpcpooaa
