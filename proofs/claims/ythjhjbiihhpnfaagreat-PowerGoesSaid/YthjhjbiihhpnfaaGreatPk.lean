/- few, texts; two disks of the same files are alike. -/
import Derived.Test.YthjhjbiihhpnfaaGreatPj
import Derived.Test.YthjhjbiihhpnfaaGreatEm
namespace Go.Proofs.YthjhjbiihhpnfaaGreat
open Go.RowKit Go.Shelf Go.Deep
set_option linter.unusedVariables false
set_option linter.unusedSimpArgs false
set_option maxRecDepth 100000

/-- A call: what, a name, another text. -/
structure Act3 where
  c : Nat
  n : List UInt8
  t : List UInt8
def Act3.cs (a : Act3) : Array Value := #[.int .u8 (a.c : Int), .string (str a.n), .string (str a.t)]
structure Act3.ok (a : Act3) : Prop where
  c : a.c < 256
  n : a.n.length ≤ maxLen
  t : a.t.length ≤ maxLen
/-- Acts that can be read there. -/
def Acs3 (w : World) (ao : Option Addr) (l : List Act3) : Prop :=
  ∀ j (h : j < l.length), ∃ b o, ao = some ⟨b, o, none⟩ ∧ (∀ i v, ((l[j]'h).cs)[i]? = some v → w.cell? ⟨b, o + j * 3 + i, none⟩ = some v) ∧ (l[j]'h).ok
theorem Acs3.tu {S : Nat → Prop} {w w' : World} {ao : Option Addr} {l : List Act3} (h : Acs3 w ao l) (k : Tu S w w') (hs : ∀ a, ao = some a → a.block < w.heap.size → ¬ S a.block) : Acs3 w' ao l := fun j hj => by
  obtain ⟨b, o, e, hc, hk⟩ := h j hj
  refine ⟨b, o, e, fun i v hv => ?_, hk⟩
  have h1 := hc i v hv
  have hlt := World.block_lt_of_cell? w _ h1
  rw [World.cell?_of_block (w := w) (k.block b hlt (hs _ e hlt))]
  exact h1
theorem Acs3.to {w w' : World} {ao : Option Addr} {l : List Act3} (h : Acs3 w ao l) (hb : Below w.heap.size w w') : Acs3 w' ao l := h.tu (S := fun _ => False) (.new hb) (fun _ _ _ h => h)
def FewPost3 (w : World) (l : List Act3) (R : Ending) (w' : World) : Prop := w = w' ∧ (R = .returned (.bool false) ∨ (R = .returned (.bool true) ∧ l.length ≤ 80))
set_option maxHeartbeats 1000000 in
theorem few3_c (w : World) {ao : Option Addr} {cap : Nat} {l : List Act3} (h : Acs3 w ao l) (hl : l.length ≤ maxLen) :
    Calls Tryz.prog 5 #[.slice ao l.length cap] w (FewPost3 w l) := by
  simp only [maxLen] at hl
  have H := Lib.hid h
  clear h
  go_enter Tryz.func5, Tryz.ntmps5
  go_wp2
  go_loop [3] (fun i => ∃ k : Nat, k ≤ l.length ∧ i = .int .i64 k) (fun i => l.length - (intOf i).toNat)
  case atStart => exact ⟨0, Nat.zero_le _, rfl⟩
  case round =>
    obtain ⟨k, hk, rfl⟩ := hrel
    by_cases hlt : k < l.length
    · by_cases h90 : k < 90
      · obtain ⟨b, o, rfl, hc, hok⟩ := H.out k hlt
        have c1 : w.cell? ⟨b, o + k * 3 + 1, none⟩ = some (.string (str (l[k]'hlt).n)) := hc 1 _ rfl
        have c2 : w.cell? ⟨b, o + k * 3 + 2, none⟩ = some (.string (str (l[k]'hlt).t)) := hc 2 _ rfl
        have s1 := str_size (l[k]'hlt).n
        have s2 := str_size (l[k]'hlt).t
        have hn := hok.n
        have ht := hok.t
        simp only [maxLen] at hn ht
        clear hc hok
        generalize (l[k]'hlt).n = an at *
        generalize (l[k]'hlt).t = at' at *
        by_cases h3 : 2000 < an.length
        · go_wp2
          go_ret
          exact ⟨rfl, .inl rfl⟩
        · by_cases h1 : 2000 < at'.length
          · go_wp2
            go_ret
            exact ⟨rfl, .inl rfl⟩
          · go_wp2
            go_round
            case rel => exact ⟨k + 1, by omega, by go_num⟩
            case measure => simp [intOf]; omega
      · have h80 : ¬ (l.length : Int) ≤ 80 := by omega
        go_wp2
        go_ret
        exact ⟨rfl, .inl (by simp [h80])⟩
    · have hx : k = l.length := by omega
      have HX := Lib.hid hx
      clear hx
      by_cases h80 : (l.length : Int) ≤ 80
      · go_wp2
        go_ret
        exact ⟨rfl, .inr ⟨by simp [h80], by omega⟩⟩
      · go_wp2
        go_ret
        exact ⟨rfl, .inl (by simp [h80])⟩
theorem texts_c {w : World} {B C : Nat} {va vb : Value} {l : List (List UInt8)} (ha : Lst w B va l) (hb : Lst w C vb l) (hl : l.length ≤ 1000) :
    Calls Tryz.prog 29 #[va, vb] w fun R w' => R = .returned (.bool true) ∧ Below w.heap.size w w' := by
  obtain ⟨ao, ac, rfl⟩ := ha.sl
  obtain ⟨bo, bc, rfl⟩ := hb.sl
  have HA := Lib.hid ha
  have HB := Lib.hid hb
  clear ha hb
  go_enter Tryz.func29, Tryz.ntmps29
  go_wp2
  go_loopw [5] (fun i wr => ∃ k : Nat, k ≤ l.length ∧ i = .int .i64 k ∧ Hid (Below w.heap.size w wr)) (fun i _ => l.length - (intOf i).toNat)
  case atStart => exact ⟨0, Nat.zero_le _, rfl, Below.refl _ _⟩
  case round =>
    obtain ⟨k, hk, rfl, HW⟩ := hrel
    by_cases hlt : k < l.length
    · have i2 : (k : Int) < (l.length : Int) := by omega
      obtain ⟨ga, ca, ea, xa⟩ := (HA.out.new HW.out).at hlt
      obtain ⟨gb, cb, eb, xb⟩ := (HB.out.new HW.out).at hlt
      injection ea with ea1 ea2 ea3
      injection eb with eb1 eb2 eb3
      subst ea1 eb1
      rw [Nat.zero_add] at xa xb
      have q1 := str_yes2 (l[k]'hlt)
      clear ea2 ea3 eb2 eb3
      generalize l[k]'hlt = n at *
      go_upto_region 6 with fail
      go_quiet (fail)
      have HW2 := Lib.hid (HW.out.trans ((below_drewN (Below.refl wr.heap.size wr) nq).mono HW.out.size))
      clear xa xb
      generalize wr.drewN nq = wx at *
      go_wp2
      go_round
      case rel => exact ⟨k + 1, by omega, by go_num, HW2.out⟩
      case measure => simp [intOf]; omega
    · have hx : k = l.length := by omega
      have i2 : ¬ (k : Int) < (l.length : Int) := by omega
      have HX := Lib.hid hx
      clear hx hlt hk
      go_wp2
      go_ret
      exact ⟨rfl, HW.out⟩
theorem Lst.nmE {w : World} {B : Nat} {v : Value} {E : List Ent} (h : Lst w B v (E.map Ent.nm)) : ∃ uo uc, v = .slice uo E.length uc := by
  obtain ⟨uo, uc, e⟩ := h.sl
  rw [List.length_map] at e
  exact ⟨uo, uc, e⟩
set_option maxHeartbeats 4000000 in
theorem alike3_c {S S2 : Nat → Prop} {gd g q cap : Nat} {ao : Option Addr} {E : List Ent} (w : World) (h : DkS S w (.pointer (some ⟨gd, 0, none⟩)) q E) (h2 : RkC S2 w g q ao cap E) :
    Calls Tryz.prog 13 #[.pointer (some ⟨gd, 0, none⟩), .pointer (some ⟨g, 0, none⟩)] w fun R w' => R = .returned (.bool true) ∧ Below w.heap.size w w' := by
  have HG := Lib.hid h.good
  have hel := h.good.len
  have HD := Lib.hid h
  have HR := Lib.hid h2
  clear h h2
  have hnot : ∀ (x : Bool) (w : World), (Op.unary .not (.bool x)).run Tryz.prog w = .ok (.bool (!x)) w := fun _ _ => rfl
  go_enter Tryz.func13, Tryz.ntmps13
  go_wp2_with fail
  refine (list_s w HD.out).mono ?_
  rintro R w1 ⟨u, rfl, hu, hb1⟩
  have B1 := Lib.hid hb1
  have HU := Lib.hid hu
  clear hb1 hu
  obtain ⟨uo, uc, rfl⟩ := HU.out.nmE
  go_wp2_with fail
  refine (rlist_c (HR.out.new B1.out)).mono ?_
  rintro R w2 ⟨u2, rfl, hu2, hb2⟩
  have HV2 := Lib.hid hu2
  have HU2 := Lib.hid (HU.out.new hb2)
  have B2 := Lib.hid (B1.out.trans (hb2.mono B1.out.size))
  clear hb2 hu2 HU B1
  go_wp2_with fail
  refine (texts_c HU2.out HV2.out (by rw [List.length_map]; omega)).mono ?_
  rintro R w3 ⟨rfl, hb3⟩
  have HU3 := Lib.hid (HU2.out.new hb3)
  have B3 := Lib.hid (B2.out.trans (hb3.mono B2.out.size))
  clear hb3 HU2 HV2 B2
  go_wp2_with fail
  refine (used_s w3 (HD.out.new B3.out)).mono ?_
  rintro R w4 ⟨rfl, hb4⟩
  have HU4 := Lib.hid (HU3.out.new hb4)
  have B4 := Lib.hid (B3.out.trans (hb4.mono B3.out.size))
  clear hb4 HU3 B3
  go_wp2_with fail
  refine (rused_c (HR.out.new B4.out)).mono ?_
  rintro R w5 ⟨rfl, rfl⟩
  go_wp2
  go_loopw [6] (fun i wr => ∃ k : Nat, k ≤ E.length ∧ i = .int .i64 k ∧ Hid (Below w4.heap.size w4 wr)) (fun i _ => E.length - (intOf i).toNat)
  case atStart => exact ⟨0, Nat.zero_le _, rfl, Below.refl _ _⟩
  case round =>
    obtain ⟨k, hk, rfl, HB⟩ := hrel
    by_cases hlt : k < E.length
    · have i2 : (k : Int) < (E.length : Int) := by omega
      obtain ⟨gu, rfl, cu⟩ := HU4.out.nmAt2 hlt
      have HN2 : Hid ((E[k]'hlt).nm.length ≤ maxLen) := Nat.le_trans (nm_short2 HG.out hlt) (by decide)
      have CU := Lib.hid cu
      clear cu
      generalize (E[k]'hlt).nm = m at *
      obtain ⟨r2, hr2⟩ : ∃ r2, rd E m = r2 := ⟨_, rfl⟩
      obtain ⟨e2, he2⟩ : ∃ e2, eFind E m = e2 := ⟨_, rfl⟩
      obtain ⟨s2, hs2⟩ : ∃ s2, sy E m = s2 := ⟨_, rfl⟩
      have HR2 := Lib.hid hr2
      have HE2 := Lib.hid he2
      have HS2 := Lib.hid hs2
      clear hr2 he2 hs2
      have q1 := str_yes2 r2
      have HW0 := Lib.hid (B4.out.trans (HB.out.mono B4.out.size))
      have cu0 := CU.out wr HB.out
      go_wp2_with fail
      refine (read_c m wr (HD.out.new HW0.out) HN2.out).mono ?_
      rintro R w7 ⟨rfl, hb7⟩
      rw [HR2.out, HE2.out]
      have HB7 := Lib.hid (HB.out.trans (hb7.mono HB.out.size))
      have HW7 := Lib.hid (HW0.out.trans (hb7.mono HW0.out.size))
      clear hb7 cu0 HW0 HB
      have cu0 := CU.out w7 HB7.out
      go_wp2_with fail
      refine (rread_c (HR.out.new HW7.out) m HN2.out).mono ?_
      rintro R w8 ⟨rfl, rfl⟩
      rw [HR2.out, HE2.out]
      have HB8 := HB7
      have HW8 := HW7
      clear cu0 HW7 HB7
      generalize w7 = w8 at *
      have lu : ∀ W, Below w4.heap.size w4 W → W.cell? ⟨gu, k, none⟩ = some (.string (str m)) := CU.out
      go_upto_region 9 with fail
      have hs0 := HB8.out.drew
      have hw0 := HW8.out.drew
      generalize hwd : w8.drew = wd at *
      refine wp_region_till (S := fun w' => Below w4.heap.size w4 w') (by kernel_rfl) ?_
      rw [hwd]
      clear hwd
      refine wpTill_take (i := 0) (v := ?va0) rfl (by kernel_rfl) (fun _ _ _ h => h) (Or.inl ⟨by rfl, ?hya0⟩) hs0 ?resta0
      case hya0 => (intro W hW; (try dsimp only at hW); go_simp; try with_reducible rfl)
      simp only [Act.put, List.setIfInBounds_toArray, List.set_cons_zero, List.set_cons_succ, List.getElem_toArray, List.getElem_cons_succ, List.getElem_cons_zero]
      refine wpTill_take (i := 1) (v := ?va1) rfl (by kernel_rfl) (fun _ _ _ h => h) (Or.inl ⟨by rfl, ?hya1⟩) hs0 ?resta1
      case hya1 => (intro W hW; (try dsimp only at hW); go_simp; try with_reducible rfl)
      simp only [Act.put, List.setIfInBounds_toArray, List.set_cons_zero, List.set_cons_succ, List.getElem_toArray, List.getElem_cons_succ, List.getElem_cons_zero]
      refine wpTill_take (i := 2) (v := ?va2) rfl (by kernel_rfl) (fun _ _ _ h => h) (Or.inl ⟨by rfl, ?hya2⟩) hs0 ?resta2
      case hya2 => (intro W hW; (try dsimp only at hW); go_simp; try with_reducible rfl)
      simp only [Act.put, List.setIfInBounds_toArray, List.set_cons_zero, List.set_cons_succ, List.getElem_toArray, List.getElem_cons_succ, List.getElem_cons_zero]
      refine wpTill_take (i := 3) (v := ?va3) rfl (by kernel_rfl) (fun _ _ _ h => h) (Or.inl ⟨by rfl, ?hya3⟩) hs0 ?resta3
      case hya3 => (intro W hW; (try dsimp only at hW); go_simp; try with_reducible rfl)
      simp only [Act.put, List.setIfInBounds_toArray, List.set_cons_zero, List.set_cons_succ, List.getElem_toArray, List.getElem_cons_succ, List.getElem_cons_zero]
      refine wpTill_take (i := 4) (v := ?va4) rfl (by kernel_rfl) (fun _ _ _ h => h) (Or.inl ⟨by rfl, ?hya4⟩) hs0 ?resta4
      case hya4 => (intro W hW; (try dsimp only at hW); go_simp; try with_reducible rfl)
      simp only [Act.put, List.setIfInBounds_toArray, List.set_cons_zero, List.set_cons_succ, List.getElem_toArray, List.getElem_cons_succ, List.getElem_cons_zero]
      refine wpTill_take (i := 5) (v := ?va5) rfl (by kernel_rfl) (fun _ _ _ h => h) (Or.inl ⟨by rfl, ?hya5⟩) hs0 ?resta5
      case hya5 => (intro W hW; (try dsimp only at hW); go_simp; try with_reducible rfl)
      simp only [Act.put, List.setIfInBounds_toArray, List.set_cons_zero, List.set_cons_succ, List.getElem_toArray, List.getElem_cons_succ, List.getElem_cons_zero]
      refine wpTill_take (i := 6) (v := ?va6) rfl (by kernel_rfl) (fun _ _ _ h => h) (Or.inl ⟨by rfl, ?hya6⟩) hs0 ?resta6
      case hya6 => (intro W hW; (try dsimp only at hW); go_simp; try with_reducible rfl)
      simp only [Act.put, List.setIfInBounds_toArray, List.set_cons_zero, List.set_cons_succ, List.getElem_toArray, List.getElem_cons_succ, List.getElem_cons_zero]
      refine wpTill_take (i := 7) (v := ?va7) rfl (by kernel_rfl) (fun _ _ _ h => h) (Or.inl ⟨by rfl, ?hya7⟩) hs0 ?resta7
      case hya7 => (intro W hW; (try dsimp only at hW); go_simp; try with_reducible rfl)
      simp only [Act.put, List.setIfInBounds_toArray, List.set_cons_zero, List.set_cons_succ, List.getElem_toArray, List.getElem_cons_succ, List.getElem_cons_zero]
      refine wpTill_take (i := 8) (v := ?va8) rfl (by kernel_rfl) (fun _ _ _ h => h) (Or.inl ⟨by rfl, ?hya8⟩) hs0 ?resta8
      case hya8 => (intro W hW; (try dsimp only at hW); go_simp; try with_reducible rfl)
      simp only [Act.put, List.setIfInBounds_toArray, List.set_cons_zero, List.set_cons_succ, List.getElem_toArray, List.getElem_cons_succ, List.getElem_cons_zero]
      refine wpTill_take (i := 9) (v := ?va9) rfl (by kernel_rfl) (fun _ _ _ h => h) (Or.inl ⟨by rfl, ?hya9⟩) hs0 ?resta9
      case hya9 => (intro W hW; (try dsimp only at hW); go_simp; try with_reducible rfl)
      simp only [Act.put, List.setIfInBounds_toArray, List.set_cons_zero, List.set_cons_succ, List.getElem_toArray, List.getElem_cons_succ, List.getElem_cons_zero]
      refine wpTill_take (i := 10) (v := ?va10) rfl (by kernel_rfl) (fun _ _ _ h => h) (Or.inl ⟨by rfl, ?hya10⟩) hs0 ?resta10
      case hya10 => (intro W hW; (try dsimp only at hW); go_simp; try with_reducible rfl)
      simp only [Act.put, List.setIfInBounds_toArray, List.set_cons_zero, List.set_cons_succ, List.getElem_toArray, List.getElem_cons_succ, List.getElem_cons_zero]
      refine wpTill_take (i := 11) (v := ?va11) rfl (by kernel_rfl) (fun _ _ _ h => h) (Or.inl ⟨by rfl, ?hya11⟩) hs0 ?resta11
      case hya11 => (intro W hW; (try dsimp only at hW); go_simp; try with_reducible rfl)
      simp only [Act.put, List.setIfInBounds_toArray, List.set_cons_zero, List.set_cons_succ, List.getElem_toArray, List.getElem_cons_succ, List.getElem_cons_zero]
      refine wpTill_take (i := 12) (v := ?va12) rfl (by kernel_rfl) (fun _ _ _ h => h) (Or.inl ⟨by rfl, ?hya12⟩) hs0 ?resta12
      case hya12 => (intro W hW; (try dsimp only at hW); go_simp; try with_reducible rfl)
      simp only [Act.put, List.setIfInBounds_toArray, List.set_cons_zero, List.set_cons_succ, List.getElem_toArray, List.getElem_cons_succ, List.getElem_cons_zero]
      refine wpTill_take (i := 13) (v := ?va13) rfl (by kernel_rfl) (fun _ _ _ h => h) (Or.inl ⟨by rfl, ?hya13⟩) hs0 ?resta13
      case hya13 => (intro W hW; (try dsimp only at hW); go_simp; try with_reducible rfl)
      simp only [Act.put, List.setIfInBounds_toArray, List.set_cons_zero, List.set_cons_succ, List.getElem_toArray, List.getElem_cons_succ, List.getElem_cons_zero]
      refine wpTill_take (i := 15) (v := ?va15) rfl (by kernel_rfl) (fun _ _ _ h => h) (Or.inl ⟨by rfl, ?hya15⟩) hs0 ?resta15
      case hya15 => (intro W hW; (try dsimp only at hW); go_simp; try with_reducible rfl)
      simp only [Act.put, List.setIfInBounds_toArray, List.set_cons_zero, List.set_cons_succ, List.getElem_toArray, List.getElem_cons_succ, List.getElem_cons_zero]
      refine wpTill_take (i := 16) (v := ?va16) rfl (by kernel_rfl) (fun _ _ _ h => h) (Or.inl ⟨by rfl, ?hya16⟩) hs0 ?resta16
      case hya16 => (intro W hW; (try dsimp only at hW); go_simp; try with_reducible rfl)
      simp only [Act.put, List.setIfInBounds_toArray, List.set_cons_zero, List.set_cons_succ, List.getElem_toArray, List.getElem_cons_succ, List.getElem_cons_zero]
      refine wpTill_take (i := 17) (v := ?va17) rfl (by kernel_rfl) (fun _ _ _ h => h) (Or.inl ⟨by rfl, ?hya17⟩) hs0 ?resta17
      case hya17 => (intro W hW; (try dsimp only at hW); go_simp; try with_reducible rfl)
      simp only [Act.put, List.setIfInBounds_toArray, List.set_cons_zero, List.set_cons_succ, List.getElem_toArray, List.getElem_cons_succ, List.getElem_cons_zero]
      refine wpTill_take (i := 18) (v := ?va18) rfl (by kernel_rfl) (fun _ _ _ h => h) (Or.inl ⟨by rfl, ?hya18⟩) hs0 ?resta18
      case hya18 => (intro W hW; (try dsimp only at hW); go_simp; try with_reducible rfl)
      simp only [Act.put, List.setIfInBounds_toArray, List.set_cons_zero, List.set_cons_succ, List.getElem_toArray, List.getElem_cons_succ, List.getElem_cons_zero]
      refine wpTill_take (i := 19) (v := ?va19) rfl (by kernel_rfl) (fun _ _ _ h => h) (Or.inl ⟨by rfl, ?hya19⟩) hs0 ?resta19
      case hya19 => (intro W hW; (try dsimp only at hW); go_simp; try with_reducible rfl)
      simp only [Act.put, List.setIfInBounds_toArray, List.set_cons_zero, List.set_cons_succ, List.getElem_toArray, List.getElem_cons_succ, List.getElem_cons_zero]
      refine wpTill_run (i := 14) (by kernel_rfl) rfl hs0 (fun K hK => ?_)
      go_simp
      go_at_call 41
      refine (synced_c m wd (HD.out.new hw0) HN2.out).mono ?_
      rintro R w9 ⟨rfl, hb9⟩
      rw [HS2.out]
      have hs1 := hs0.trans (hb9.mono hs0.size)
      have hw1 := hw0.trans (hb9.mono hw0.size)
      refine hK _ _ ?_
      clear hK K
      refine wpTill_run (i := 20) (by kernel_rfl) rfl hs1 (fun K hK => ?_)
      go_simp
      go_at_call 42
      refine (rsynced_c (HR.out.new hw1) m HN2.out).mono ?_
      rintro R w10 ⟨rfl, rfl⟩
      rw [HS2.out]
      have hs2 := hs1
      refine hK _ _ ?_
      clear hK K
      refine wpTill_take (i := 21) (v := ?vb21) rfl (by kernel_rfl) (fun _ _ _ h => h) (Or.inl ⟨by rfl, ?hyb21⟩) hs2 ?restb21
      case hyb21 => (intro W hW; (try dsimp only at hW); go_simp; try with_reducible rfl)
      simp only [Act.put, List.setIfInBounds_toArray, List.set_cons_zero, List.set_cons_succ, List.getElem_toArray, List.getElem_cons_succ, List.getElem_cons_zero]
      refine wpTill_run (i := 22) (by kernel_rfl) rfl hs2 (fun K hK => ?_)
      go_simp
      refine hK _ _ ?_
      clear hK K
      refine wpTill_done (by kernel_rfl) ?_
      have HS1 := Lib.hid hs2
      clear hs0 hs1 hs2 hw0 hw1 hb9 lu
      go_wp2
      go_round
      case rel => exact ⟨k + 1, by omega, by go_num, HS1.out⟩
      case measure => simp [intOf]; omega
    · have hx : k = E.length := by omega
      have i2 : ¬ (k : Int) < (E.length : Int) := by omega
      have HX := Lib.hid hx
      clear hx hlt hk
      go_wp2
      go_ret
      exact ⟨rfl, B4.out.trans (HB.out.mono B4.out.size)⟩
end Go.Proofs.YthjhjbiihhpnfaaGreat
