/- FoldHistory: the walk. Nothing is assumed beyond the bounds of the row's own types. -/
import Derived.Test.YtgmbdadkahcpcaaDoorWn
namespace Go.Proofs.YtgmbdadkahcpcaaDoor
open Go.RowKit
set_option linter.unusedVariables false
set_option linter.unusedSimpArgs false
set_option maxRecDepth 20000
/-- An act as it comes in. -/
structure Ac where
  c : Nat
  p : Nat
  q : Nat
  f : Nat
  n : Int
structure Ac.ok (a : Ac) : Prop where
  c : a.c < 256
  p : a.p < 256
  q : a.q < 256
  f : a.f < 18446744073709551616
  n1 : -9223372036854775808 ≤ a.n
  n2 : a.n < 9223372036854775808
abbrev Ac.cs (a : Ac) : List Value := [.int .u8 (a.c : Int), .int .u8 (a.p : Int), .int .u8 (a.q : Int), .int .u64 (a.f : Int), .int .i64 a.n]
/-- Acts can be read at this address. -/
def Acs (w : World) (lo : Option Addr) (l : List Ac) : Prop :=
  ∀ k (h : k < l.length), (l[k]'h).ok ∧ ∃ b o, lo = some ⟨b, o, none⟩ ∧ ∀ j v, (l[k]'h).cs[j]? = some v → w.cell? ⟨b, o + k * 5 + j, none⟩ = some v
theorem Acs.to {w w' : World} {lo : Option Addr} {l : List Ac} (h : Acs w lo l) (hb : Below w.heap.size w w') : Acs w' lo l := fun k hk => by
  obtain ⟨h1, b, o, e, h3⟩ := h k hk
  refine ⟨h1, b, o, e, fun j v hv => ?_⟩
  have h4 := h3 j v hv
  exact (hb.cell (p := ⟨b, o + k * 5 + j, none⟩) (World.block_lt_of_cell? w _ h4)).trans h4
theorem run_ldCell {T : TypeId} (ty : TyO T) {w : World} {p : Addr} {v : Value} (hc : w.cell? p = some v) : (ldT T (.pointer (some p))).run Tryd.prog w = .ok v w := by
  simp [ldT, Instr.loadAt, Instr.sureAddr, loadVar, ty.agg w, hc, go_sem]
attribute [local go_sem ↓] ld_act ld_u64
set_option maxHeartbeats 4000000 in
theorem law_history (first : Nat) (most : Int) (l : List Ac) (lo : Option Addr) (cap : Nat) (w : World) (hf : first < 18446744073709551616) (hA : Acs w lo l) (hl : l.length ≤ maxLen) (hL : Laid w) :
    Calls Tryd.prog 4 #[.int .u64 (first : Int), .int .i64 most, .slice lo l.length cap] w fun E w' => E = .returned (.bool true) ∧ Below w.heap.size w w' := by
  have HA := Lib.hid hA
  have HL := Lib.hid hL
  have HF := Lib.hid hf
  have hml : l.length ≤ 9223372036854775807 := Nat.le_trans hl (by decide)
  clear hA hL hl
  by_cases hm : 1 ≤ most ∧ most ≤ 256
  · have CN := Lib.hid (pnew_c first most w hm)
    have CM : Hid (∀ W, Calls Tryd.prog 14 #[.int .i64 most] W fun E w' => E = .returned (.bool true) ∧ W = w') := fun W => by
      have := may_c most W
      rwa [decide_eq_true hm] at this
    have HM := Lib.hid hm
    have HOK : Hid ((⟨first, most.toNat, []⟩ : Hm).ok) := ⟨by have := hm.1; show 1 ≤ most.toNat; omega, by have := hm.2; show most.toNat ≤ 256; omega, by simp, by simpa [Hm.cnt] using hf, by simp⟩
    have hmc : most = ((most.toNat : Nat) : Int) := by omega
    generalize most.toNat = M at *
    subst hmc
    clear hm hf
    go_enter Tryd.func4, Tryd.ntmps4
    go_wp2_with fail
    refine CN.out.mono ?_
    rintro E w1 ⟨g, rfl, hg, hglt, hP1, hb1⟩
    go_wp2_with fail
    refine (CM.out w1).mono ?_
    rintro E w2 ⟨rfl, rfl⟩
    have HG := Lib.hid hg
    have HGL := Lib.hid hglt
    have HP1 := Lib.hid hP1
    have HB1 := Lib.hid hb1
    clear hg hglt hP1 hb1 CN CM
    go_wp2
    obtain ⟨r, hr⟩ : ∃ r, w1.heap.size = r := ⟨_, rfl⟩
    have hal := (Below.refl w1.heap.size w1).alloc (Nat.le_refl _) (.cells #[.int .u64 (first : Int), .int .i64 (M : Int), .slice none 0 0] 43)
    have HR2 : Hid (RH (w1.alloc (.cells #[.int .u64 (first : Int), .int .i64 (M : Int), .slice none 0 0] 43)) [g, r] r first M []) := ⟨none, 0, by rw [← hr]; exact Cells.made w1 _ _, Pix.nil _ _, fun _ => rfl, Nat.le_refl _⟩
    have HP2 := Lib.hid (HP1.out.below hal HP1.out.lt)
    have HB2 := Lib.hid (HB1.out.trans (hal.mono HB1.out.size))
    have HBR := Lib.hid (show w.heap.size ≤ g ∧ w.heap.size ≤ r ∧ g ≠ r by have := HG.out; have := HGL.out; omega)
    rw [hr]
    clear hal HP1 HB1 hr HG HGL
    generalize w1.alloc (.cells #[.int .u64 (first : Int), .int .i64 (M : Int), .slice none 0 0] 43) = w2 at *
    go_loopw [9] (fun v wr => ∃ (k : Nat) (h : Hm), k ≤ l.length ∧ k ≤ 600 ∧ v = .int .i64 k ∧ Hid h.ok ∧ Hid (PH wr g h) ∧ Hid (RH wr [g, r] r h.f h.m h.l) ∧ Hid (Below w.heap.size w wr)) (fun v _ => l.length - (intOf v).toNat)
    case atStart => exact ⟨0, ⟨first, M, []⟩, by omega, by omega, rfl, HOK.out, HP2.out, HR2.out, HB2.out⟩
    case round =>
      clear HP2 HR2 HB2 HOK
      obtain ⟨k, h, hk, hk6, rfl, HK, HP, HR, HB⟩ := hrel
      by_cases hlt : k < l.length
      · have i1 : (k : Int) < (l.length : Int) := by omega
        by_cases hlt6 : k < 600
        · have i2 : (k : Int) < 600 := by omega
          obtain ⟨hok, b0, o0, rfl, hcs⟩ := HA.out k hlt
          obtain ⟨⟨c, p, q, f, n⟩, ha⟩ : ∃ a, l[k]'hlt = a := ⟨_, rfl⟩
          rw [ha] at hok hcs
          have HOKA := Lib.hid hok
          have HCS := Lib.hid hcs
          obtain ⟨x, hx, e1⟩ : ∃ x : Nat, x < 18446744073709551616 ∧ IntKind.u64.wrap ((first : Int) + (f : Int)) = (x : Int) := ⟨(first + f) % 18446744073709551616, Nat.mod_lt _ (by decide), by rw [IntKind.wrap_u64]; omega⟩
          have HX := Lib.hid hx
          clear hok hcs ha hx
          have a1 : ∀ W, Below w.heap.size w W → (ldT 49 (.pointer (some ⟨b0, o0 + k * 5, none⟩))).run Tryd.prog W = .ok (.agg #[.int .u8 (c : Int), .int .u8 (p : Int), .int .u8 (q : Int), .int .u64 (f : Int), .int .i64 n]) W := fun W hW => run_ldP ty_act [_, _, _, _, _] rfl (fun j v hv => by
            have h4 := HCS.out j v hv
            exact (hW.cell (p := ⟨b0, o0 + k * 5 + j, none⟩) (World.block_lt_of_cell? w _ h4)).trans h4)
          have a2 : ∀ W, Below w.heap.size w W → (ldT 22 (.pointer (some ⟨b0, o0 + k * 5 + 3, none⟩))).run Tryd.prog W = .ok (.int .u64 (f : Int)) W := fun W hW => by
            have h4 := HCS.out 3 _ rfl
            exact run_ldCell ty_u64 ((hW.cell (p := ⟨b0, o0 + k * 5 + 3, none⟩) (World.block_lt_of_cell? w _ h4)).trans h4)
          have hs0 := HB.out.drew
          have HPd := Lib.hid (HP.out.below (Below.refl wr.heap.size wr).drew HP.out.lt)
          have HRd := Lib.hid (HR.out.below (B := 0) (Below.refl wr.heap.size wr).drew)
          clear HP HR HB
          go_upto_region 10 with fail
          generalize hwd : wr.drew = wd at *
          refine wp_region_till (S := fun w' => Below w.heap.size w w') (by kernel_rfl) ?_
          rw [hwd]
          clear hwd
          refine wpTill_take (i := 0) (v := ?va0) rfl (by kernel_rfl) (fun _ _ _ h => h) (Or.inl ⟨by rfl, ?hya0⟩) hs0 ?resta0
          case hya0 => (intro W hW; (try dsimp only at hW); go_simp; try with_reducible rfl)
          simp only [Act.put, List.setIfInBounds_toArray, List.set_cons_zero, List.set_cons_succ]
          refine wpTill_take (i := 1) (v := ?va1) rfl (by kernel_rfl) (fun _ _ _ h => h) (Or.inl ⟨by rfl, ?hya1⟩) hs0 ?resta1
          case hya1 => (intro W hW; (try dsimp only at hW); go_simp; try with_reducible rfl)
          simp only [Act.put, List.setIfInBounds_toArray, List.set_cons_zero, List.set_cons_succ]
          refine wpTill_take (i := 2) (v := ?va2) rfl (by kernel_rfl) (fun _ _ _ h => h) (Or.inl ⟨by rfl, ?hya2⟩) hs0 ?resta2
          case hya2 => (intro W hW; (try dsimp only at hW); go_simp; try with_reducible rfl)
          simp only [Act.put, List.setIfInBounds_toArray, List.set_cons_zero, List.set_cons_succ]
          refine wpTill_take (i := 3) (v := ?va3) rfl (by kernel_rfl) (fun _ _ _ h => h) (Or.inl ⟨by rfl, ?hya3⟩) hs0 ?resta3
          case hya3 => (intro W hW; (try dsimp only at hW); go_simp; try with_reducible rfl)
          simp only [Act.put, List.setIfInBounds_toArray, List.set_cons_zero, List.set_cons_succ]
          refine wpTill_take (i := 4) (v := ?va4) rfl (by kernel_rfl) (fun _ _ _ h => h) (Or.inl ⟨by rfl, ?hya4⟩) hs0 ?resta4
          case hya4 => (intro W hW; (try dsimp only at hW); go_simp; try with_reducible rfl)
          simp only [Act.put, List.setIfInBounds_toArray, List.set_cons_zero, List.set_cons_succ]
          refine wpTill_take (i := 5) (v := ?va5) rfl (by kernel_rfl) (fun _ _ _ h => h) (Or.inl ⟨by rfl, ?hya5⟩) hs0 ?resta5
          case hya5 => (intro W hW; (try dsimp only at hW); go_simp; try with_reducible rfl)
          simp only [Act.put, List.setIfInBounds_toArray, List.set_cons_zero, List.set_cons_succ]
          refine wpTill_take (i := 6) (v := ?va6) rfl (by kernel_rfl) (fun _ _ _ h => h) (Or.inl ⟨by rfl, ?hya6⟩) hs0 ?resta6
          case hya6 => (intro W hW; (try dsimp only at hW); go_simp; try with_reducible rfl)
          simp only [Act.put, List.setIfInBounds_toArray, List.set_cons_zero, List.set_cons_succ]
          refine wpTill_take (i := 7) (v := ?va7) rfl (by kernel_rfl) (fun _ _ _ h => h) (Or.inl ⟨by rfl, ?hya7⟩) hs0 ?resta7
          case hya7 => (intro W hW; (try dsimp only at hW); go_simp; try with_reducible rfl)
          simp only [Act.put, List.setIfInBounds_toArray, List.set_cons_zero, List.set_cons_succ]
          refine wpTill_take (i := 8) (v := ?va8) rfl (by kernel_rfl) (fun _ _ _ h => h) (Or.inl ⟨by rfl, ?hya8⟩) hs0 ?resta8
          case hya8 => (intro W hW; (try dsimp only at hW); go_simp; try with_reducible rfl)
          simp only [Act.put, List.setIfInBounds_toArray, List.set_cons_zero, List.set_cons_succ]
          refine wpTill_take (i := 9) (v := ?va9) rfl (by kernel_rfl) (fun _ _ _ h => h) (Or.inl ⟨by rfl, ?hya9⟩) hs0 ?resta9
          case hya9 => (intro W hW; (try dsimp only at hW); go_simp; try with_reducible rfl)
          simp only [Act.put, List.setIfInBounds_toArray, List.set_cons_zero, List.set_cons_succ]
          refine wpTill_take (i := 10) (v := ?va10) rfl (by kernel_rfl) (fun _ _ _ h => h) (Or.inl ⟨by rfl, ?hya10⟩) hs0 ?resta10
          case hya10 => (intro W hW; (try dsimp only at hW); go_simp; try with_reducible rfl)
          simp only [Act.put, List.setIfInBounds_toArray, List.set_cons_zero, List.set_cons_succ]
          refine wpTill_take (i := 11) (v := ?va11) rfl (by kernel_rfl) (fun _ _ _ h => h) (Or.inl ⟨by rfl, ?hya11⟩) hs0 ?resta11
          case hya11 => (intro W hW; (try dsimp only at hW); go_simp; try with_reducible rfl)
          simp only [Act.put, List.setIfInBounds_toArray, List.set_cons_zero, List.set_cons_succ]
          refine wpTill_take (i := 12) (v := ?va12) rfl (by kernel_rfl) (fun _ _ _ h => h) (Or.inl ⟨by rfl, ?hya12⟩) hs0 ?resta12
          case hya12 => (intro W hW; (try dsimp only at hW); go_simp; try with_reducible rfl)
          simp only [Act.put, List.setIfInBounds_toArray, List.set_cons_zero, List.set_cons_succ]
          refine wpTill_run (i := 13) (by kernel_rfl) rfl hs0 (fun K hK => ?_)
          go_simp
          go_at_call 15
          refine (act_c (B := w.heap.size) HPd.out HRd.out HK.out HBR.out.2.2 c p q f n x HX.out HOKA.out.p HOKA.out.q HOKA.out.n1 HOKA.out.n2 HBR.out.1 HBR.out.2.1).mono ?_
          rintro E w2 ⟨h', rfl, hk', hP2, hR2, hb2⟩
          have HK2 := Lib.hid hk'
          have HP2 := Lib.hid hP2
          have HR2 := Lib.hid hR2
          have HB2 := Lib.hid (hs0.trans hb2)
          clear hk' hP2 hR2 hb2 a1 a2 e1
          refine hK _ _ ?_
          clear hK K
          refine wpTill_weak (S' := fun W => Below w2.heap.size w2 W) (fun W hW => HB2.out.trans (hW.mono HB2.out.size)) _ _ _ _ ?_
          have hs2 := Below.refl w2.heap.size w2
          have a3 : ∀ W, Below w2.heap.size w2 W → (ldT 22 (.pointer (some ⟨r, 0, none⟩))).run Tryd.prog W = .ok (.int .u64 (h'.f : Int)) W := fun W hW => by
            obtain ⟨lo2, cap2, h5, _⟩ := HR2.out
            exact run_ldO ty_u64 (h5.below hW h5.lt) 0 rfl
          refine wpTill_take (i := 14) (v := ?vc14) rfl (by kernel_rfl) (fun _ _ _ h => h) (Or.inl ⟨by rfl, ?hyc14⟩) hs2 ?restc14
          case hyc14 => (intro W hW; (try dsimp only at hW); go_simp; try with_reducible rfl)
          simp only [Act.put, List.setIfInBounds_toArray, List.set_cons_zero, List.set_cons_succ]
          refine wpTill_take (i := 15) (v := ?vc15) rfl (by kernel_rfl) (fun _ _ _ h => h) (Or.inl ⟨by rfl, ?hyc15⟩) hs2 ?restc15
          case hyc15 => (intro W hW; (try dsimp only at hW); go_simp; try with_reducible rfl)
          simp only [Act.put, List.setIfInBounds_toArray, List.set_cons_zero, List.set_cons_succ]
          refine wpTill_take (i := 16) (v := ?vc16) rfl (by kernel_rfl) (fun _ _ _ h => h) (Or.inl ⟨by rfl, ?hyc16⟩) hs2 ?restc16
          case hyc16 => (intro W hW; (try dsimp only at hW); go_simp; try with_reducible rfl)
          simp only [Act.put, List.setIfInBounds_toArray, List.set_cons_zero, List.set_cons_succ]
          refine wpTill_take (i := 18) (v := ?vc18) rfl (by kernel_rfl) (fun _ _ _ h => h) (Or.inl ⟨by rfl, ?hyc18⟩) hs2 ?restc18
          case hyc18 => (intro W hW; (try dsimp only at hW); go_simp; try with_reducible rfl)
          simp only [Act.put, List.setIfInBounds_toArray, List.set_cons_zero, List.set_cons_succ]
          refine wpTill_take (i := 19) (v := ?vc19) rfl (by kernel_rfl) (fun _ _ _ h => h) (Or.inl ⟨by rfl, ?hyc19⟩) hs2 ?restc19
          case hyc19 => (intro W hW; (try dsimp only at hW); go_simp; try with_reducible rfl)
          simp only [Act.put, List.setIfInBounds_toArray, List.set_cons_zero, List.set_cons_succ]
          refine wpTill_take (i := 20) (v := ?vc20) rfl (by kernel_rfl) (fun _ _ _ h => h) (Or.inl ⟨by rfl, ?hyc20⟩) hs2 ?restc20
          case hyc20 => (intro W hW; (try dsimp only at hW); go_simp; try with_reducible rfl)
          simp only [Act.put, List.setIfInBounds_toArray, List.set_cons_zero, List.set_cons_succ]
          refine wpTill_take (i := 21) (v := ?vc21) rfl (by kernel_rfl) (fun _ _ _ h => h) (Or.inl ⟨by rfl, ?hyc21⟩) hs2 ?restc21
          case hyc21 => (intro W hW; (try dsimp only at hW); go_simp; try with_reducible rfl)
          simp only [Act.put, List.setIfInBounds_toArray, List.set_cons_zero, List.set_cons_succ]
          refine wpTill_run (i := 17) (by kernel_rfl) rfl hs2 (fun K hK => ?_)
          go_simp
          go_at_call 16
          refine (pfrom_c HP2.out).mono ?_
          rintro E w3 ⟨rfl, rfl⟩
          refine hK _ _ ?_
          clear hK K
          refine wpTill_take (i := 22) (v := ?vc22) rfl (by kernel_rfl) (fun _ _ _ h => h) (Or.inl ⟨by rfl, ?hyc22⟩) hs2 ?restc22
          case hyc22 => (intro W hW; (try dsimp only at hW); go_simp; try with_reducible rfl)
          simp only [Act.put, List.setIfInBounds_toArray, List.set_cons_zero, List.set_cons_succ]
          refine wpTill_take (i := 23) (v := ?vc23) rfl (by kernel_rfl) (fun _ _ _ h => h) (Or.inl ⟨by rfl, ?hyc23⟩) hs2 ?restc23
          case hyc23 => (intro W hW; (try dsimp only at hW); go_simp; try with_reducible rfl)
          simp only [Act.put, List.setIfInBounds_toArray, List.set_cons_zero, List.set_cons_succ]
          refine wpTill_take (i := 24) (v := ?vc24) rfl (by kernel_rfl) (fun _ _ _ h => h) (Or.inl ⟨by rfl, ?hyc24⟩) hs2 ?restc24
          case hyc24 => (intro W hW; (try dsimp only at hW); go_simp; try with_reducible rfl)
          simp only [Act.put, List.setIfInBounds_toArray, List.set_cons_zero, List.set_cons_succ]
          refine wpTill_take (i := 25) (v := ?vc25) rfl (by kernel_rfl) (fun _ _ _ h => h) (Or.inl ⟨by rfl, ?hyc25⟩) hs2 ?restc25
          case hyc25 => (intro W hW; (try dsimp only at hW); go_simp; try with_reducible rfl)
          simp only [Act.put, List.setIfInBounds_toArray, List.set_cons_zero, List.set_cons_succ]
          refine wpTill_take (i := 27) (v := ?vc27) rfl (by kernel_rfl) (fun _ _ _ h => h) (Or.inl ⟨by rfl, ?hyc27⟩) hs2 ?restc27
          case hyc27 => (intro W hW; (try dsimp only at hW); go_simp; try with_reducible rfl)
          simp only [Act.put, List.setIfInBounds_toArray, List.set_cons_zero, List.set_cons_succ]
          refine wpTill_run (i := 26) (by kernel_rfl) rfl hs2 (fun K hK => ?_)
          go_simp
          go_at_call 17
          refine (pcount_c HP2.out).mono ?_
          rintro E w3 ⟨rfl, rfl⟩
          refine hK _ _ ?_
          clear hK K
          refine wpTill_run (i := 28) (by kernel_rfl) rfl hs2 (fun K hK => ?_)
          go_simp
          go_at_call 18
          refine (rcnt_c HR2.out HK2.out).mono ?_
          rintro E w4 ⟨rfl, hb4⟩
          refine hK _ _ ?_
          clear hK K
          refine wpTill_take (i := 29) (v := ?vc29) rfl (by kernel_rfl) (fun _ _ _ h => h) (Or.inl ⟨by rfl, ?hyc29⟩) hb4 ?restc29
          case hyc29 => (intro W hW; (try dsimp only at hW); go_simp; try with_reducible rfl)
          simp only [Act.put, List.setIfInBounds_toArray, List.set_cons_zero, List.set_cons_succ]
          refine wpTill_run (i := 30) (by kernel_rfl) rfl hb4 (fun K hK => ?_)
          go_simp
          refine hK _ _ ?_
          clear hK K
          refine wpTill_done (by kernel_rfl) ?_
          have HB4 := Lib.hid hb4
          have HP4 := Lib.hid (HP2.out.below hb4 HP2.out.lt)
          have HR4 := Lib.hid (HR2.out.below (B := 0) hb4)
          have HB5 := Lib.hid (HB2.out.trans (hb4.mono HB2.out.size))
          clear hs0 hs2 a3 hb4 HP2 HR2 HB2 HPd HRd
          go_wp2
          go_roundw
          case rel => exact ⟨k + 1, h', by omega, by omega, by go_num, HK2.out, HP4.out, HR4.out, HB5.out⟩
          case measure => simp [intOf]; omega
        · have i2 : ¬ (k : Int) < 600 := by omega
          go_wp2_with fail
          refine (awake_c wr ⟨tab_below HL.out.t HB.out HL.out.t.1, fac_below HL.out.f HB.out HL.out.f.1⟩).mono ?_
          rintro E w5 ⟨rfl, hb5⟩
          go_wp2
          go_ret
          exact ⟨rfl, HB.out.trans (hb5.mono HB.out.size)⟩
      · have i1 : ¬ (k : Int) < (l.length : Int) := by omega
        go_wp2_with fail
        refine (awake_c wr ⟨tab_below HL.out.t HB.out HL.out.t.1, fac_below HL.out.f HB.out HL.out.f.1⟩).mono ?_
        rintro E w5 ⟨rfl, hb5⟩
        go_wp2
        go_ret
        exact ⟨rfl, HB.out.trans (hb5.mono HB.out.size)⟩
  · have CM : Hid (∀ W, Calls Tryd.prog 14 #[.int .i64 most] W fun E w' => E = .returned (.bool false) ∧ W = w') := fun W => by
      have := may_c most W
      rwa [decide_eq_false hm] at this
    have CN := Lib.hid (newNil_c first most w hm)
    clear hm
    go_enter Tryd.func4, Tryd.ntmps4
    go_wp2_with fail
    refine CN.out.mono ?_
    rintro E w1 ⟨rfl, rfl⟩
    go_wp2_with fail
    refine (CM.out w).mono ?_
    rintro E w2 ⟨rfl, rfl⟩
    go_wp2_with fail
    refine (awake_c w HL.out).mono ?_
    rintro E w5 ⟨rfl, hb5⟩
    go_wp2
    go_ret
    exact ⟨rfl, hb5⟩
end Go.Proofs.YtgmbdadkahcpcaaDoor
