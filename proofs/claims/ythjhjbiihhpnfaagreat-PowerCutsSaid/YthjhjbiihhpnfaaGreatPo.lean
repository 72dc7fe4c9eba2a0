/- PowerGoes: the walk. -/
import Derived.Test.YthjhjbiihhpnfaaGreatPn
import Derived.LaidEqlPtr
namespace Go.Proofs.YthjhjbiihhpnfaaGreat
open Go.RowKit
set_option linter.unusedVariables false
set_option linter.unusedSimpArgs false
set_option maxRecDepth 100000

section
variable {P : Program} {md : Region.Mode} {ops : Array Oper} {Q : Exit → Act → World → Prop} {S : World → Prop}
theorem wpTill_weak {S' : World → Prop} (hs : ∀ w, S' w → S w) : ∀ (n : Nat) (listed : Array Bool) (a : Act) (w : World), wpTill P md ops Q S' n listed a w → wpTill P md ops Q S n listed a w
  | 0, _, _, _, h => h
  | n + 1, _, _, _, h => ⟨h.1, fun k => hs _ (h.2.1 k), fun i hi => wpOp_mono (fun a' w' k => wpTill_weak hs n _ a' w' k) (h.2.2 i hi)⟩
end
def ldAct3 (v : Value) : Sem Value := Instr.loadAt 37 v
theorem ld_act3 (v : Value) : Instr.loadAt 37 v = ldAct3 v := rfl
theorem act3_load {w : World} {b o : Nat} {a : Act3} (h : ∀ i v, (a.cs)[i]? = some v → w.cell? ⟨b, o + i, none⟩ = some v) : (ldAct3 (.pointer (some ⟨b, o, none⟩))).run Tryz.prog w = .ok (.agg a.cs) w := by
  have hl := run_loadCells_list (P := Tryz.prog) w ⟨b, o, none⟩ a.cs.toList (fun j v hv => by
    have hadd : (⟨b, o, none⟩ : Addr).add j = ⟨b, o + j, none⟩ := by unfold Addr.add; split <;> simp_all
    rw [hadd]
    exact h j v (by simpa using hv))
  have hlen : a.cs.toList.length = 3 := rfl
  rw [hlen] at hl
  have hu := Tryz.underlying37
  have hag : (isAgg 37).run Tryz.prog w = .ok true w := by unfold isAgg; rw [Sem.run_bind, run_underlying hu w]; simp
  have hi : (Tryz.prog.info? 37).map (·.size) = some 3 := by kernel_rfl
  obtain ⟨i, hi, hs⟩ := Option.map_eq_some_iff.1 hi
  simp [ldAct3, Instr.loadAt, Instr.sureAddr, loadVar, hag, sizeOf, typeInfo, hi, hs, hl]
theorem acs3_one {w : World} {ao : Option Addr} {l : List Act3} (h : Acs3 w ao l) {k : Nat} (hk : k < l.length) : ∃ b o, ao = some ⟨b, o, none⟩ ∧ (l[k]'hk).ok ∧
    (∀ W, Below w.heap.size w W → (ldAct3 (.pointer (some ⟨b, o + k * 3, none⟩))).run Tryz.prog W = .ok (.agg (l[k]'hk).cs) W) := by
  obtain ⟨b, o, e, hc, hok⟩ := h k hk
  refine ⟨b, o, e, hok, fun W hW => ?_⟩
  obtain ⟨b', o', e', hc', _⟩ := h.to hW k hk
  rw [e] at e'
  cases e'
  exact act3_load hc'
theorem after_n (p : Pw) (E : List Ent) : (p.after E).n ≤ p.n + 1 := by unfold Pw.after; split; exact Nat.le_succ _; split <;> exact Nat.le_refl _
theorem actP_n (a : Act3) (q : Nat) (p : Pw) : (actP a q p).n ≤ p.n + 1 := by
  unfold actP
  split
  · exact after_n _ _
  · split
    · unfold Pw.blow; split <;> exact Nat.le_succ _
    · exact Nat.le_succ _
theorem eql_disk (gd : Nat) (w : World) : (binOp .eql 26 (.pointer (some ⟨gd, 0, none⟩)) (.pointer (some ⟨gd, 0, none⟩))).run Tryz.prog w = .ok (.bool true) w := by
  have hi : (Tryz.prog.info? 49).isSome = true := by kernel_rfl
  obtain ⟨j, hj⟩ := Option.isSome_iff_exists.1 hi
  exact run_eql_ptr_same w _ Tryz.underlying26 hj
attribute [local go_sem ↓] ld_act3
set_option maxHeartbeats 8000000 in
theorem law_goes (fu : Int) (ko2 : Option Addr) (ks : List Int) (kc2 : Nat) (l : List Act3) (lo : Option Addr) (cap : Nat) (w : World) (hi : Ints w ko2 ks) (hkl : ks.length ≤ maxLen) (hki : ∀ a, ko2 = some a → ks ≠ [] → a.block < w.heap.size) (hA : Acs3 w lo l) (hl : l.length ≤ maxLen) :
    Calls Tryz.prog 3 #[.int .i64 fu, .slice ko2 ks.length kc2, .slice lo l.length cap] w fun E w' => E = .returned (.bool true) ∧ Below w.heap.size w w' := by
  have hnot : ∀ (x : Bool) (w : World), (Op.unary .not (.bool x)).run Tryz.prog w = .ok (.bool (!x)) w := fun _ _ => rfl
  have HI := Lib.hid hi
  have HKI := Lib.hid hki
  have HA := Lib.hid hA
  have HL := Lib.hid hl
  simp only [maxLen] at hkl
  clear hi hki hA hl
  go_enter Tryz.func3, Tryz.ntmps3
  go_wp2_with fail
  refine (few3_c w HA.out HL.out).mono ?_
  rintro R w1 ⟨rfl, rfl | ⟨rfl, h80⟩⟩
  · go_wp2_with fail
    refine (awake_c w).mono ?_
    rintro R w5 ⟨rfl, hb5⟩
    go_wp2
    go_ret
    exact ⟨rfl, hb5⟩
  by_cases hk20 : 20 < ks.length
  · go_wp2_with fail
    refine (awake_c w).mono ?_
    rintro R w5 ⟨rfl, hb5⟩
    go_wp2
    go_ret
    exact ⟨rfl, hb5⟩
  go_wp2_with fail
  refine (new_c 5000 w).mono ?_
  rintro R w1 ⟨hb1, ⟨_, _, v, rfl, hd1⟩ | ⟨hbad, _⟩⟩
  rotate_left
  · omega
  obtain ⟨gd, rfl⟩ := hd1.ptr1
  have hd1' : DkS (fun x => w.heap.size ≤ x) w1 (.pointer (some ⟨gd, 0, none⟩)) 5000 [] := hd1
  have D1 := Lib.hid hd1'
  have B1 := Lib.hid hb1
  clear hd1 hd1' hb1
  go_wp2_with fail
  refine (pnew_c fu ko2 ks kc2 w1 D1.out (HI.out.tu (S := fun _ => False) (.new B1.out) (fun _ _ h => h)) (by omega)).mono ?_
  rintro R w2 ⟨g, ko, kc, rfl, hg, hko, hp2, hb2⟩
  have P2 := Lib.hid hp2
  have B2 := Lib.hid (B1.out.trans (hb2.mono B1.out.size))
  have HGG := Lib.hid hg
  have HKO := Lib.hid hko
  have HS12 := Lib.hid hb2.size
  clear hg hko hp2 hb2
  go_wp2_with fail
  refine (rnew_c 5000 w2).mono ?_
  rintro R w3 ⟨hb3, ⟨_, _, v, rfl, hd3⟩ | ⟨hbad, _⟩⟩
  rotate_left
  · omega
  obtain ⟨gr, rfl⟩ := hd3.ptr
  have hd3' : RkS (fun x => w2.heap.size ≤ x) w3 (.pointer (some ⟨gr, 0, none⟩)) 5000 [] := hd3
  have O4 : Hid (BothE w (w3.alloc (.cells (qcs gr ko2 kc2 ⟨fu, ks, 0, false, []⟩) 34)) g gd w3.heap.size gr 5000 ko ko2 kc kc2 ⟨fu, ks, 0, false, []⟩) := by
    have ha := below_alloc w3 (.cells (qcs gr ko2 kc2 ⟨fu, ks, 0, false, []⟩) 34)
    have hb4 := (B2.out.trans (hb3.mono B2.out.size)).trans (ha.mono (Nat.le_trans B2.out.size hb3.size))
    have s1 := B1.out.size
    have s2 := HS12.out
    have s3 := hb3.size
    have sg := HGG.out
    have sgl := P2.out.lt
    have sa := ha.size
    refine ⟨fun x => w.heap.size ≤ x ∧ x < w1.heap.size, fun x => w2.heap.size ≤ x ∧ x < w3.heap.size, (P2.out.new hb3).new ha, ⟨Cells.made w3 _ _, HI.out.tu (S := fun _ => False) (.new hb4) (fun _ _ h => h), by show ks.length ≤ 20; omega, fun a e hn => ⟨⟨fun hx => ?_, ?_⟩, ?_⟩, fun hx => ?_, (hd3'.mono (fun x hx hs => ⟨hs, hx⟩)).new ha⟩, fun x hx hn => ?_, by omega, fun hx => ?_, fun hx => ?_, fun a e hn => ⟨?_, fun hx => ?_⟩, fun a e hn => ⟨?_, fun hx => ?_⟩, fun x hx => ?_, fun x hx => ?_, hb4⟩
    · have := HKI.out a e hn; have := hx.1; omega
    · have := HKI.out a e hn; omega
    · have := HKI.out a e hn; omega
    · have := hx.2; omega
    · have := hx.2; have := hn.1; omega
    · have := hx.1; omega
    · have := hx.2; omega
    · have := (P2.out.kf a e hn).2; omega
    · have := (P2.out.kf a e hn).2; have := hx.1; omega
    · have := HKI.out a e hn; omega
    · have := HKI.out a e hn; have := hx.1; omega
    · rcases hx with hx | hx
      · omega
      · exact hx.1
    · rcases hx with hx | hx
      · omega
      · have := hx.1; omega
  clear hd3 hd3' hb3 P2 B2 HGG HKO HS12 B1 D1
  have h80' := Lib.hid h80
  have hlm : l.length < 9223372036854775808 := by omega
  clear h80
  unfold qcs at O4
  go_upto_region 8 with fail
  generalize w3.heap.size = h at *
  generalize hw4 : w3.alloc _ = w4 at *
  clear hw4
  go_wp2
  go_loopw [10] (fun i wr => ∃ (k : Nat) (p : Pw), k ≤ l.length ∧ i = .int .i64 k ∧ p.n ≤ k ∧ Hid (BothE w wr g gd h gr 5000 ko ko2 kc kc2 p)) (fun i _ => l.length - (intOf i).toNat)
  case atStart => exact ⟨0, ⟨fu, ks, 0, false, []⟩, Nat.zero_le _, rfl, Nat.le_refl _, O4.out⟩
  case round =>
    clear O4
    obtain ⟨k, p, hk, rfl, hpn, O0⟩ := hrel
    have hbe : Below w.heap.size w wr := by obtain ⟨S1, S2, k⟩ := O0.out; exact k.be
    have hel : p.E.length ≤ 1000 := by obtain ⟨S1, S2, k⟩ := O0.out; have := k.d.dk.good.len; omega
    have hpl : p.n < 1000000 := by have := h80'.out; omega
    have HBE := Lib.hid hbe
    have HEL := Lib.hid hel
    have HPL := Lib.hid hpl
    clear hbe hel hpl
    by_cases hlt : k < l.length
    · have i2 : (k : Int) < (l.length : Int) := by omega
      have HLT := Lib.hid hlt
      obtain ⟨b, o, rfl, hok, L0'⟩ := acs3_one HA.out hlt
      have hAP := Lib.hid (actP_n (l[k]'hlt) 5000 p)
      generalize l[k]'hlt = a at *
      have HOK := Lib.hid hok
      have L0 := Lib.hid L0'
      clear hok L0'
      have la : ∀ W, Below w.heap.size w W → (ldAct3 (.pointer (some ⟨b, o + k * 3, none⟩))).run Tryz.prog W = .ok (.agg a.cs) W := L0.out
      go_upto_region 11 with fail
      have hs0 := HBE.out.drew
      have O1 : Hid (BothE w wr.drew g gd h gr 5000 ko ko2 kc kc2 p) := by obtain ⟨S1, S2, k⟩ := O0.out; exact ⟨S1, S2, k.new (Below.refl wr.heap.size wr).drew⟩
      clear O0 HBE
      generalize hwd : wr.drew = wd at *
      refine wp_region_till (S := fun w' => Below w.heap.size w w') (by kernel_rfl) ?_
      rw [hwd]
      clear hwd
      refine wpTill_take (i := 0) (v := ?va0) rfl (by kernel_rfl) (fun _ _ _ h => h) (Or.inl ⟨by rfl, ?hya0⟩) hs0 ?resta0
      case hya0 => (intro W hW; (try dsimp only at hW); go_simp; try with_reducible rfl)
      simp only [Act.put, List.setIfInBounds_toArray, List.set_cons_zero, List.set_cons_succ, List.getElem_toArray, List.getElem_cons_succ, List.getElem_cons_zero]
      refine wpTill_take (i := 1) (v := ?va1) rfl (by kernel_rfl) (fun _ _ _ h => h) (Or.inl ⟨by rfl, ?hya1⟩) hs0 ?resta1
      case hya1 => (intro W hW; (try dsimp only at hW); go_simp; try with_reducible rfl)
      simp only [Act.put, List.setIfInBounds_toArray, List.set_cons_zero, List.set_cons_succ, List.getElem_toArray, List.getElem_cons_succ, List.getElem_cons_zero]
      refine wpTill_take (i := 2) (v := ?va2) rfl (by kernel_rfl) (fun _ _ _ h => h) (Or.inl ⟨by rfl, ?hya2⟩) hs0 ?resta2
      case hya2 => (intro W hW; (try dsimp only at hW); go_simp; try with_reducible rfl)
      simp only [Act.put, List.setIfInBounds_toArray, List.set_cons_zero, List.set_cons_succ, List.getElem_toArray, List.getElem_cons_succ, List.getElem_cons_zero]
      refine wpTill_take (i := 3) (v := ?va3) rfl (by kernel_rfl) (fun _ _ _ h => h) (Or.inl ⟨by rfl, ?hya3⟩) hs0 ?resta3
      case hya3 => (intro W hW; (try dsimp only at hW); go_simp; try with_reducible rfl)
      simp only [Act.put, List.setIfInBounds_toArray, List.set_cons_zero, List.set_cons_succ, List.getElem_toArray, List.getElem_cons_succ, List.getElem_cons_zero]
      refine wpTill_take (i := 4) (v := ?va4) rfl (by kernel_rfl) (fun _ _ _ h => h) (Or.inl ⟨by rfl, ?hya4⟩) hs0 ?resta4
      case hya4 => (intro W hW; (try dsimp only at hW); go_simp; try with_reducible rfl)
      simp only [Act.put, List.setIfInBounds_toArray, List.set_cons_zero, List.set_cons_succ, List.getElem_toArray, List.getElem_cons_succ, List.getElem_cons_zero]
      refine wpTill_take (i := 5) (v := ?va5) rfl (by kernel_rfl) (fun _ _ _ h => h) (Or.inl ⟨by rfl, ?hya5⟩) hs0 ?resta5
      case hya5 => (intro W hW; (try dsimp only at hW); go_simp; try with_reducible rfl)
      simp only [Act.put, List.setIfInBounds_toArray, List.set_cons_zero, List.set_cons_succ, List.getElem_toArray, List.getElem_cons_succ, List.getElem_cons_zero]
      refine wpTill_run (i := 6) (by kernel_rfl) rfl hs0 (fun K' hK => ?_)
      go_simp
      go_at_call 10
      refine (one_c a w wd O1.out HOK.out HPL.out HEL.out).mono ?_
      rintro R w5 ⟨rfl, hq5⟩
      have O5 := Lib.hid hq5
      obtain ⟨p', hp'⟩ : ∃ p', actP a 5000 p = p' := ⟨_, rfl⟩
      have hAP' := hAP.out
      rw [hp'] at hq5 hAP'
      have HPN : Hid (p'.n ≤ k + 1) := Nat.le_trans hAP' (by omega)
      have O6 := Lib.hid hq5
      clear O5 O1 hp' hAP hAP' hq5 HOK L0 la
      obtain ⟨S1, S2, hb⟩ := O6.out
      have HB := Lib.hid hb
      clear hb O6
      obtain ⟨ro, rc, hrk⟩ := HB.out.r.rk.of
      have HRK := Lib.hid hrk
      clear hrk
      have l3 : ∀ W, Below w5.heap.size w5 W → W.cell? ⟨h, 3, none⟩ = some (.int .i64 (p'.n : Int)) := fun W hW => (HB.out.r.new hW).c3
      have l4 : ∀ W, Below w5.heap.size w5 W → W.cell? ⟨h, 4, none⟩ = some (.bool p'.off) := fun W hW => (HB.out.r.new hW).c4
      have l0 : ∀ W, Below w5.heap.size w5 W → W.cell? ⟨h, 0, none⟩ = some (.pointer (some ⟨gr, 0, none⟩)) := fun W hW => (HB.out.r.new hW).c0
      have hs1 : Below w5.heap.size w5 w5 := Below.refl _ _
      refine hK _ _ ?_
      clear hK K' hs0
      refine wpTill_weak (S' := fun W => Below w5.heap.size w5 W) (fun W hW => HB.out.be.trans (hW.mono HB.out.be.size)) _ _ _ _ ?_
      refine wpTill_take (i := 7) (v := ?vb7) rfl (by kernel_rfl) (fun _ _ _ h => h) (Or.inl ⟨by rfl, ?hyb7⟩) hs1 ?restb7
      case hyb7 => (intro W hW; (try dsimp only at hW); go_simp; try with_reducible rfl)
      simp only [Act.put, List.setIfInBounds_toArray, List.set_cons_zero, List.set_cons_succ, List.getElem_toArray, List.getElem_cons_succ, List.getElem_cons_zero]
      refine wpTill_take (i := 8) (v := ?vb8) rfl (by kernel_rfl) (fun _ _ _ h => h) (Or.inl ⟨by rfl, ?hyb8⟩) hs1 ?restb8
      case hyb8 => (intro W hW; (try dsimp only at hW); go_simp; try with_reducible rfl)
      simp only [Act.put, List.setIfInBounds_toArray, List.set_cons_zero, List.set_cons_succ, List.getElem_toArray, List.getElem_cons_succ, List.getElem_cons_zero]
      refine wpTill_take (i := 9) (v := ?vb9) rfl (by kernel_rfl) (fun _ _ _ h => h) (Or.inl ⟨by rfl, ?hyb9⟩) hs1 ?restb9
      case hyb9 => (intro W hW; (try dsimp only at hW); go_simp; try with_reducible rfl)
      simp only [Act.put, List.setIfInBounds_toArray, List.set_cons_zero, List.set_cons_succ, List.getElem_toArray, List.getElem_cons_succ, List.getElem_cons_zero]
      refine wpTill_take (i := 11) (v := ?vb11) rfl (by kernel_rfl) (fun _ _ _ h => h) (Or.inl ⟨by rfl, ?hyb11⟩) hs1 ?restb11
      case hyb11 => (intro W hW; (try dsimp only at hW); go_simp; try with_reducible rfl)
      simp only [Act.put, List.setIfInBounds_toArray, List.set_cons_zero, List.set_cons_succ, List.getElem_toArray, List.getElem_cons_succ, List.getElem_cons_zero]
      refine wpTill_take (i := 12) (v := ?vb12) rfl (by kernel_rfl) (fun _ _ _ h => h) (Or.inl ⟨by rfl, ?hyb12⟩) hs1 ?restb12
      case hyb12 => (intro W hW; (try dsimp only at hW); go_simp; try with_reducible rfl)
      simp only [Act.put, List.setIfInBounds_toArray, List.set_cons_zero, List.set_cons_succ, List.getElem_toArray, List.getElem_cons_succ, List.getElem_cons_zero]
      refine wpTill_take (i := 13) (v := ?vb13) rfl (by kernel_rfl) (fun _ _ _ h => h) (Or.inl ⟨by rfl, ?hyb13⟩) hs1 ?restb13
      case hyb13 => (intro W hW; (try dsimp only at hW); go_simp; try with_reducible rfl)
      simp only [Act.put, List.setIfInBounds_toArray, List.set_cons_zero, List.set_cons_succ, List.getElem_toArray, List.getElem_cons_succ, List.getElem_cons_zero]
      refine wpTill_take (i := 14) (v := ?vb14) rfl (by kernel_rfl) (fun _ _ _ h => h) (Or.inl ⟨by rfl, ?hyb14⟩) hs1 ?restb14
      case hyb14 => (intro W hW; (try dsimp only at hW); go_simp; try with_reducible rfl)
      simp only [Act.put, List.setIfInBounds_toArray, List.set_cons_zero, List.set_cons_succ, List.getElem_toArray, List.getElem_cons_succ, List.getElem_cons_zero]
      refine wpTill_run (i := 10) (by kernel_rfl) rfl hs1 (fun K' hK => ?_)
      go_simp
      go_at_call 11
      refine (pwrites_c w5 HB.out.d).mono ?_
      rintro R w6 ⟨rfl, rfl⟩
      refine hK _ _ ?_
      clear hK K'
      refine wpTill_take (i := 15) (v := ?vc15) rfl (by kernel_rfl) (fun _ _ _ h => h) (Or.inl ⟨by rfl, ?hyc15⟩) hs1 ?restc15
      case hyc15 => (intro W hW; (try dsimp only at hW); go_simp; try with_reducible rfl)
      simp only [Act.put, List.setIfInBounds_toArray, List.set_cons_zero, List.set_cons_succ, List.getElem_toArray, List.getElem_cons_succ, List.getElem_cons_zero]
      refine wpTill_take (i := 16) (v := ?vc16) rfl (by kernel_rfl) (fun _ _ _ h => h) (Or.inl ⟨by rfl, ?hyc16⟩) hs1 ?restc16
      case hyc16 => (intro W hW; (try dsimp only at hW); go_simp; try with_reducible rfl)
      simp only [Act.put, List.setIfInBounds_toArray, List.set_cons_zero, List.set_cons_succ, List.getElem_toArray, List.getElem_cons_succ, List.getElem_cons_zero]
      refine wpTill_take (i := 17) (v := ?vc17) rfl (by kernel_rfl) (fun _ _ _ h => h) (Or.inl ⟨by rfl, ?hyc17⟩) hs1 ?restc17
      case hyc17 => (intro W hW; (try dsimp only at hW); go_simp; try with_reducible rfl)
      simp only [Act.put, List.setIfInBounds_toArray, List.set_cons_zero, List.set_cons_succ, List.getElem_toArray, List.getElem_cons_succ, List.getElem_cons_zero]
      refine wpTill_take (i := 18) (v := ?vc18) rfl (by kernel_rfl) (fun _ _ _ h => h) (Or.inl ⟨by rfl, ?hyc18⟩) hs1 ?restc18
      case hyc18 => (intro W hW; (try dsimp only at hW); go_simp; try with_reducible rfl)
      simp only [Act.put, List.setIfInBounds_toArray, List.set_cons_zero, List.set_cons_succ, List.getElem_toArray, List.getElem_cons_succ, List.getElem_cons_zero]
      refine wpTill_take (i := 20) (v := ?vc20) rfl (by kernel_rfl) (fun _ _ _ h => h) (Or.inl ⟨by rfl, ?hyc20⟩) hs1 ?restc20
      case hyc20 => (intro W hW; (try dsimp only at hW); go_simp; try with_reducible rfl)
      simp only [Act.put, List.setIfInBounds_toArray, List.set_cons_zero, List.set_cons_succ, List.getElem_toArray, List.getElem_cons_succ, List.getElem_cons_zero]
      refine wpTill_take (i := 21) (v := ?vc21) rfl (by kernel_rfl) (fun _ _ _ h => h) (Or.inl ⟨by rfl, ?hyc21⟩) hs1 ?restc21
      case hyc21 => (intro W hW; (try dsimp only at hW); go_simp; try with_reducible rfl)
      simp only [Act.put, List.setIfInBounds_toArray, List.set_cons_zero, List.set_cons_succ, List.getElem_toArray, List.getElem_cons_succ, List.getElem_cons_zero]
      refine wpTill_take (i := 22) (v := ?vc22) rfl (by kernel_rfl) (fun _ _ _ h => h) (Or.inl ⟨by rfl, ?hyc22⟩) hs1 ?restc22
      case hyc22 => (intro W hW; (try dsimp only at hW); go_simp; try with_reducible rfl)
      simp only [Act.put, List.setIfInBounds_toArray, List.set_cons_zero, List.set_cons_succ, List.getElem_toArray, List.getElem_cons_succ, List.getElem_cons_zero]
      refine wpTill_take (i := 23) (v := ?vc23) rfl (by kernel_rfl) (fun _ _ _ h => h) (Or.inl ⟨by rfl, ?hyc23⟩) hs1 ?restc23
      case hyc23 => (intro W hW; (try dsimp only at hW); go_simp; try with_reducible rfl)
      simp only [Act.put, List.setIfInBounds_toArray, List.set_cons_zero, List.set_cons_succ, List.getElem_toArray, List.getElem_cons_succ, List.getElem_cons_zero]
      refine wpTill_run (i := 19) (by kernel_rfl) rfl hs1 (fun K' hK => ?_)
      go_simp
      go_at_call 12
      refine (pdown_c w5 HB.out.d).mono ?_
      rintro R w6 ⟨rfl, rfl⟩
      refine hK _ _ ?_
      clear hK K'
      refine wpTill_take (i := 24) (v := ?vd24) rfl (by kernel_rfl) (fun _ _ _ h => h) (Or.inl ⟨by rfl, ?hyd24⟩) hs1 ?restd24
      case hyd24 => (intro W hW; (try dsimp only at hW); go_simp; try with_reducible rfl)
      simp only [Act.put, List.setIfInBounds_toArray, List.set_cons_zero, List.set_cons_succ, List.getElem_toArray, List.getElem_cons_succ, List.getElem_cons_zero]
      refine wpTill_take (i := 25) (v := ?vd25) rfl (by kernel_rfl) (fun _ _ _ h => h) (Or.inl ⟨by rfl, ?hyd25⟩) hs1 ?restd25
      case hyd25 => (intro W hW; (try dsimp only at hW); go_simp; try with_reducible rfl)
      simp only [Act.put, List.setIfInBounds_toArray, List.set_cons_zero, List.set_cons_succ, List.getElem_toArray, List.getElem_cons_succ, List.getElem_cons_zero]
      refine wpTill_take (i := 26) (v := ?vd26) rfl (by kernel_rfl) (fun _ _ _ h => h) (Or.inl ⟨by rfl, ?hyd26⟩) hs1 ?restd26
      case hyd26 => (intro W hW; (try dsimp only at hW); go_simp; try with_reducible rfl)
      simp only [Act.put, List.setIfInBounds_toArray, List.set_cons_zero, List.set_cons_succ, List.getElem_toArray, List.getElem_cons_succ, List.getElem_cons_zero]
      refine wpTill_take (i := 27) (v := ?vd27) rfl (by kernel_rfl) (fun _ _ _ h => h) (Or.inl ⟨by rfl, ?hyd27⟩) hs1 ?restd27
      case hyd27 => (intro W hW; (try dsimp only at hW); go_simp; try with_reducible rfl)
      simp only [Act.put, List.setIfInBounds_toArray, List.set_cons_zero, List.set_cons_succ, List.getElem_toArray, List.getElem_cons_succ, List.getElem_cons_zero]
      refine wpTill_take (i := 28) (v := ?vd28) rfl (by kernel_rfl) (fun _ _ _ h => h) (Or.inl ⟨by rfl, ?hyd28⟩) hs1 ?restd28
      case hyd28 => (intro W hW; (try dsimp only at hW); go_simp; try with_reducible rfl)
      simp only [Act.put, List.setIfInBounds_toArray, List.set_cons_zero, List.set_cons_succ, List.getElem_toArray, List.getElem_cons_succ, List.getElem_cons_zero]
      refine wpTill_take (i := 29) (v := ?vd29) rfl (by kernel_rfl) (fun _ _ _ h => h) (Or.inl ⟨by rfl, ?hyd29⟩) hs1 ?restd29
      case hyd29 => (intro W hW; (try dsimp only at hW); go_simp; try with_reducible rfl)
      simp only [Act.put, List.setIfInBounds_toArray, List.set_cons_zero, List.set_cons_succ, List.getElem_toArray, List.getElem_cons_succ, List.getElem_cons_zero]
      refine wpTill_take (i := 30) (v := ?vd30) rfl (by kernel_rfl) (fun _ _ _ h => h) (Or.inl ⟨by rfl, ?hyd30⟩) hs1 ?restd30
      case hyd30 => (intro W hW; (try dsimp only at hW); go_simp; try with_reducible rfl)
      simp only [Act.put, List.setIfInBounds_toArray, List.set_cons_zero, List.set_cons_succ, List.getElem_toArray, List.getElem_cons_succ, List.getElem_cons_zero]
      refine wpTill_take (i := 31) (v := ?vd31) rfl (by kernel_rfl) (fun _ _ _ h => h) (Or.inl ⟨by rfl, ?hyd31⟩) hs1 ?restd31
      case hyd31 => (intro W hW; (try dsimp only at hW); go_simp; try with_reducible rfl)
      simp only [Act.put, List.setIfInBounds_toArray, List.set_cons_zero, List.set_cons_succ, List.getElem_toArray, List.getElem_cons_succ, List.getElem_cons_zero]
      refine wpTill_run (i := 32) (by kernel_rfl) rfl hs1 (fun K' hK => ?_)
      go_simp
      go_at_call 13
      refine (alike3_c w5 HB.out.d.dk HRK.out).mono ?_
      rintro R w6 ⟨rfl, hb6⟩
      have hs2 : Below w5.heap.size w5 w6 := hb6
      refine hK _ _ ?_
      clear hK K' hs1
      refine wpTill_take (i := 33) (v := ?ve33) rfl (by kernel_rfl) (fun _ _ _ h => h) (Or.inl ⟨by rfl, ?hye33⟩) hs2 ?reste33
      case hye33 => (intro W hW; (try dsimp only at hW); go_simp; try with_reducible rfl)
      simp only [Act.put, List.setIfInBounds_toArray, List.set_cons_zero, List.set_cons_succ, List.getElem_toArray, List.getElem_cons_succ, List.getElem_cons_zero]
      refine wpTill_run (i := 34) (by kernel_rfl) rfl hs2 (fun K' hK => ?_)
      go_simp
      refine hK _ _ ?_
      clear hK K'
      refine wpTill_done (by kernel_rfl) ?_
      have O7 : Hid (BothE w w6 g gd h gr 5000 ko ko2 kc kc2 p') := ⟨S1, S2, HB.out.new hs2⟩
      clear hs2 hb6 l3 l4 l0 HRK HB
      go_wp2
      go_round
      case rel => exact ⟨k + 1, p', HLT.out, by go_num, HPN.out, O7.out⟩
      case measure => have h9 := HLT.out; simp [intOf]; omega
    · have hx : k = l.length := by omega
      have HX := Lib.hid hx
      have i2 : ¬ (k : Int) < (l.length : Int) := by omega
      clear hx
      go_wp2_with fail
      obtain ⟨S1, S2, hb⟩ := O0.out
      have HB := Lib.hid hb
      clear hb
      refine (pdisk_c wr HB.out.d).mono ?_
      rintro R w6 ⟨rfl, rfl⟩
      have hpp := eql_disk gd
      go_wp2_with fail
      refine (awake_c wr).mono ?_
      rintro R w5 ⟨rfl, hb5⟩
      go_wp2
      go_ret
      exact ⟨rfl, HB.out.be.trans (hb5.mono HB.out.be.size)⟩
end Go.Proofs.YthjhjbiihhpnfaaGreat
