/- FoldHolds: the walk. Nothing is assumed beyond the bounds of the row's own types. -/
import Derived.Test.YtgmbdadkahcpcaaDoorWp
namespace Go.Proofs.YtgmbdadkahcpcaaDoor
open Go.RowKit
set_option linter.unusedVariables false
set_option linter.unusedSimpArgs false
set_option maxRecDepth 20000
/-- The pairs that may be. -/
def legL (l : List (Nat × Nat)) : List (Nat × Nat) := l.filter fun p => decide (p.1 < 64) && decide (p.2 < 64)
theorem legL_next (l : List (Nat × Nat)) (k : Nat) (hk : k < l.length) {i j : Nat} (h : l[k]'hk = (i, j)) : legL (l.take (k + 1)) = legL (l.take k) ++ if i < 64 ∧ j < 64 then [(i, j)] else [] := by
  rw [List.take_succ_eq_append_getElem hk, h]
  unfold legL
  rw [List.filter_append]
  congr 1
  by_cases h1 : i < 64 <;> by_cases h2 : j < 64 <;> simp [h1, h2]
theorem legL_le (l : List (Nat × Nat)) : (legL l).length ≤ l.length := List.length_filter_le ..
/-- The history holds the last of these pairs. -/
structure HI (F M : Nat) (A : List (Nat × Nat)) (h : Hm) : Prop where
  ok : h.ok
  m : h.m = M
  lo : F ≤ h.f
  hi : h.f ≤ F + A.length
  l : h.l = A.drop (h.f - F)
theorem HI.cnt {F M : Nat} {A : List (Nat × Nat)} {h : Hm} (k : HI F M A h) : h.cnt = F + A.length := by
  have := k.lo; have := k.hi
  unfold Hm.cnt; rw [k.l, List.length_drop]; omega
theorem HI.len {F M : Nat} {A : List (Nat × Nat)} {h : Hm} (k : HI F M A h) : h.l.length = F + A.length - h.f := by
  have := k.cnt; unfold Hm.cnt at this; omega
theorem HI.add {F M : Nat} {A : List (Nat × Nat)} {h : Hm} (k : HI F M A h) {p q : Nat} (hp : p < 256) (hq : q < 256) (hc : h.code (p, q) = 0) : HI F M (A ++ [(p, q)]) (h.add (p, q)) := by
  have h1 := k.lo
  have h2 := k.hi
  refine ⟨k.ok.add ⟨hp, hq⟩, ?_, ?_, ?_, ?_⟩
  · rw [add_ok hc]; exact k.m
  · rw [add_ok hc]; exact h1
  · rw [add_ok hc, show (A ++ [(p, q)]).length = A.length + 1 by simp]; show h.f ≤ F + (A.length + 1); omega
  · rw [add_ok hc]
    show h.l ++ [(p, q)] = _
    rw [List.drop_append_of_le_length (show h.f - F ≤ A.length by omega), ← k.l]
theorem HI.next {F M : Nat} {A : List (Nat × Nat)} {h : Hm} (k : HI F M A h) (hl : 1 ≤ h.l.length) : HI F M A (h.drop (h.f + 1)) := by
  have h1 := k.lo
  have h2 := k.hi
  have h3 := k.len
  have e : (h.drop (h.f + 1)).f = h.f + 1 := by simp only [Hm.drop]; omega
  refine ⟨k.ok.drop _, k.m, by omega, by omega, ?_⟩
  rw [e]
  simp only [Hm.drop]
  rw [k.l, List.drop_drop]
  congr 1
  omega
theorem HI.full {F M : Nat} {A : List (Nat × Nat)} {h : Hm} (k : HI F M A h) (hF : F ≤ 9223372036854775808) (hA : A.length ≤ 600) {p q : Nat} (hp : p < 64) (hq : q < 64) (hl : h.l.length = h.m) : h.code (p, q) = 7 := code_full (by omega) (.inl hl)
theorem HI.free {F M : Nat} {A : List (Nat × Nat)} {h : Hm} (k : HI F M A h) (hF : F ≤ 9223372036854775808) (hA : A.length ≤ 600) {p q : Nat} (hp : p < 64) (hq : q < 64) (hl : h.l.length ≠ h.m) : h.code (p, q) = 0 := code_ok (by omega) (by have := k.cnt; omega)
theorem HI.told {F M : Nat} {A : List (Nat × Nat)} {h : Hm} (k : HI F M A h) {i : Nat} (hi : i < A.length) (hf : h.f ≤ F + i) : h.at_ (F + i) = A[i]'hi := by
  have h1 := k.lo
  have h3 := k.len
  obtain ⟨hk, e⟩ := Hm.at_get (h := h) (x := F + i) hf (by rw [k.cnt]; omega)
  have e2 : h.at_ (F + i) = (A.drop (h.f - F))[F + i - h.f]'(by rw [← k.l]; exact hk) := by
    rw [e]
    congr 1
    exact k.l
  rw [e2, List.getElem_drop]
  congr 1
  omega
theorem HI.has {F M : Nat} {A : List (Nat × Nat)} {h : Hm} (k : HI F M A h) {i : Nat} (hi : i < A.length) : h.has (F + i) = decide (h.f ≤ F + i) := by
  have := k.cnt
  unfold Hm.has
  rw [Bool.eq_iff_iff]
  simp only [decide_eq_true_eq]
  omega
attribute [local go_sem ↓] ld_pair ld_input st_pair pair_neq
set_option maxHeartbeats 4000000 in
theorem law_holds (first : Nat) (l : List (Nat × Nat)) (lo : Option Addr) (cap size : Nat) (w : World) (hf : first < 18446744073709551616) (hP : Pis w lo l) (hl : l.length ≤ maxLen) (hz : size < 256) (hL : Laid w) :
    Calls Tryd.prog 7 #[.int .u64 (first : Int), .slice lo l.length cap, .int .u8 (size : Int)] w fun E w' => E = .returned (.bool true) ∧ Below w.heap.size w w' := by
  have HP := Lib.hid hP
  have HL := Lib.hid hL
  obtain ⟨F, hFm⟩ : ∃ F, min first 9223372036854775808 = F := ⟨_, rfl⟩
  obtain ⟨M, hM⟩ : ∃ M, 1 + size = M := ⟨_, rfl⟩
  have hF9 : F ≤ 9223372036854775808 := by omega
  have hM1 : 1 ≤ M := by omega
  have hM2 : M ≤ 256 := by omega
  have HFM := Lib.hid (show F ≤ 9223372036854775808 ∧ 1 ≤ M ∧ M ≤ 256 from ⟨hF9, hM1, hM2⟩)
  have CN := Lib.hid (pnew_c F (M : Int) w (by omega))
  rw [Int.toNat_natCast] at CN
  have HI0 : Hid (HI F M [] ⟨F, M, []⟩) := ⟨⟨hM1, hM2, by simp, by simp [Hm.cnt]; omega, by simp⟩, rfl, Nat.le_refl _, Nat.le_refl _, by simp⟩
  have eF : min (first : Int) 9223372036854775808 = (F : Int) := by omega
  have wf : IntKind.u64.wrap (first : Int) = first := u64_id _ (by omega) (by omega)
  have hMi : 1 + (size : Int) = (M : Int) := by omega
  have hzi : (size : Int) < 256 := by omega
  have wM : IntKind.u64.wrap (M : Int) = M := u64_id _ (by omega) (by omega)
  have eM : IntKind.i64.wrap (1 + (size : Int)) = (M : Int) := by rw [hMi]; exact IntWalk.i64_in _ ⟨by omega, by omega⟩
  have eM2 : wrap64 (1 + (size : Int)) = (M : Int) := by rw [← IntWalk.i64_left]; exact eM
  have wz : IntKind.i64.wrap (size : Int) = size := IntWalk.i64_in _ ⟨Int.le_trans (by decide) (Int.natCast_nonneg size), Int.le_trans (Int.le_of_lt hzi) (by decide)⟩
  have wz2 : wrap64 (size : Int) = size := by rw [← IntWalk.i64_left]; exact wz
  clear hF9 hM1 hM2 hMi hzi
  clear hP hL hf hz hFm hM
  go_enter Tryd.func7, Tryd.ntmps7
  go_wp2_with fail
  refine CN.out.mono ?_
  rintro E w1 ⟨g, rfl, hg, hglt, hP1, hb1⟩
  have HG := Lib.hid (show w.heap.size ≤ g by omega)
  have HP1 := Lib.hid hP1
  have HB1 := Lib.hid hb1
  have HGL := Lib.hid hglt
  clear hg hglt hP1 hb1 CN eF wf eM eM2 wz wz2
  by_cases hc : 600 < l.length
  · have i1 : (600 : Int) < (l.length : Int) := by omega
    go_wp2_with fail
    refine (awake_c w1 ⟨tab_below HL.out.t HB1.out HL.out.t.1, fac_below HL.out.f HB1.out HL.out.f.1⟩).mono ?_
    rintro E w5 ⟨rfl, hb5⟩
    go_wp2
    go_ret
    exact ⟨rfl, HB1.out.trans (hb5.mono HB1.out.size)⟩
  have i1 : ¬ (600 : Int) < (l.length : Int) := by omega
  have HLL := Lib.hid (show l.length ≤ 600 by omega)
  clear hc hl
  go_wp2_with fail
  refine (pfrom_c HP1.out).mono ?_
  rintro E w2 ⟨rfl, rfl⟩
  have hl6 : l.length ≤ 600 := HLL.out
  go_wp2
  go_loopw [11, 10] (fun v a wr => ∃ (k n cap' : Nat) (ao : Option Addr) (h : Hm), k ≤ l.length ∧ v = .int .i64 k ∧ a = .slice ao n cap' ∧ Hid (n = (legL (l.take k)).length) ∧ Hid (HI F M (legL (l.take k)) h) ∧ Hid (PH wr g h) ∧ Hid (Prr w.heap.size wr [g] ao n cap' (legL (l.take k))) ∧ Hid (Below w.heap.size w wr)) (fun v _ _ => l.length - (intOf v).toNat)
  case atStart => exact ⟨0, 0, 0, none, ⟨F, M, []⟩, by omega, rfl, rfl, rfl, HI0.out, HP1.out, Prr.none _ _ _ (fun b hb => by simp only [List.mem_singleton] at hb; subst hb; exact HGL.out), HB1.out⟩
  case round =>
    clear HP1 HB1 HGL HI0
    obtain ⟨k, n, cap', ao, h, hk, rfl, rfl, HNE, HH, HPH, HR, HB⟩ := hrel
    by_cases hlt : k < l.length
    · have i2 : (k : Int) < (l.length : Int) := by omega
      obtain ⟨b0, o0, p, q, rfl, hp, hq, hx⟩ := HP.out.at k hlt
      obtain ⟨_, _, b1, o1, e1, x0, x1⟩ := HP.out k hlt
      obtain ⟨rfl, rfl⟩ : b0 = b1 ∧ o0 = o1 := by cases e1; exact ⟨rfl, rfl⟩
      rw [hx] at x0 x1
      have L0 : Hid (∀ W, Below w.heap.size w W → (ldT 45 (.pointer (some ⟨b0, o0 + k * 2, none⟩))).run Tryd.prog W = .ok (.int .u8 (p : Int)) W) := fun W hW => run_ldCell ty_input ((hW.cell (p := ⟨b0, o0 + k * 2, none⟩) (World.block_lt_of_cell? w _ x0)).trans x0)
      have L1 : Hid (∀ W, Below w.heap.size w W → (ldT 45 (.pointer (some ⟨b0, o0 + k * 2 + 1, none⟩))).run Tryd.prog W = .ok (.int .u8 (q : Int)) W) := fun W hW => run_ldCell ty_input ((hW.cell (p := ⟨b0, o0 + k * 2 + 1, none⟩) (World.block_lt_of_cell? w _ x1)).trans x1)
      have LP : Hid (∀ W, Below w.heap.size w W → (ldT 47 (.pointer (some ⟨b0, o0 + k * 2, none⟩))).run Tryd.prog W = .ok (.agg #[.int .u8 (p : Int), .int .u8 (q : Int)]) W) := fun W hW => pis_ld HP.out hW k hlt hx
      have HX := Lib.hid (legL_next l k hlt hx)
      have HA6 : Hid ((legL (l.take k)).length ≤ 600) := Nat.le_trans (legL_le _) (by rw [List.length_take]; omega)
      have HPQ := Lib.hid (show p < 256 ∧ q < 256 from ⟨hp, hq⟩)
      clear x0 x1 hx e1 hp hq
      generalize legL (l.take k) = A at *
      have l0 := L0.out wr HB.out
      have l1 := L1.out wr HB.out
      by_cases hp : p < 64
      · have j1 : ¬ (63 : Int) < (p : Int) := by omega
        by_cases hq : q < 64
        · have j2 : ¬ (63 : Int) < (q : Int) := by omega
          rw [if_pos ⟨hp, hq⟩] at HX
          have HPQ6 := Lib.hid (show p < 64 ∧ q < 64 from ⟨hp, hq⟩)
          clear hp hq
          go_upto_region 11 with fail
          clear l0 l1 j1 j2 L0 L1
          have lp := LP.out wr HB.out
          by_cases hful : h.l.length = h.m
          · have C1 := Lib.hid (padd_at HPH.out HH.out.ok p q HPQ.out.1 HPQ.out.2 (HH.out.full HFM.out.1 HA6.out HPQ6.out.1 HPQ6.out.2 hful) (add_no (by rw [HH.out.full HFM.out.1 HA6.out HPQ6.out.1 HPQ6.out.2 hful]; decide)))
            have HN2 := Lib.hid (HH.out.next (by have := HH.out.ok.m1; omega))
            have hcn := HH.out.ok.cnt
            obtain ⟨x, hxx⟩ : ∃ x, h.f + 1 = x := ⟨_, rfl⟩
            have ex : IntKind.u64.wrap ((h.f : Int) + 1) = (x : Int) := by rw [← hxx]; exact u64_id _ (by omega) (by have := HH.out.cnt; have := HH.out.hi; have := HA6.out; have := HFM.out; omega)
            have hx64 : x < 18446744073709551616 := by have := HH.out.cnt; have := HH.out.hi; have := HA6.out; have := HFM.out; omega
            have HX64 := Lib.hid hx64
            rw [hxx] at HN2
            have hle2 : (h.drop x).l.length ≠ (h.drop x).m := by rw [← hxx]; simp only [Hm.drop, List.length_drop]; have := HH.out.ok.m1; omega
            have HC0 := Lib.hid (HN2.out.free HFM.out.1 HA6.out HPQ6.out.1 HPQ6.out.2 hle2)
            clear hful hcn hxx hx64 hle2
            go_wp2_with fail
            refine C1.out.mono ?_
            rintro E w3 ⟨rfl, hP3, hg3⟩
            clear lp C1
            have HP3 := Lib.hid hP3
            have HB3 := Lib.hid (below_row_at HB.out hg3 HG.out HB.out.size)
            have HR3 := Lib.hid (HR.out.turn (by simp) hg3)
            clear hP3 hg3 HPH HB HR
            go_wp2_with fail
            refine (pfrom_c HP3.out).mono ?_
            rintro E w4 ⟨rfl, rfl⟩
            go_wp2_with fail
            refine (pdrop_c HP3.out HH.out.ok x HX64.out).mono ?_
            rintro E w4 ⟨rfl, hP4, hg4⟩
            have HP4 := Lib.hid hP4
            have HB4 := Lib.hid (below_row_at HB3.out hg4 HG.out HB3.out.size)
            have HR4 := Lib.hid (HR3.out.turn (by simp) hg4)
            clear hP4 hg4 HP3 HB3 HR3 ex HH
            have lp := LP.out w4 HB4.out
            generalize h.drop x = h2 at *
            have C2 := Lib.hid (padd_at HP4.out HN2.out.ok p q HPQ.out.1 HPQ.out.2 HC0.out rfl)
            have HH5 := Lib.hid (HN2.out.add HPQ.out.1 HPQ.out.2 HC0.out)
            generalize h2.add (p, q) = h3 at *
            go_wp2_with fail
            refine C2.out.mono ?_
            rintro E w5 ⟨rfl, hP5, hg5⟩
            have HP5 := Lib.hid hP5
            have HB5 := Lib.hid (below_row_at HB4.out hg5 HG.out HB4.out.size)
            have HR5 := Lib.hid (HR4.out.turn (by simp) hg5)
            clear hP5 hg5 C2 lp HB4 HR4 HP4
            have lp := LP.out w5 HB5.out
            obtain ⟨R, hR1, hR2, hR3⟩ := HP5.out
            have HL5 := Lib.hid (((Loc.nil (Nat.le_refl _)).to HB5.out).join hR2 HG.out (fun e he => by cases he))
            have HR1 := Lib.hid hR1
            have HR3 := Lib.hid hR3
            clear hR1 hR2 hR3
            have hn6 : n ≤ 600 := by rw [HNE.out]; exact HA6.out
            go_upto_region 16 with (at_builtin; refine wpList_append_pi rfl _ _ rfl (by simp [Act.eval]) (p, q) _ rfl (by simp [Act.eval]) HR5.out HL5.out (by simp) (by omega) ?_; intro r6 cap6 w6 hR6 hL6; have HR6 := Lib.hid hR6; have HL6 := Lib.hid hL6; clear hR6 hL6)
            clear lp
            have HP6 : Hid (PH w6 g h3) := ⟨R, HR1.out, HL6.out.get 0 rfl, HR3.out⟩
            clear HP5 HL5 HR5 HB5
            have hA1 : (A ++ [(p, q)]).length = n + 1 := by rw [List.length_append, HNE.out]; rfl
            have HA1 := Lib.hid hA1
            have hcc := HH5.out.cnt
            have hff := HH5.out.lo
            have hfi := HH5.out.hi
            have hll := HH5.out.ok.len
            have hlh := HH5.out.len
            have hmm := HH5.out.m
            have hFF := HFM.out.1
            rw [hA1] at hcc hfi hlh
            have e3 : IntKind.u64.wrap ((F : Int) + ((n + 1 : Nat) : Int)) = (h3.cnt : Int) := by rw [show (F : Int) + ((n + 1 : Nat) : Int) = (h3.cnt : Int) by omega]; exact u64_id _ (by omega) (by omega)
            have e4 : IntKind.u64.wrap ((n + 1 : Nat) : Int) = ((n + 1 : Nat) : Int) := u64_id _ (by omega) (by omega)
            obtain ⟨d, hd⟩ : ∃ d, h3.cnt - h3.f = d := ⟨_, rfl⟩
            have e5 : IntKind.u64.wrap ((h3.cnt : Int) - (h3.f : Int)) = (d : Int) := by rw [show (h3.cnt : Int) - (h3.f : Int) = (d : Int) by omega]; exact u64_id _ (by omega) (by omega)
            have j5 : ¬ (M : Int) < (d : Int) := by omega
            clear hA1 hcc hff hfi hll hlh hmm hFF hd
            obtain ⟨n1, hn1⟩ : ∃ n1, n + 1 = n1 := ⟨_, rfl⟩
            rw [hn1] at e3 e4 HA1 HR6 ⊢
            have CC := Lib.hid (pcount_c HP6.out)
            have CF := Lib.hid (pfrom_c HP6.out)
            obtain ⟨c3, hc3⟩ : ∃ c3, h3.cnt = c3 := ⟨_, rfl⟩
            obtain ⟨f3, hf3⟩ : ∃ f3, h3.f = f3 := ⟨_, rfl⟩
            rw [hc3] at CC e3 e5
            rw [hf3] at CF e5
            clear hc3 hf3 hn1
            go_wp2_with fail
            refine CC.out.mono ?_
            rintro E w7 ⟨rfl, rfl⟩
            go_wp2_with fail
            refine CC.out.mono ?_
            rintro E w7 ⟨rfl, rfl⟩
            go_wp2_with fail
            refine CF.out.mono ?_
            rintro E w7 ⟨rfl, rfl⟩
            go_wp2
            go_roundw
            case rel => exact ⟨k + 1, n1, cap6, some ⟨r6, 0, none⟩, h3, by omega, by go_num, rfl, by show n1 = _; rw [HX.out]; exact HA1.out.symm, by show HI _ _ _ _; rw [HX.out]; exact HH5.out, HP6.out, by show Prr _ _ _ _ _ _ _; rw [HX.out]; exact HR6.out, HL6.out.be⟩
            case measure => simp [intOf]; omega
          · have HC0 := Lib.hid (HH.out.free HFM.out.1 HA6.out HPQ6.out.1 HPQ6.out.2 hful)
            have C2 := Lib.hid (padd_at HPH.out HH.out.ok p q HPQ.out.1 HPQ.out.2 HC0.out rfl)
            have HH5 := Lib.hid (HH.out.add HPQ.out.1 HPQ.out.2 HC0.out)
            clear hful
            generalize h.add (p, q) = h3 at *
            go_wp2_with fail
            refine C2.out.mono ?_
            rintro E w5 ⟨rfl, hP5, hg5⟩
            have HP5 := Lib.hid hP5
            have HB5 := Lib.hid (below_row_at HB.out hg5 HG.out HB.out.size)
            have HR5 := Lib.hid (HR.out.turn (by simp) hg5)
            clear hP5 hg5 C2 lp HB HR HPH HH
            have lp := LP.out w5 HB5.out
            obtain ⟨R, hR1, hR2, hR3⟩ := HP5.out
            have HL5 := Lib.hid (((Loc.nil (Nat.le_refl _)).to HB5.out).join hR2 HG.out (fun e he => by cases he))
            have HR1 := Lib.hid hR1
            have HR3 := Lib.hid hR3
            clear hR1 hR2 hR3
            have hn6 : n ≤ 600 := by rw [HNE.out]; exact HA6.out
            go_upto_region 16 with (at_builtin; refine wpList_append_pi rfl _ _ rfl (by simp [Act.eval]) (p, q) _ rfl (by simp [Act.eval]) HR5.out HL5.out (by simp) (by omega) ?_; intro r6 cap6 w6 hR6 hL6; have HR6 := Lib.hid hR6; have HL6 := Lib.hid hL6; clear hR6 hL6)
            clear lp
            have HP6 : Hid (PH w6 g h3) := ⟨R, HR1.out, HL6.out.get 0 rfl, HR3.out⟩
            clear HP5 HL5 HR5 HB5
            have hA1 : (A ++ [(p, q)]).length = n + 1 := by rw [List.length_append, HNE.out]; rfl
            have HA1 := Lib.hid hA1
            have hcc := HH5.out.cnt
            have hff := HH5.out.lo
            have hfi := HH5.out.hi
            have hll := HH5.out.ok.len
            have hlh := HH5.out.len
            have hmm := HH5.out.m
            have hFF := HFM.out.1
            rw [hA1] at hcc hfi hlh
            have e3 : IntKind.u64.wrap ((F : Int) + ((n + 1 : Nat) : Int)) = (h3.cnt : Int) := by rw [show (F : Int) + ((n + 1 : Nat) : Int) = (h3.cnt : Int) by omega]; exact u64_id _ (by omega) (by omega)
            have e4 : IntKind.u64.wrap ((n + 1 : Nat) : Int) = ((n + 1 : Nat) : Int) := u64_id _ (by omega) (by omega)
            obtain ⟨d, hd⟩ : ∃ d, h3.cnt - h3.f = d := ⟨_, rfl⟩
            have e5 : IntKind.u64.wrap ((h3.cnt : Int) - (h3.f : Int)) = (d : Int) := by rw [show (h3.cnt : Int) - (h3.f : Int) = (d : Int) by omega]; exact u64_id _ (by omega) (by omega)
            have j5 : ¬ (M : Int) < (d : Int) := by omega
            clear hA1 hcc hff hfi hll hlh hmm hFF hd
            obtain ⟨n1, hn1⟩ : ∃ n1, n + 1 = n1 := ⟨_, rfl⟩
            rw [hn1] at e3 e4 HA1 HR6 ⊢
            have CC := Lib.hid (pcount_c HP6.out)
            have CF := Lib.hid (pfrom_c HP6.out)
            obtain ⟨c3, hc3⟩ : ∃ c3, h3.cnt = c3 := ⟨_, rfl⟩
            obtain ⟨f3, hf3⟩ : ∃ f3, h3.f = f3 := ⟨_, rfl⟩
            rw [hc3] at CC e3 e5
            rw [hf3] at CF e5
            clear hc3 hf3 hn1
            go_wp2_with fail
            refine CC.out.mono ?_
            rintro E w7 ⟨rfl, rfl⟩
            go_wp2_with fail
            refine CC.out.mono ?_
            rintro E w7 ⟨rfl, rfl⟩
            go_wp2_with fail
            refine CF.out.mono ?_
            rintro E w7 ⟨rfl, rfl⟩
            go_wp2
            go_roundw
            case rel => exact ⟨k + 1, n1, cap6, some ⟨r6, 0, none⟩, h3, by omega, by go_num, rfl, by show n1 = _; rw [HX.out]; exact HA1.out.symm, by show HI _ _ _ _; rw [HX.out]; exact HH5.out, HP6.out, by show Prr _ _ _ _ _ _ _; rw [HX.out]; exact HR6.out, HL6.out.be⟩
            case measure => simp [intOf]; omega
        · have j2 : (63 : Int) < (q : Int) := by omega
          rw [if_neg (fun h => hq h.2), List.append_nil] at HX
          clear hp hq
          go_wp2
          go_roundw
          case rel => exact ⟨k + 1, n, cap', ao, h, by omega, by go_num, rfl, by show n = _; rw [HX.out]; exact HNE.out, by show HI _ _ _ _; rw [HX.out]; exact HH.out, HPH.out, by show Prr _ _ _ _ _ _ _; rw [HX.out]; exact HR.out, HB.out⟩
          case measure => simp [intOf]; omega
      · have j1 : (63 : Int) < (p : Int) := by omega
        rw [if_neg (fun h => hp h.1), List.append_nil] at HX
        clear hp
        go_wp2
        go_roundw
        case rel => exact ⟨k + 1, n, cap', ao, h, by omega, by go_num, rfl, by show n = _; rw [HX.out]; exact HNE.out, by show HI _ _ _ _; rw [HX.out]; exact HH.out, HPH.out, by show Prr _ _ _ _ _ _ _; rw [HX.out]; exact HR.out, HB.out⟩
        case measure => simp [intOf]; omega
    · obtain rfl : k = l.length := by omega
      rw [List.take_length] at HNE HH HR
      have HA6 : Hid ((legL l).length ≤ 600) := Nat.le_trans (legL_le _) HLL.out
      have HPI := Lib.hid (HR.out.pis (fun z hz => HP.out.all z (List.mem_filter.1 (show z ∈ l.filter _ from hz)).1))
      generalize legL l = A at *
      have hne := HNE.out
      have hn6 : n ≤ 600 := by have := HA6.out; omega
      have HNE2 := Lib.hid hne
      clear hne HNE HP i1 hl6
      obtain ⟨wo, rfl⟩ : ∃ wo : World, wo = wr := ⟨_, rfl⟩
      go_wp2
      go_loopw [12] (fun v wr => ∃ i : Nat, i ≤ n ∧ v = .int .i64 i ∧ Hid (Below wo.heap.size wo wr)) (fun v _ => n - (intOf v).toNat)
      case atStart => exact ⟨0, by omega, rfl, Below.refl _ _⟩
      case round =>
        obtain ⟨i, hi, rfl, HBX⟩ := hrel
        by_cases hin : i < n
        · have i3 : (i : Int) < (n : Int) := by omega
          have hiA : i < A.length := by rw [← HNE2.out]; exact hin
          obtain ⟨b0, o0, p, q, rfl, hp, hq, hpq⟩ := HPI.out.at i hiA
          have LA : Hid (∀ W, Below wo.heap.size wo W → (ldT 47 (.pointer (some ⟨b0, o0 + i * 2, none⟩))).run Tryd.prog W = .ok (.agg #[.int .u8 (p : Int), .int .u8 (q : Int)]) W) := fun W hW => pis_ld HPI.out hW i hiA hpq
          have hF9 := HFM.out.1
          obtain ⟨x, hxx⟩ : ∃ x, F + i = x := ⟨_, rfl⟩
          have e1 : IntKind.u64.wrap ((F : Int) + (i : Int)) = (x : Int) := by rw [show (F : Int) + (i : Int) = (x : Int) by omega]; exact u64_id _ (by omega) (by omega)
          have e2 : IntKind.u64.wrap (i : Int) = (i : Int) := u64_id _ (by omega) (by omega)
          clear hF9 hp hq
          by_cases hfx : h.f ≤ x
          · skip
            have CA : Hid (Calls Tryd.prog 20 #[.pointer (some ⟨g, 0, none⟩), .int .u64 (x : Int)] wr fun E w' => E = .returned (.tuple #[.agg #[.int .u8 (p : Int), .int .u8 (q : Int)], .bool true]) ∧ Below wr.heap.size wr w') := pat_at (HPH.out.below HBX.out HPH.out.lt) HH.out.ok x (by rw [← hxx, HH.out.told hiA (by omega), hpq]) (by rw [← hxx, HH.out.has hiA, decide_eq_true (by omega)])
            have j4 : (h.f : Int) ≤ (x : Int) := by omega
            have CF : Hid (∀ W, Below wo.heap.size wo W → Calls Tryd.prog 16 #[.pointer (some ⟨g, 0, none⟩)] W fun E w' => E = .returned (.int .u64 (h.f : Int)) ∧ W = w') := fun W hW => pfrom_c (HPH.out.below hW HPH.out.lt)
            have HFF := Lib.hid hfx
            clear hxx hfx hpq hiA
            go_wp2_with fail
            refine CA.out.mono ?_
            rintro E w2 ⟨rfl, hb2⟩
            clear CA
            have H2 : Loc wr.heap.size wr w2 [] := (Loc.nil (Nat.le_refl _)).to hb2
            obtain ⟨g3, w3, z3, s3, H3, _⟩ := H2.newA ty_pair PZ #[.int .u8 (p : Int), .int .u8 (q : Int)] rfl rfl rfl
            replace H3 : Loc _ _ _ [(g3, 47, #[.int .u8 (p : Int), .int .u8 (q : Int)])] := H3
            have HB3 := Lib.hid (HBX.out.trans (H3.be.mono HBX.out.size))
            clear H2 hb2
            go_upto_region 23 with fail
            clear s3 z3
            have CG : Hid (∀ k, Calls Tryd.prog 16 #[.pointer (some ⟨g, 0, none⟩)] (w3.drewN k) fun E w' => E = .returned (.int .u64 (h.f : Int)) ∧ w' = w3.drewN k) := fun k => (CF.out _ (below_drewN HB3.out k)).mono fun _ _ hh => ⟨hh.1, hh.2.symm⟩
            have k0 := fun k => (H3.to (below_drewN (Below.refl _ _) k)).ldA ty_pair 0 rfl 0 (vs := #[.int .u8 (p : Int), .int .u8 (q : Int)]) rfl (Nat.le_of_ble_eq_true rfl)
            have k1 : ∀ k, (ldT 47 (.pointer (some ⟨b0, o0 + i * 2, none⟩))).run Tryd.prog (w3.drewN k) = .ok (.agg #[.int .u8 (p : Int), .int .u8 (q : Int)]) (w3.drewN k) := fun k => LA.out _ (below_drewN HB3.out k)
            generalize h.f = hf at *
            go_quiet (first | (go_at_call 16; exact Calls.quiet_of_same (CG.out _)))
            go_wp2
            go_roundw
            case rel => exact ⟨i + 1, by omega, by go_num, below_drewN HB3.out _⟩
            case measure => simp [intOf]; omega
          · skip
            have CA : Hid (Calls Tryd.prog 20 #[.pointer (some ⟨g, 0, none⟩), .int .u64 (x : Int)] wr fun E w' => E = .returned (.tuple #[.agg PZ, .bool false]) ∧ Below wr.heap.size wr w') := pat_at (HPH.out.below HBX.out HPH.out.lt) HH.out.ok x (Hm.at_no (by omega)) (by rw [← hxx, HH.out.has hiA, decide_eq_false (by omega)])
            have j4 : decide ((h.f : Int) ≤ (x : Int)) = false := decide_eq_false (by omega)
            have j5 : decide (h.f ≤ x) = false := decide_eq_false (by omega)
            have CF : Hid (∀ W, Below wo.heap.size wo W → Calls Tryd.prog 16 #[.pointer (some ⟨g, 0, none⟩)] W fun E w' => E = .returned (.int .u64 (h.f : Int)) ∧ W = w') := fun W hW => pfrom_c (HPH.out.below hW HPH.out.lt)
            have HFF := Lib.hid hfx
            clear hxx hfx hpq hiA
            go_wp2_with fail
            refine CA.out.mono ?_
            rintro E w2 ⟨rfl, hb2⟩
            clear CA
            have H2 : Loc wr.heap.size wr w2 [] := (Loc.nil (Nat.le_refl _)).to hb2
            obtain ⟨g3, w3, z3, s3, H3, _⟩ := H2.newA ty_pair PZ PZ rfl rfl rfl
            replace H3 : Loc _ _ _ [(g3, 47, PZ)] := H3
            have HB3 := Lib.hid (HBX.out.trans (H3.be.mono HBX.out.size))
            clear H2 hb2
            go_upto_region 23 with fail
            clear s3 z3
            have CG : Hid (∀ k, Calls Tryd.prog 16 #[.pointer (some ⟨g, 0, none⟩)] (w3.drewN k) fun E w' => E = .returned (.int .u64 (h.f : Int)) ∧ w' = w3.drewN k) := fun k => (CF.out _ (below_drewN HB3.out k)).mono fun _ _ hh => ⟨hh.1, hh.2.symm⟩
            generalize h.f = hf at *
            go_quiet (first | (go_at_call 16; exact Calls.quiet_of_same (CG.out _)))
            go_wp2
            go_roundw
            case rel => exact ⟨i + 1, by omega, by go_num, below_drewN HB3.out _⟩
            case measure => simp [intOf]; omega
        · obtain rfl : i = n := by omega
          go_wp2_with fail
          refine (awake_c wr ⟨tab_below (tab_below HL.out.t HB.out HL.out.t.1) HBX.out (Nat.lt_of_lt_of_le HL.out.t.1 HB.out.size), fac_below (fac_below HL.out.f HB.out HL.out.f.1) HBX.out (Nat.lt_of_lt_of_le HL.out.f.1 HB.out.size)⟩).mono ?_
          rintro E w5 ⟨rfl, hb5⟩
          have HB6 := Lib.hid ((HB.out.trans (HBX.out.mono HB.out.size)).trans (hb5.mono (Nat.le_trans HB.out.size HBX.out.size)))
          clear hb5
          go_wp2
          go_ret
          exact ⟨rfl, HB6.out⟩
end Go.Proofs.YtgmbdadkahcpcaaDoor
