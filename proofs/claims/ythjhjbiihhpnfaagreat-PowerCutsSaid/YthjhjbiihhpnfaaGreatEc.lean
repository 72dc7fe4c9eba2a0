/- The document's disk: Sync, Append; Same. -/
import Derived.Test.YthjhjbiihhpnfaaGreatEb
import Derived.WalkSmall
namespace Go.Proofs.YthjhjbiihhpnfaaGreat
open Go.RowKit Go.Shelf Go.Deep
set_option linter.unusedVariables false
set_option linter.unusedSimpArgs false
set_option maxRecDepth 100000

theorem fcs_set : ∀ (E : List Ent) (k : Nat) (h : k < E.length) (e' : Ent) (i : Nat) (u : Value), i < 3 → fc e' = (fc (E[k]'h)).set i u → fcs (E.set k e') = (fcs E).set (k * 3 + i) u
  | e :: r, 0, _, e', i, u, hi, he => by
    simp only [List.set_cons_zero, fcs, Nat.zero_mul, Nat.zero_add]
    rw [he, List.set_append_left _ _ (show i < (fc e).length from hi)]
    rfl
  | e :: r, k + 1, h, e', i, u, hi, he => by
    have ih := fcs_set r k (by simpa using h) e' i u hi he
    simp only [List.set_cons_succ, fcs]
    rw [ih, List.set_append_right _ _ (by simp [fc]; omega)]
    congr 2
    simp [fc]; omega
theorem FRow.set {B : Nat} {w : World} {g cap : Nat} {E : List Ent} (h : FRow B w (.slice (some ⟨g, 0, none⟩) E.length cap) E) {k : Nat} (hk : k < E.length) (e' : Ent) (i : Nat) (u : Value) (hi : i < 3) (he : fc e' = (fc (E[k]'hk)).set i u) :
    FRow B (w.setCell ⟨g, k * 3 + i, none⟩ u) (.slice (some ⟨g, 0, none⟩) (E.set k e').length cap) (E.set k e') ∧ w.grownBy (w.setCell ⟨g, k * 3 + i, none⟩ u) (some g) := by
  have := World.ownsRow.stored h (k * 3 + i) u
  unfold FRow
  rw [fcs_set E k hk e' i u hi he, List.length_set]
  exact this
theorem setE_set {E : List Ent} (hs : Srt Ent.nm E) {j : Nat} (hj : j < E.length) (f : Ent) (hf : f.nm = (E[j]'hj).nm) : setE f E = E.set j f := by
  have hp : E = E.take j ++ (E[j]'hj) :: E.drop (j + 1) := by rw [List.getElem_cons_drop, List.take_append_drop]
  rw [List.set_eq_take_append_cons_drop, if_pos hj]
  conv => lhs; rw [hp]
  refine setE_mid ?_ hf
  rw [← hp]; exact hs
section
variable {S : Nat → Prop} {w : World} {g q cap : Nat} {ao : Option Addr} {E : List Ent}
/-- One cell of one file has turned. -/
theorem RkC.set {gr : Nat} (h : RkC S w g q (some ⟨gr, 0, none⟩) cap E) {k : Nat} (hk : k < E.length) (e' : Ent) (i : Nat) (u : Value) (hi : i < 3) (he : fc e' = (fc (E[k]'hk)).set i u) (hG : Good q (E.set k e')) :
    RkC S (w.setCell ⟨gr, k * 3 + i, none⟩ u) g q (some ⟨gr, 0, none⟩) cap (E.set k e') ∧ Tu S w (w.setCell ⟨gr, k * 3 + i, none⟩ u) := by
  obtain ⟨h1, h2⟩ := h.row.set hk e' i u hi he
  have hne : (Value.slice (some ⟨gr, 0, none⟩) E.length cap).ownBlock ≠ some g := row_unlike h.row h.blk (by decide)
  have ht := Tu.grown h2
  have hb := h.blk.tu ht (by intro e; exact hne (by simpa [Value.ownBlock] using e.symm))
  rw [show E.length = (E.set k e').length from (List.length_set ..).symm] at hb
  exact ⟨⟨hb, h1, h.sg, fun x hx => h.sr x hx, hG⟩, ht.mono fun x _ hx => h.sr x (by simpa [Value.ownBlock] using hx.symm)⟩
set_option maxHeartbeats 1000000 in
theorem rsync_c (h : RkC S w g q ao cap E) (n : List UInt8) (hn : n.length ≤ maxLen) :
    Calls Tryz.prog 49 #[.pointer (some ⟨g, 0, none⟩), .string (str n)] w fun R w' => R = .returned (.int .i64 (eFind E n)) ∧ RkS S w' (.pointer (some ⟨g, 0, none⟩)) q (aSync E n) ∧ Tu S w w' := by
  have hl := look2_c h n hn
  have HK := Lib.hid h
  have HG := Lib.hid (good_sync h.good n)
  have HF : Hid (eFind E n = if isNm n then (match fnd n E with | some _ => 0 | none => 5) else 2) := rfl
  have HA : Hid (aSync E n = if isNm n then (match fnd n E with | some f => setE ⟨f.nm, f.bs, f.bs.length⟩ E | none => E) else E) := rfl
  clear h
  go_enter Tryz.func49, Tryz.ntmps49
  go_wp2_with fail
  refine hl.mono ?_
  rintro R w1 ⟨rfl, ⟨h1, rfl⟩ | ⟨h1, h2, rfl⟩ | ⟨j, hj, h1, h2, h3, rfl⟩⟩
  · have H1 := Lib.hid h1
    clear h1
    go_wp2
    go_ret
    exact ⟨by rw [HF.out, H1.out]; rfl, ⟨_, _, _, rfl, by rw [HA.out, H1.out]; exact HK.out⟩, Tu.refl _ _⟩
  · have H1 := Lib.hid h1
    have H2 := Lib.hid h2
    clear h1 h2
    go_wp2
    go_ret
    exact ⟨by rw [HF.out, H1.out, H2.out]; rfl, ⟨_, _, _, rfl, by rw [HA.out, H1.out, H2.out]; exact HK.out⟩, Tu.refl _ _⟩
  · have HE : Hid (aSync E n = E.set j ⟨(E[j]'hj).nm, (E[j]'hj).bs, (E[j]'hj).bs.length⟩) := by show _ = _; rw [HA.out, h1, h3]; exact setE_set HK.out.good.srt hj _ rfl
    have HFF : Hid (eFind E n = 0) := by show _ = _; rw [HF.out, h1, h3]; rfl
    obtain ⟨gr, rfl, d0, d1, d2⟩ := HK.out.row.at hj
    have c1 := HK.out.c1
    have i2 : (j : Int) < (E.length : Int) := by omega
    have hsz := str_size (E[j]'hj).bs
    have hfz := World.ownsRow.frozenAt HK.out.row (j * 3 + 2)
    have HST := Lib.hid (HK.out.set hj ⟨(E[j]'hj).nm, (E[j]'hj).bs, (E[j]'hj).bs.length⟩ 2 (.int .i64 ((E[j]'hj).bs.length : Int)) (by decide) rfl (by have := HG.out; rw [HE.out] at this; exact this))
    have HJ := Lib.hid hj
    clear h1 h2 h3 d0 hl
    generalize hbs : (E[j]'hj).bs = bs at *
    go_upto_region 3 with fail
    have hs0 : w.drew = w.drew := rfl
    refine wp_region_till (S := fun w' => w' = w.drew) (by kernel_rfl) ?_
    refine wpTill_take (i := 0) (v := ?va0) rfl (by kernel_rfl) (fun _ _ _ h => h) (Or.inl ⟨by rfl, ?hya0⟩) rfl ?resta0
    case hya0 => (intro W hW; (try dsimp only at hW); go_simp; try with_reducible rfl)
    simp only [Act.put, List.setIfInBounds_toArray, List.set_cons_zero, List.set_cons_succ]
    refine wpTill_take (i := 1) (v := ?va1) rfl (by kernel_rfl) (fun _ _ _ h => h) (Or.inl ⟨by rfl, ?hya1⟩) rfl ?resta1
    case hya1 => (intro W hW; (try dsimp only at hW); go_simp; try with_reducible rfl)
    simp only [Act.put, List.setIfInBounds_toArray, List.set_cons_zero, List.set_cons_succ]
    refine wpTill_take (i := 2) (v := ?va2) rfl (by kernel_rfl) (fun _ _ _ h => h) (Or.inl ⟨by rfl, ?hya2⟩) rfl ?resta2
    case hya2 => (intro W hW; (try dsimp only at hW); go_simp; try with_reducible rfl)
    simp only [Act.put, List.setIfInBounds_toArray, List.set_cons_zero, List.set_cons_succ]
    refine wpTill_take (i := 3) (v := ?va3) rfl (by kernel_rfl) (fun _ _ _ h => h) (Or.inl ⟨by rfl, ?hya3⟩) rfl ?resta3
    case hya3 => (intro W hW; (try dsimp only at hW); go_simp; try with_reducible rfl)
    simp only [Act.put, List.setIfInBounds_toArray, List.set_cons_zero, List.set_cons_succ]
    refine wpTill_take (i := 4) (v := ?va4) rfl (by kernel_rfl) (fun _ _ _ h => h) (Or.inl ⟨by rfl, ?hya4⟩) rfl ?resta4
    case hya4 => (intro W hW; (try dsimp only at hW); go_simp; try with_reducible rfl)
    simp only [Act.put, List.setIfInBounds_toArray, List.set_cons_zero, List.set_cons_succ]
    refine wpTill_take (i := 5) (v := ?va5) rfl (by kernel_rfl) (fun _ _ _ h => h) (Or.inl ⟨by rfl, ?hya5⟩) rfl ?resta5
    case hya5 => (intro W hW; (try dsimp only at hW); go_simp; try with_reducible rfl)
    simp only [Act.put, List.setIfInBounds_toArray, List.set_cons_zero, List.set_cons_succ]
    refine wpTill_take (i := 6) (v := ?va6) rfl (by kernel_rfl) (fun _ _ _ h => h) (Or.inl ⟨by rfl, ?hya6⟩) rfl ?resta6
    case hya6 => (intro W hW; (try dsimp only at hW); go_simp; try with_reducible rfl)
    simp only [Act.put, List.setIfInBounds_toArray, List.set_cons_zero, List.set_cons_succ]
    refine wpTill_take (i := 7) (v := ?va7) rfl (by kernel_rfl) (fun _ _ _ h => h) (Or.inl ⟨by rfl, ?hya7⟩) rfl ?resta7
    case hya7 => (intro W hW; (try dsimp only at hW); go_simp; try with_reducible rfl)
    simp only [Act.put, List.setIfInBounds_toArray, List.set_cons_zero, List.set_cons_succ]
    refine wpTill_take (i := 8) (v := ?va8) rfl (by kernel_rfl) (fun _ _ _ h => h) (Or.inl ⟨by rfl, ?hya8⟩) rfl ?resta8
    case hya8 => (intro W hW; (try dsimp only at hW); go_simp; try with_reducible rfl)
    simp only [Act.put, List.setIfInBounds_toArray, List.set_cons_zero, List.set_cons_succ]
    refine wpTill_take (i := 9) (v := ?va9) rfl (by kernel_rfl) (fun _ _ _ h => h) (Or.inl ⟨by rfl, ?hya9⟩) rfl ?resta9
    case hya9 => (intro W hW; (try dsimp only at hW); go_simp; try with_reducible rfl)
    simp only [Act.put, List.setIfInBounds_toArray, List.set_cons_zero, List.set_cons_succ]
    refine wpTill_take (i := 10) (v := ?va10) rfl (by kernel_rfl) (fun _ _ _ h => h) (Or.inl ⟨by rfl, ?hya10⟩) rfl ?resta10
    case hya10 => (intro W hW; (try dsimp only at hW); go_simp; try with_reducible rfl)
    simp only [Act.put, List.setIfInBounds_toArray, List.set_cons_zero, List.set_cons_succ]
    refine wpTill_take (i := 11) (v := ?va11) rfl (by kernel_rfl) (fun _ _ _ h => h) (Or.inl ⟨by rfl, ?hya11⟩) rfl ?resta11
    case hya11 => (intro W hW; (try dsimp only at hW); go_simp; try with_reducible rfl)
    simp only [Act.put, List.setIfInBounds_toArray, List.set_cons_zero, List.set_cons_succ]
    refine wpTill_take (i := 12) (v := ?va12) rfl (by kernel_rfl) (fun _ _ _ h => h) (Or.inl ⟨by rfl, ?hya12⟩) rfl ?resta12
    case hya12 => (intro W hW; (try dsimp only at hW); go_simp; try with_reducible rfl)
    simp only [Act.put, List.setIfInBounds_toArray, List.set_cons_zero, List.set_cons_succ]
    refine wpTill_take (i := 13) (v := ?va13) rfl (by kernel_rfl) (fun _ _ _ h => h) (Or.inl ⟨by rfl, ?hya13⟩) rfl ?resta13
    case hya13 => (intro W hW; (try dsimp only at hW); go_simp; try with_reducible rfl)
    simp only [Act.put, List.setIfInBounds_toArray, List.set_cons_zero, List.set_cons_succ]
    refine wpTill_take (i := 14) (v := ?va14) rfl (by kernel_rfl) (fun _ _ _ h => h) (Or.inl ⟨by rfl, ?hya14⟩) rfl ?resta14
    case hya14 => (intro W hW; (try dsimp only at hW); go_simp; try with_reducible rfl)
    simp only [Act.put, List.setIfInBounds_toArray, List.set_cons_zero, List.set_cons_succ]
    refine wpTill_take (i := 15) (v := ?va15) rfl (by kernel_rfl) (fun _ _ _ h => h) (Or.inl ⟨by rfl, ?hya15⟩) rfl ?resta15
    case hya15 => (intro W hW; (try dsimp only at hW); go_simp; try with_reducible rfl)
    simp only [Act.put, List.setIfInBounds_toArray, List.set_cons_zero, List.set_cons_succ]
    refine wpTill_run (i := 16) (by kernel_rfl) rfl rfl (fun K hK => ?_)
    go_simp
    refine hK _ _ ?_
    clear hK K
    refine wpTill_done (by kernel_rfl) ?_
    go_wp2
    go_ret
    refine ⟨by rw [HFF.out]; rfl, ?_, ?_⟩
    · rw [HE.out]
      exact ⟨_, _, _, rfl, HST.out.1.tu (S' := fun _ => False) (Tu.refl _ _).draw (fun _ _ _ h => h)⟩
    · exact HST.out.2.draw
theorem Tu.drewN {S : Nat → Prop} (w : World) (k : Nat) : Tu S w (w.drewN k) := Tu.new (below_drewN (Below.refl _ w) k)
theorem aAppend_at {q : Nat} {E : List Ent} {n b : List UInt8} (hs : Srt Ent.nm E) {j : Nat} (hj : j < E.length) (h1 : isNm n = true) (h3 : fnd n E = some (E[j]'hj)) :
    ((65536 < (E[j]'hj).bs.length + b.length ∨ q < used E + b.length) ∧ eAppend q E n b = 7 ∧ aAppend q E n b = E) ∨
    (¬ (65536 < (E[j]'hj).bs.length + b.length ∨ q < used E + b.length) ∧ eAppend q E n b = 0 ∧ aAppend q E n b = E.set j ⟨(E[j]'hj).nm, (E[j]'hj).bs ++ b, (E[j]'hj).su⟩) := by
  by_cases hl : 65536 < (E[j]'hj).bs.length + b.length ∨ q < used E + b.length
  · have he : eAppend q E n b = 7 := by unfold eAppend; rw [h1, h3]; simp only [ite_true]; exact if_pos hl
    refine .inl ⟨hl, he, ?_⟩
    unfold aAppend; rw [he]; rfl
  · have he : eAppend q E n b = 0 := by unfold eAppend; rw [h1, h3]; simp only [ite_true]; exact if_neg hl
    refine .inr ⟨hl, he, ?_⟩
    unfold aAppend
    rw [he, h3]
    exact setE_set hs hj _ rfl
set_option maxHeartbeats 1000000 in
theorem rappend_c (h : RkC S w g q ao cap E) (n b : List UInt8) (hn : n.length ≤ maxLen) (hbl : b.length ≤ maxLen) :
    Calls Tryz.prog 48 #[.pointer (some ⟨g, 0, none⟩), .string (str n), .string (str b)] w fun R w' => R = .returned (.int .i64 (eAppend q E n b)) ∧ RkS S w' (.pointer (some ⟨g, 0, none⟩)) q (aAppend q E n b) ∧ Tu S w w' := by
  have hl := look2_c h n hn
  have HK := Lib.hid h
  have hu := h.good.use
  have hq := h.good.q2
  have hsb := str_size b
  simp only [maxLen] at hbl
  have HG := Lib.hid (good_append h.good n b)
  have HF : Hid (isNm n = false → eAppend q E n b = 2 ∧ aAppend q E n b = E) := fun h1 => by
    have he : eAppend q E n b = 2 := by unfold eAppend; rw [h1]; rfl
    exact ⟨he, by unfold aAppend; rw [he]; rfl⟩
  have HF2 : Hid (isNm n = true → fnd n E = none → eAppend q E n b = 5 ∧ aAppend q E n b = E) := fun h1 h2 => by
    have he : eAppend q E n b = 5 := by unfold eAppend; rw [h1, h2]; rfl
    exact ⟨he, by unfold aAppend; rw [he]; rfl⟩
  have HF3 := Lib.hid (fun (j : Nat) (hj : j < E.length) (h1 : isNm n = true) (h3 : fnd n E = some (E[j]'hj)) => aAppend_at (q := q) (b := b) h.good.srt hj h1 h3)
  have HU : Hid (∀ k, Calls Tryz.prog 38 #[.pointer (some ⟨g, 0, none⟩)] (w.drewN k) fun R w' => R = .returned (.int .i64 (used E)) ∧ w' = w.drewN k) := fun k => (rused_c (h.tu (S' := fun _ => False) (Tu.drewN w k) (fun _ _ _ h => h))).mono fun _ _ ⟨he, hw⟩ => ⟨he, hw.symm⟩
  clear h
  go_enter Tryz.func48, Tryz.ntmps48
  go_wp2_with fail
  refine hl.mono ?_
  rintro R w1 ⟨rfl, ⟨h1, rfl⟩ | ⟨h1, h2, rfl⟩ | ⟨j, hj, h1, h2, h3, rfl⟩⟩
  · have H1 := Lib.hid h1
    clear h1
    go_wp2
    go_ret
    exact ⟨by rw [(HF.out H1.out).1]; rfl, ⟨_, _, _, rfl, by rw [(HF.out H1.out).2]; exact HK.out⟩, Tu.refl _ _⟩
  · have H1 := Lib.hid h1
    have H2 := Lib.hid h2
    clear h1 h2
    go_wp2
    go_ret
    exact ⟨by rw [(HF2.out H1.out H2.out).1]; rfl, ⟨_, _, _, rfl, by rw [(HF2.out H1.out H2.out).2]; exact HK.out⟩, Tu.refl _ _⟩
  · have H3 := Lib.hid (HF3.out j hj h1 h3)
    obtain ⟨gr, rfl, d0, d1, d2⟩ := HK.out.row.at hj
    have c0 := HK.out.c0
    have c1 := HK.out.c1
    have i2 : (j : Int) < (E.length : Int) := by omega
    have hsz := str_size (E[j]'hj).bs
    have hmost := HK.out.good.most _ (List.getElem_mem hj)
    have hap := str_append (E[j]'hj).bs b
    have hfz := World.ownsRow.frozenAt HK.out.row (j * 3 + 1)
    have HST := Lib.hid (HK.out.set hj ⟨(E[j]'hj).nm, (E[j]'hj).bs ++ b, (E[j]'hj).su⟩ 1 (.string (str ((E[j]'hj).bs ++ b))) (by decide) rfl)
    have HJ := Lib.hid hj
    clear h1 h2 h3 d0 d2 hl HF HF2 HF3
    generalize hbs : (E[j]'hj).bs = bs at *
    obtain ⟨u, hue⟩ : ∃ u, used E = u := ⟨_, rfl⟩
    rw [hue] at hu
    have hr1 : IntKind.i64.wrap (65536 - (bs.length : Int)) = 65536 - (bs.length : Int) := IntWalk.i64_in _ ⟨by omega, by omega⟩
    have hr2 : IntKind.i64.wrap ((q : Int) - (u : Int)) = (q : Int) - (u : Int) := IntWalk.i64_in _ ⟨by omega, by omega⟩
    rw [hue] at HU H3
    rcases H3.out with ⟨ho, he, ha⟩ | ⟨ho, he, ha⟩
    · have HE := Lib.hid he
      have HA := Lib.hid ha
      clear he ha H3
      by_cases ho1 : 65536 < bs.length + b.length
      · have hd : decide (65536 - (bs.length : Int) < (b.length : Int)) = true := decide_eq_true (by omega)
        go_upto_region 4 with fail
        go_quiet (fail)
        go_wp2
        go_ret
        exact ⟨by rw [HE.out]; rfl, ⟨_, _, _, rfl, by rw [HA.out]; exact HK.out.tu (S' := fun _ => False) (Tu.drewN w _) (fun _ _ _ h => h)⟩, Tu.drewN w _⟩
      · have hd : decide (65536 - (bs.length : Int) < (b.length : Int)) = false := decide_eq_false (by omega)
        have hd2 : (q : Int) - (u : Int) < (b.length : Int) := by omega
        go_upto_region 4 with fail
        go_quiet (first | (go_at_call 38; exact Calls.quiet_of_same (HU.out _)))
        go_wp2
        go_ret
        exact ⟨by rw [HE.out]; rfl, ⟨_, _, _, rfl, by rw [HA.out]; exact HK.out.tu (S' := fun _ => False) (Tu.drewN w _) (fun _ _ _ h => h)⟩, Tu.drewN w _⟩
    · have HE := Lib.hid he
      have HA := Lib.hid ha
      have hG : Good q (E.set j ⟨(E[j]'hj).nm, bs ++ b, (E[j]'hj).su⟩) := by have := HG.out; rw [ha] at this; exact this
      have HGS := Lib.hid hG
      clear he ha H3 hG HST hfz d1
      have hd : decide (65536 - (bs.length : Int) < (b.length : Int)) = false := decide_eq_false (by omega)
      have hd2 : decide ((q : Int) - (u : Int) < (b.length : Int)) = false := decide_eq_false (by omega)
      have d1 : w.cell? ⟨gr, j * 3 + 1, none⟩ = some (.string (str bs)) := by
        obtain ⟨_, e, _, x, _⟩ := HK.out.row.at hj
        cases e
        rw [hbs] at x
        exact x
      go_upto_region 4 with fail
      go_quiet (first | (go_at_call 38; exact Calls.quiet_of_same (HU.out _)))
      have HT := Lib.hid (Tu.drewN (S := S) w nq)
      have HK2 := Lib.hid (HK.out.tu (S' := fun _ => False) (Tu.drewN w nq) (fun _ _ _ h => h))
      clear c0 c1 d1 hd hd2 HU HG HK
      generalize w.drewN nq = wa at *
      have c1 := HK2.out.c1
      have d1 : wa.cell? ⟨gr, j * 3 + 1, none⟩ = some (.string (str bs)) := by
        obtain ⟨_, e, _, x, _⟩ := HK2.out.row.at hj
        cases e
        rw [hbs] at x
        exact x
      have hfz := World.ownsRow.frozenAt HK2.out.row (j * 3 + 1)
      have HST := Lib.hid (HK2.out.set hj ⟨(E[j]'hj).nm, bs ++ b, (E[j]'hj).su⟩ 1 (.string (str (bs ++ b))) (by decide) (by simp [fc]) HGS.out)
      have h63 : ¬ 9223372036854775807 < bs.length + b.length := by omega
      go_upto_region 6 with fail
      refine wp_region_till (S := fun w' => w' = wa.drew) (by kernel_rfl) ?_
      refine wpTill_take (i := 0) (v := ?vb0) rfl (by kernel_rfl) (fun _ _ _ h => h) (Or.inl ⟨by rfl, ?hyb0⟩) rfl ?restb0
      case hyb0 => (intro W hW; (try dsimp only at hW); go_simp; try with_reducible rfl)
      simp only [Act.put, List.setIfInBounds_toArray, List.set_cons_zero, List.set_cons_succ]
      refine wpTill_take (i := 1) (v := ?vb1) rfl (by kernel_rfl) (fun _ _ _ h => h) (Or.inl ⟨by rfl, ?hyb1⟩) rfl ?restb1
      case hyb1 => (intro W hW; (try dsimp only at hW); go_simp; try with_reducible rfl)
      simp only [Act.put, List.setIfInBounds_toArray, List.set_cons_zero, List.set_cons_succ]
      refine wpTill_take (i := 2) (v := ?vb2) rfl (by kernel_rfl) (fun _ _ _ h => h) (Or.inl ⟨by rfl, ?hyb2⟩) rfl ?restb2
      case hyb2 => (intro W hW; (try dsimp only at hW); go_simp; try with_reducible rfl)
      simp only [Act.put, List.setIfInBounds_toArray, List.set_cons_zero, List.set_cons_succ]
      refine wpTill_take (i := 3) (v := ?vb3) rfl (by kernel_rfl) (fun _ _ _ h => h) (Or.inl ⟨by rfl, ?hyb3⟩) rfl ?restb3
      case hyb3 => (intro W hW; (try dsimp only at hW); go_simp; try with_reducible rfl)
      simp only [Act.put, List.setIfInBounds_toArray, List.set_cons_zero, List.set_cons_succ]
      refine wpTill_take (i := 4) (v := ?vb4) rfl (by kernel_rfl) (fun _ _ _ h => h) (Or.inl ⟨by rfl, ?hyb4⟩) rfl ?restb4
      case hyb4 => (intro W hW; (try dsimp only at hW); go_simp; try with_reducible rfl)
      simp only [Act.put, List.setIfInBounds_toArray, List.set_cons_zero, List.set_cons_succ]
      refine wpTill_take (i := 5) (v := ?vb5) rfl (by kernel_rfl) (fun _ _ _ h => h) (Or.inl ⟨by rfl, ?hyb5⟩) rfl ?restb5
      case hyb5 => (intro W hW; (try dsimp only at hW); go_simp; try with_reducible rfl)
      simp only [Act.put, List.setIfInBounds_toArray, List.set_cons_zero, List.set_cons_succ]
      refine wpTill_take (i := 6) (v := ?vb6) rfl (by kernel_rfl) (fun _ _ _ h => h) (Or.inl ⟨by rfl, ?hyb6⟩) rfl ?restb6
      case hyb6 => (intro W hW; (try dsimp only at hW); go_simp; try with_reducible rfl)
      simp only [Act.put, List.setIfInBounds_toArray, List.set_cons_zero, List.set_cons_succ]
      refine wpTill_take (i := 7) (v := ?vb7) rfl (by kernel_rfl) (fun _ _ _ h => h) (Or.inl ⟨by rfl, ?hyb7⟩) rfl ?restb7
      case hyb7 => (intro W hW; (try dsimp only at hW); go_simp; try with_reducible rfl)
      simp only [Act.put, List.setIfInBounds_toArray, List.set_cons_zero, List.set_cons_succ]
      refine wpTill_take (i := 8) (v := ?vb8) rfl (by kernel_rfl) (fun _ _ _ h => h) (Or.inl ⟨by rfl, ?hyb8⟩) rfl ?restb8
      case hyb8 => (intro W hW; (try dsimp only at hW); go_simp; try with_reducible rfl)
      simp only [Act.put, List.setIfInBounds_toArray, List.set_cons_zero, List.set_cons_succ]
      refine wpTill_take (i := 9) (v := ?vb9) rfl (by kernel_rfl) (fun _ _ _ h => h) (Or.inl ⟨by rfl, ?hyb9⟩) rfl ?restb9
      case hyb9 => (intro W hW; (try dsimp only at hW); go_simp; try with_reducible rfl)
      simp only [Act.put, List.setIfInBounds_toArray, List.set_cons_zero, List.set_cons_succ]
      refine wpTill_take (i := 10) (v := ?vb10) rfl (by kernel_rfl) (fun _ _ _ h => h) (Or.inl ⟨by rfl, ?hyb10⟩) rfl ?restb10
      case hyb10 => (intro W hW; (try dsimp only at hW); go_simp; try with_reducible rfl)
      simp only [Act.put, List.setIfInBounds_toArray, List.set_cons_zero, List.set_cons_succ]
      refine wpTill_take (i := 11) (v := ?vb11) rfl (by kernel_rfl) (fun _ _ _ h => h) (Or.inl ⟨by rfl, ?hyb11⟩) rfl ?restb11
      case hyb11 => (intro W hW; (try dsimp only at hW); go_simp; try with_reducible rfl)
      simp only [Act.put, List.setIfInBounds_toArray, List.set_cons_zero, List.set_cons_succ]
      refine wpTill_take (i := 12) (v := ?vb12) rfl (by kernel_rfl) (fun _ _ _ h => h) (Or.inl ⟨by rfl, ?hyb12⟩) rfl ?restb12
      case hyb12 => (intro W hW; (try dsimp only at hW); go_simp; try with_reducible rfl)
      simp only [Act.put, List.setIfInBounds_toArray, List.set_cons_zero, List.set_cons_succ]
      refine wpTill_take (i := 13) (v := ?vb13) rfl (by kernel_rfl) (fun _ _ _ h => h) (Or.inl ⟨by rfl, ?hyb13⟩) rfl ?restb13
      case hyb13 => (intro W hW; (try dsimp only at hW); go_simp; try with_reducible rfl)
      simp only [Act.put, List.setIfInBounds_toArray, List.set_cons_zero, List.set_cons_succ]
      refine wpTill_take (i := 14) (v := ?vb14) rfl (by kernel_rfl) (fun _ _ _ h => h) (Or.inl ⟨by rfl, ?hyb14⟩) rfl ?restb14
      case hyb14 => (intro W hW; (try dsimp only at hW); go_simp; try with_reducible rfl)
      simp only [Act.put, List.setIfInBounds_toArray, List.set_cons_zero, List.set_cons_succ]
      refine wpTill_take (i := 15) (v := ?vb15) rfl (by kernel_rfl) (fun _ _ _ h => h) (Or.inl ⟨by rfl, ?hyb15⟩) rfl ?restb15
      case hyb15 => (intro W hW; (try dsimp only at hW); go_simp; try with_reducible rfl)
      simp only [Act.put, List.setIfInBounds_toArray, List.set_cons_zero, List.set_cons_succ]
      refine wpTill_take (i := 16) (v := ?vb16) rfl (by kernel_rfl) (fun _ _ _ h => h) (Or.inl ⟨by rfl, ?hyb16⟩) rfl ?restb16
      case hyb16 => (intro W hW; (try dsimp only at hW); go_simp; try with_reducible rfl)
      simp only [Act.put, List.setIfInBounds_toArray, List.set_cons_zero, List.set_cons_succ]
      refine wpTill_run (i := 17) (by kernel_rfl) rfl rfl (fun K hK => ?_)
      go_simp
      refine hK _ _ ?_
      clear hK K
      refine wpTill_done (by kernel_rfl) ?_
      go_wp2
      go_ret
      refine ⟨by rw [HE.out]; rfl, ?_, ?_⟩
      · rw [HA.out]
        exact ⟨_, _, _, rfl, HST.out.1.tu (S' := fun _ => False) (Tu.refl _ _).draw (fun _ _ _ h => h)⟩
      · exact HT.out.trans HST.out.2.draw (fun _ _ h => h)

end
end Go.Proofs.YthjhjbiihhpnfaaGreat
