/- The document's Crash. -/
import Derived.Test.YthjhjbiihhpnfaaGreatEi
namespace Go.Proofs.YthjhjbiihhpnfaaGreat
open Go.RowKit Go.Shelf Go.Deep
set_option linter.unusedVariables false
set_option linter.unusedSimpArgs false
set_option maxRecDepth 100000

section
variable {S : Nat → Prop} {w : World} {g q cap : Nat} {ao : Option Addr} {E : List Ent}
/-- One round more, on the lists. -/
theorem tear_set {q k : Nat} {ks : List Int} {E F : List Ent} (hF : F = tears ks 0 (E.take k) ++ E.drop k) (hk : k < E.length) (hG : Good q F) : ∃ hk' : k < F.length, F[k]'hk' = E[k]'hk ∧ F.length = E.length ∧
    F.set k (tearE (numAt ks k) (E[k]'hk)) = tears ks 0 (E.take (k + 1)) ++ E.drop (k + 1) ∧ Good q (F.set k (tearE (numAt ks k) (E[k]'hk))) := by
  have htl : (tears ks 0 (E.take k)).length = k := by rw [tears_len, List.length_take]; omega
  have hfl : F.length = E.length := by rw [hF, List.length_append, htl, List.length_drop]; omega
  have hk' : k < F.length := by omega
  have hat : F[k]'hk' = E[k]'hk := by
    subst hF
    rw [List.getElem_append_right (by omega), List.getElem_drop]
    congr 1
    omega
  have hset : F.set k (tearE (numAt ks k) (E[k]'hk)) = tears ks 0 (E.take (k + 1)) ++ E.drop (k + 1) := by
    rw [← tears_step ks E k hk, List.set_eq_take_append_cons_drop, if_pos hk', hF]
    congr 1
    · rw [List.take_append_of_le_length (by omega), List.take_of_length_le (by omega)]
    · congr 1
      rw [List.drop_append, htl, List.drop_eq_nil_of_le (by omega), List.nil_append, List.drop_drop]
      congr 1
      omega
  refine ⟨hk', hat, hfl, hset, ?_⟩
  have hm := List.getElem_mem hk'
  have hs := hG.sure _ hm
  have hmo := hG.most _ hm
  have hl := tearE_len (f := E[k]'hk) (by rw [← hat]; exact hs) (numAt ks k)
  rw [hat] at hs hmo
  have h1 := good_set hG (n := (F[k]'hk').nm) (f := F[k]'hk') (g := tearE (numAt ks k) (E[k]'hk)) (fndK_of_mem hG.srt hm) (by rw [hat]; rfl) (by omega) (by omega) (by have := hG.use; rw [hat]; omega)
  rw [setE_set hG.srt hk' _ (by rw [hat]; rfl)] at h1
  exact h1
theorem FRow.set3 {B gr k : Nat} {F : List Ent} (h : FRow B w (.slice (some ⟨gr, 0, none⟩) F.length cap) F) (hk : k < F.length) (e' : Ent) :
    FRow B (((w.setCell ⟨gr, k * 3, none⟩ (.string (str e'.nm))).setCell ⟨gr, k * 3 + 1, none⟩ (.string (str e'.bs))).setCell ⟨gr, k * 3 + 2, none⟩ (.int .i64 (e'.su : Int))) (.slice (some ⟨gr, 0, none⟩) (F.set k e').length cap) (F.set k e') ∧
      Tu (fun x => x = gr) w (((w.setCell ⟨gr, k * 3, none⟩ (.string (str e'.nm))).setCell ⟨gr, k * 3 + 1, none⟩ (.string (str e'.bs))).setCell ⟨gr, k * 3 + 2, none⟩ (.int .i64 (e'.su : Int))) := by
  obtain ⟨h1, g1⟩ := h.set hk ⟨e'.nm, (F[k]'hk).bs, (F[k]'hk).su⟩ 0 (.string (str e'.nm)) (by decide) rfl
  obtain ⟨h2, g2⟩ := h1.set (k := k) (by rw [List.length_set]; exact hk) ⟨e'.nm, e'.bs, (F[k]'hk).su⟩ 1 (.string (str e'.bs)) (by decide) (by rw [List.getElem_set_self]; rfl)
  rw [List.set_set] at h2
  obtain ⟨h3, g3⟩ := h2.set (k := k) (by rw [List.length_set]; exact hk) e' 2 (.int .i64 (e'.su : Int)) (by decide) (by rw [List.getElem_set_self]; rfl)
  rw [List.set_set] at h3
  exact ⟨h3, ((Tu.grown g1).trans (Tu.grown g2) (fun _ _ h => h) |>.trans (Tu.grown g3) (fun _ _ h => h)).mono (fun x _ hx => by simpa using hx)⟩
theorem RkC.set3 {gr k : Nat} {F : List Ent} (h : RkC S w g q (some ⟨gr, 0, none⟩) cap F) (hk : k < F.length) (e' : Ent) (hG : Good q (F.set k e')) :
    RkC S (((w.setCell ⟨gr, k * 3, none⟩ (.string (str e'.nm))).setCell ⟨gr, k * 3 + 1, none⟩ (.string (str e'.bs))).setCell ⟨gr, k * 3 + 2, none⟩ (.int .i64 (e'.su : Int))) g q (some ⟨gr, 0, none⟩) cap (F.set k e') ∧
      Tu S w (((w.setCell ⟨gr, k * 3, none⟩ (.string (str e'.nm))).setCell ⟨gr, k * 3 + 1, none⟩ (.string (str e'.bs))).setCell ⟨gr, k * 3 + 2, none⟩ (.int .i64 (e'.su : Int))) := by
  obtain ⟨h1, ht⟩ := h.row.set3 hk e'
  have hne : (Value.slice (some ⟨gr, 0, none⟩) F.length cap).ownBlock ≠ some g := row_unlike h.row h.blk (by decide)
  have hb := h.blk.tu ht (fun e => hne (by rw [e]; rfl))
  rw [show F.length = (F.set k e').length from (List.length_set ..).symm] at hb
  exact ⟨⟨hb, h1, h.sg, fun x hx => h.sr x hx, hG⟩, ht.mono fun x _ hx => h.sr x (by rw [hx]; rfl)⟩
set_option maxHeartbeats 2000000 in
theorem rcrash_c {ko : Option Addr} {ks : List Int} {kc : Nat} (h : RkC S w g q ao cap E) (hi : Ints w ko ks) (hkl : ks.length ≤ maxLen) (hkf : ∀ a, ko = some a → ks ≠ [] → ¬ S a.block) :
    Calls Tryz.prog 60 #[.pointer (some ⟨g, 0, none⟩), .slice ko ks.length kc] w fun R w' => R = .returned (.tuple #[]) ∧ RkS S w' (.pointer (some ⟨g, 0, none⟩)) q (aCrash ks E) ∧ Tu S w w' := by
  have hel := h.good.len
  simp only [maxLen] at hkl
  have HK := Lib.hid h
  have HI := Lib.hid hi
  have HKF := Lib.hid hkf
  clear h hi hkf
  obtain ⟨kn, hkn⟩ : ∃ kn, ks.length = kn := ⟨_, rfl⟩
  rw [hkn] at hkl ⊢
  have HKN := Lib.hid hkn
  clear hkn
  go_enter Tryz.func60, Tryz.ntmps60
  go_wp2
  go_loopw [4] (fun i wr => ∃ k : Nat, k ≤ E.length ∧ i = .int .i64 k ∧ Hid (∃ F, F = tears ks 0 (E.take k) ++ E.drop k ∧ RkC S wr g q ao cap F) ∧ Hid (Tu S w wr)) (fun i _ => E.length - (intOf i).toNat)
  case atStart => exact ⟨0, Nat.zero_le _, rfl, ⟨E, by simp [tears], HK.out⟩, Tu.refl _ _⟩
  case round =>
    obtain ⟨k, hk, rfl, HF, HT⟩ := hrel
    obtain ⟨F, hF, hr⟩ := HF.out
    by_cases hlt : k < E.length
    · obtain ⟨hk', hat, hfl, hset, hG⟩ := tear_set hF hlt hr.good
      have i2 : (k : Int) < (E.length : Int) := by omega
      have c1 := hr.c1
      rw [hfl] at c1
      have hints : Ints wr ko ks := by
        by_cases hks : ks = []
        · intro j hj
          rw [hks] at hj
          cases hj
        · exact HI.out.tu HT.out (fun a ha => HKF.out a ha hks)
      have hsure := hr.good.sure _ (List.getElem_mem hk')
      have hmost := hr.good.most _ (List.getElem_mem hk')
      obtain ⟨gr, rfl, d0, d1, d2⟩ := hr.row.at hk'
      rw [hat] at d0 d1 d2 hsure hmost
      generalize E[k]'hlt = e at *
      obtain ⟨kk, hkk⟩ : ∃ kk, kept (numAt ks k) (e.bs.length - e.su + 1) = kk := ⟨_, rfl⟩
      have hkl2 := kept_lt2 (numAt ks k) (e.bs.length - e.su + 1) (by omega)
      rw [hkk] at hkl2
      have hte : tearE (numAt ks k) e = ⟨e.nm, e.bs.take (e.su + kk), e.su + kk⟩ := by unfold tearE; rw [hkk]
      rw [hte] at hset hG
      have HSET := Lib.hid hset
      have HG := Lib.hid hG
      have HHAT := Lib.hid hat
      have HINTS := Lib.hid hints
      have HFL := Lib.hid hfl
      have HWS := Lib.hid HT.out.size
      have hb0 := below_alloc wr (.cells #[.string (str e.nm), .string (str e.bs), .int .i64 (e.su : Int)] 96)
      have HB0 := Lib.hid hb0
      have HCB := Lib.hid (Cells.made wr 96 #[.string (str e.nm), .string (str e.bs), .int .i64 (e.su : Int)])
      have hr2 : RkC (fun x => S x ∧ x < wr.heap.size) wr g q (some ⟨gr, 0, none⟩) cap F := ⟨hr.blk, hr.row, ⟨hr.sg, hr.blk.lt⟩, fun x hx => ⟨hr.sr x hx, (hr.row.lt x hx).2⟩, hr.good⟩
      have HR := Lib.hid (hr2.new hb0)
      have HTB := Lib.hid (HT.out.trans (Tu.new (S := S) hb0) (fun _ _ h => h))
      have hsz := str_size e.bs
      clear hset hG hte hat hr hr2 hF HF hints hfl hb0
      by_cases hks : ks = []
      · have hl0 : kn = 0 := by rw [← HKN.out, hks]; rfl
        subst hl0
        have hk0 : kk = 0 := by rw [← hkk]; unfold numAt kept; rw [if_pos hks]; simp
        subst hk0
        rw [Nat.add_zero] at HSET HG
        clear hkk hks
        go_upto_region 8 with fail
        clear d0 d1 d2
        generalize wr.alloc (.cells #[.string (str e.nm), .string (str e.bs), .int .i64 (e.su : Int)] 96) = wb at *
        have hmle : e.su ≤ e.bs.length := hsure
        have hb1 : wb.cell? ⟨wr.heap.size, 1, none⟩ = some (.string (str e.bs)) := by rw [HCB.out.cell]; rfl
        have hb2 : wb.cell? ⟨wr.heap.size, 2, none⟩ = some (.int .i64 (e.su : Int)) := by rw [HCB.out.cell]; rfl
        have hz2 := HCB.out.frozen 2
        have HC8 : Hid (Cells (wb.setCell ⟨wr.heap.size, 2, none⟩ (.int .i64 (e.su : Int))) wr.heap.size 96 #[.string (str e.nm), .string (str e.bs), .int .i64 (e.su : Int)]) := HCB.out.set 2 (.int .i64 (e.su : Int))
        have HR8 := Lib.hid (HR.out.tu (Tu.grown (grown_set wb wr.heap.size 2 (.int .i64 (e.su : Int)))) (fun x _ hx he => absurd (show x = wr.heap.size by simpa using he) (by have := hx.2; omega)))
        have HT8 := Lib.hid (HTB.out.trans (Tu.grown (grown_set wb wr.heap.size 2 (.int .i64 (e.su : Int)))) (fun x hx he => absurd (show x = wr.heap.size by simpa using he) (by have := HWS.out; omega)))
        clear HR HTB HCB
        go_upto_region 9 with fail
        generalize wb.setCell ⟨wr.heap.size, 2, none⟩ (.int .i64 (e.su : Int)) = w8 at *
        clear hb1 hb2 hz2
        have hb1 : w8.cell? ⟨wr.heap.size, 1, none⟩ = some (.string (str e.bs)) := by rw [HC8.out.cell]; rfl
        have hb2 : w8.cell? ⟨wr.heap.size, 2, none⟩ = some (.int .i64 (e.su : Int)) := by rw [HC8.out.cell]; rfl
        have hz1 := HC8.out.frozen 1
        have hcut := str_cut e.bs (e.su)
        have hmi : (e.su : Int) ≤ (e.bs.length : Int) := by omega
        have HC9 : Hid (Cells (w8.setCell ⟨wr.heap.size, 1, none⟩ (.string (str (e.bs.take (e.su))))) wr.heap.size 96 #[.string (str e.nm), .string (str (e.bs.take (e.su))), .int .i64 (e.su : Int)]) := HC8.out.set 1 (.string (str (e.bs.take (e.su))))
        have HR9 := Lib.hid (HR8.out.tu (Tu.grown (grown_set w8 wr.heap.size 1 (.string (str (e.bs.take (e.su)))))) (fun x _ hx he => absurd (show x = wr.heap.size by simpa using he) (by have := hx.2; omega)))
        have HT9 := Lib.hid (HT8.out.trans (Tu.grown (grown_set w8 wr.heap.size 1 (.string (str (e.bs.take (e.su)))))) (fun x hx he => absurd (show x = wr.heap.size by simpa using he) (by have := HWS.out; omega)))
        clear HR8 HT8
        go_upto_region 10 with fail
        generalize w8.setCell ⟨wr.heap.size, 1, none⟩ (.string (str (e.bs.take (e.su)))) = w9 at *
        clear hb1 hb2 hz1 hcut hmi
        have c1 := HR9.out.c1
        rw [HFL.out] at c1
        obtain ⟨gr2, eg, d0, d1, d2⟩ := HR9.out.row.at hk'
        injection eg with eg
        injection eg with eg
        subst eg
        have z0 := World.ownsRow.frozenAt HR9.out.row (k * 3)
        have z1 := World.ownsRow.frozenAt HR9.out.row (k * 3 + 1)
        have z2 := World.ownsRow.frozenAt HR9.out.row (k * 3 + 2)
        have hb0 : w9.cell? ⟨wr.heap.size, 0, none⟩ = some (.string (str e.nm)) := by rw [HC9.out.cell]; rfl
        have hb1 : w9.cell? ⟨wr.heap.size, 1, none⟩ = some (.string (str (e.bs.take (e.su)))) := by rw [HC9.out.cell]; rfl
        have hb2 : w9.cell? ⟨wr.heap.size, 2, none⟩ = some (.int .i64 (e.su : Int)) := by rw [HC9.out.cell]; rfl
        refine wp_region_till (S := fun w' => w' = w9.drew) (by kernel_rfl) ?_
        refine wpTill_take (i := 0) (v := ?va0) rfl (by kernel_rfl) (fun _ _ _ h => h) (Or.inl ⟨by rfl, ?hya0⟩) rfl ?resta0
        case hya0 => (intro W hW; (try dsimp only at hW); go_simp; try with_reducible rfl)
        simp only [Act.put, List.setIfInBounds_toArray, List.set_cons_zero, List.set_cons_succ]
        refine wpTill_take (i := 1) (v := ?va1) rfl (by kernel_rfl) (fun _ _ _ h => h) (Or.inl ⟨by rfl, ?hya1⟩) rfl ?resta1
        case hya1 => (intro W hW; (try dsimp only at hW); go_simp; try with_reducible rfl)
        simp only [Act.put, List.setIfInBounds_toArray, List.set_cons_zero, List.set_cons_succ]
        refine wpTill_take (i := 2) (v := ?va2) rfl (by kernel_rfl) (fun _ _ _ h => h) (Or.inl ⟨by rfl, ?hya2⟩) rfl ?resta2
        case hya2 => (intro W hW; (try dsimp only at hW); go_simp; try with_reducible rfl)
        simp only [Act.put, List.setIfInBounds_toArray, List.set_cons_zero, List.set_cons_succ]
        refine wpTill_take (i := 3) (v := ?va3) rfl (by kernel_rfl) (fun _ _ _ h => h) (Or.inl ⟨by rfl, ?hya3⟩) rfl ?resta3
        case hya3 => (intro W hW; (try dsimp only at hW); go_simp; try with_reducible rfl)
        simp only [Act.put, List.setIfInBounds_toArray, List.set_cons_zero, List.set_cons_succ]
        refine wpTill_take (i := 4) (v := ?va4) rfl (by kernel_rfl) (fun _ _ _ h => h) (Or.inl ⟨by rfl, ?hya4⟩) rfl ?resta4
        case hya4 => (intro W hW; (try dsimp only at hW); go_simp; try with_reducible rfl)
        simp only [Act.put, List.setIfInBounds_toArray, List.set_cons_zero, List.set_cons_succ]
        refine wpTill_take (i := 5) (v := ?va5) rfl (by kernel_rfl) (fun _ _ _ h => h) (Or.inl ⟨by rfl, ?hya5⟩) rfl ?resta5
        case hya5 => (intro W hW; (try dsimp only at hW); go_simp; try with_reducible rfl)
        simp only [Act.put, List.setIfInBounds_toArray, List.set_cons_zero, List.set_cons_succ]
        refine wpTill_take (i := 6) (v := ?va6) rfl (by kernel_rfl) (fun _ _ _ h => h) (Or.inl ⟨by rfl, ?hya6⟩) rfl ?resta6
        case hya6 => (intro W hW; (try dsimp only at hW); go_simp; try with_reducible rfl)
        simp only [Act.put, List.setIfInBounds_toArray, List.set_cons_zero, List.set_cons_succ]
        refine wpTill_run (i := 7) (by kernel_rfl) rfl rfl (fun K hK => ?_)
        go_simp
        refine hK _ _ ?_
        clear hK K
        refine wpTill_done (by kernel_rfl) ?_
        have HX := Lib.hid (HR9.out.set3 hk' ⟨e.nm, e.bs.take (e.su), e.su⟩ HG.out)
        have HT10 := Lib.hid (HT9.out.trans HX.out.2 (fun _ _ h => h.1))
        have hr10 := HX.out.1.tu (S' := fun _ => False) (Tu.refl _ _).draw (fun _ _ _ h => h)
        have HR10 : Hid (∃ F', F' = tears ks 0 (E.take (k + 1)) ++ E.drop (k + 1) ∧ RkC S _ g q (some ⟨gr, 0, none⟩) cap F') := ⟨_, HSET.out, hr10.blk, hr10.row, hr10.sg.1, fun x hx => (hr10.sr x hx).1, hr10.good⟩
        clear hr10 d0 d1 d2 z0 z1 z2 hb0 hb1 hb2 c1
        go_wp2
        go_round
        case rel => exact ⟨k + 1, by omega, by go_num, HR10.out, HT10.out.draw⟩
        case measure => simp [intOf]; omega
      · have hkp : 0 < kn := by have := List.length_pos_iff.2 hks; rw [HKN.out] at this; exact this
        obtain ⟨kq, hkq⟩ : ∃ kq : Nat, k % kn = kq := ⟨_, rfl⟩
        have hkq2 : kq < ks.length := by rw [HKN.out, ← hkq]; exact Nat.mod_lt _ hkp
        obtain ⟨b, o, rfl, hcell, hr1, hr2⟩ := HINTS.out kq hkq2
        have hn1 : numAt ks k = ks[kq]'hkq2 := by unfold numAt; rw [if_neg hks, HKN.out, hkq, List.getElem?_eq_getElem hkq2]; rfl
        rw [← hn1] at hcell
        have hrem : (k : Int) % (kn : Int) = (kq : Int) := by rw [← hkq]; rfl
        have hrem2 : (k : Int).tmod (kn : Int) = (kq : Int) := by rw [← hkq]; rfl
        obtain ⟨d, hd⟩ : ∃ d, e.bs.length - e.su = d := ⟨_, rfl⟩
        rw [hd] at hkk hkl2
        have RO : Hid (∀ (W : World) (n : Nat), Calls Tryz.prog 78 #[.int .i64 (numAt ks k), .int .i64 ((d : Int) + 1)] (W.drewN n) fun R w' => R = .returned (.int .i64 (kk : Int)) ∧ w' = W.drewN n) := fun W n => by
          have := round_c (numAt ks k) (d + 1) (W.drewN n) (by omega) (by omega)
          rw [hkk] at this
          simpa using this
        have hd2 : (e.bs.length : Int) - (e.su : Int) = (d : Int) := by omega
        obtain ⟨m, hm⟩ : ∃ m, e.su + kk = m := ⟨_, rfl⟩
        rw [hm] at HSET HG
        have hmle : m ≤ e.bs.length := by omega
        have hadd : (e.su : Int) + (kk : Int) = (m : Int) := by omega
        have hq2 : (kq : Int) < (kn : Int) := by rw [← HKN.out]; omega
        have hcb := HB0.out.cell (p := ⟨b, o + kq, none⟩) (World.block_lt_of_cell? wr _ hcell)
        rw [hcell] at hcb
        have y1 : (wr.alloc (.cells #[.string (str e.nm), .string (str e.bs), .int .i64 (e.su : Int)] 96)).cell? ⟨wr.heap.size, 1, none⟩ = some (.string (str e.bs)) := by rw [HCB.out.cell]; rfl
        have y2 : (wr.alloc (.cells #[.string (str e.nm), .string (str e.bs), .int .i64 (e.su : Int)] 96)).cell? ⟨wr.heap.size, 2, none⟩ = some (.int .i64 (e.su : Int)) := by rw [HCB.out.cell]; rfl
        clear hkk hks hn1 hkq hcell hd hm
        generalize numAt ks k = nu at *
        go_upto_region 7 with fail
        clear d0 d1 d2 c1
        generalize wr.alloc (.cells #[.string (str e.nm), .string (str e.bs), .int .i64 (e.su : Int)] 96) = wa at *
        go_quiet (first | (go_at_call 78; exact Calls.quiet_of_same (RO.out _ _)))
        have HCB2 := Lib.hid (HCB.out.below (below_drewN (Below.refl wa.heap.size wa) nq) HCB.out.lt)
        have HR2 := Lib.hid (HR.out.new (below_drewN (Below.refl wa.heap.size wa) nq))
        have HTB2 := Lib.hid (HTB.out.trans (Tu.drewN (S := S) wa nq) (fun _ _ h => h))
        clear HCB HR HTB HB0 hcb y1 y2 RO
        generalize wa.drewN nq = wb at *
        have HCB := HCB2
        have HR := HR2
        have HTB := HTB2
        clear HCB2 HR2 HTB2
        have hb1 : wb.cell? ⟨wr.heap.size, 1, none⟩ = some (.string (str e.bs)) := by rw [HCB.out.cell]; rfl
        have hb2 : wb.cell? ⟨wr.heap.size, 2, none⟩ = some (.int .i64 (e.su : Int)) := by rw [HCB.out.cell]; rfl
        have hz2 := HCB.out.frozen 2
        have HC8 : Hid (Cells (wb.setCell ⟨wr.heap.size, 2, none⟩ (.int .i64 (m : Int))) wr.heap.size 96 #[.string (str e.nm), .string (str e.bs), .int .i64 (m : Int)]) := HCB.out.set 2 (.int .i64 (m : Int))
        have HR8 := Lib.hid (HR.out.tu (Tu.grown (grown_set wb wr.heap.size 2 (.int .i64 (m : Int)))) (fun x _ hx he => absurd (show x = wr.heap.size by simpa using he) (by have := hx.2; omega)))
        have HT8 := Lib.hid (HTB.out.trans (Tu.grown (grown_set wb wr.heap.size 2 (.int .i64 (m : Int)))) (fun x hx he => absurd (show x = wr.heap.size by simpa using he) (by have := HWS.out; omega)))
        clear HR HTB HCB
        go_upto_region 9 with fail
        generalize wb.setCell ⟨wr.heap.size, 2, none⟩ (.int .i64 (m : Int)) = w8 at *
        clear hb1 hb2 hz2
        have hb1 : w8.cell? ⟨wr.heap.size, 1, none⟩ = some (.string (str e.bs)) := by rw [HC8.out.cell]; rfl
        have hb2 : w8.cell? ⟨wr.heap.size, 2, none⟩ = some (.int .i64 (m : Int)) := by rw [HC8.out.cell]; rfl
        have hz1 := HC8.out.frozen 1
        have hcut := str_cut e.bs (m)
        have hmi : (m : Int) ≤ (e.bs.length : Int) := by omega
        have HC9 : Hid (Cells (w8.setCell ⟨wr.heap.size, 1, none⟩ (.string (str (e.bs.take (m))))) wr.heap.size 96 #[.string (str e.nm), .string (str (e.bs.take (m))), .int .i64 (m : Int)]) := HC8.out.set 1 (.string (str (e.bs.take (m))))
        have HR9 := Lib.hid (HR8.out.tu (Tu.grown (grown_set w8 wr.heap.size 1 (.string (str (e.bs.take (m)))))) (fun x _ hx he => absurd (show x = wr.heap.size by simpa using he) (by have := hx.2; omega)))
        have HT9 := Lib.hid (HT8.out.trans (Tu.grown (grown_set w8 wr.heap.size 1 (.string (str (e.bs.take (m)))))) (fun x hx he => absurd (show x = wr.heap.size by simpa using he) (by have := HWS.out; omega)))
        clear HR8 HT8
        go_upto_region 10 with fail
        generalize w8.setCell ⟨wr.heap.size, 1, none⟩ (.string (str (e.bs.take (m)))) = w9 at *
        clear hb1 hb2 hz1 hcut hmi
        have c1 := HR9.out.c1
        rw [HFL.out] at c1
        obtain ⟨gr2, eg, d0, d1, d2⟩ := HR9.out.row.at hk'
        injection eg with eg
        injection eg with eg
        subst eg
        have z0 := World.ownsRow.frozenAt HR9.out.row (k * 3)
        have z1 := World.ownsRow.frozenAt HR9.out.row (k * 3 + 1)
        have z2 := World.ownsRow.frozenAt HR9.out.row (k * 3 + 2)
        have hb0 : w9.cell? ⟨wr.heap.size, 0, none⟩ = some (.string (str e.nm)) := by rw [HC9.out.cell]; rfl
        have hb1 : w9.cell? ⟨wr.heap.size, 1, none⟩ = some (.string (str (e.bs.take (m)))) := by rw [HC9.out.cell]; rfl
        have hb2 : w9.cell? ⟨wr.heap.size, 2, none⟩ = some (.int .i64 (m : Int)) := by rw [HC9.out.cell]; rfl
        refine wp_region_till (S := fun w' => w' = w9.drew) (by kernel_rfl) ?_
        refine wpTill_take (i := 0) (v := ?vb0) rfl (by kernel_rfl) (fun _ _ _ h => h) (Or.inl ⟨by rfl, ?hyb0⟩) rfl ?restb0
        case hyb0 => (intro W hW; (try dsimp only at hW); go_simp; try with_reducible rfl)
        simp only [Act.put, List.setIfInBounds_toArray, List.set_cons_zero, List.set_cons_succ]
        refine wpTill_take (i := 1) (v := ?vb1) rfl (by kernel_rfl) (fun _ _ _ h => h) (Or.inl ⟨by rfl, ?hyb1⟩) rfl ?restb1
        case hyb1 => (intro W hW; (try dsimp only at hW); go_simp; try with_reducible rfl)
        simp only [Act.put, List.setIfInBounds_toArray, List.set_cons_zero, List.set_cons_succ]
        refine wpTill_take (i := 2) (v := ?vb2) rfl (by kernel_rfl) (fun _ _ _ h => h) (Or.inl ⟨by rfl, ?hyb2⟩) rfl ?restb2
        case hyb2 => (intro W hW; (try dsimp only at hW); go_simp; try with_reducible rfl)
        simp only [Act.put, List.setIfInBounds_toArray, List.set_cons_zero, List.set_cons_succ]
        refine wpTill_take (i := 3) (v := ?vb3) rfl (by kernel_rfl) (fun _ _ _ h => h) (Or.inl ⟨by rfl, ?hyb3⟩) rfl ?restb3
        case hyb3 => (intro W hW; (try dsimp only at hW); go_simp; try with_reducible rfl)
        simp only [Act.put, List.setIfInBounds_toArray, List.set_cons_zero, List.set_cons_succ]
        refine wpTill_take (i := 4) (v := ?vb4) rfl (by kernel_rfl) (fun _ _ _ h => h) (Or.inl ⟨by rfl, ?hyb4⟩) rfl ?restb4
        case hyb4 => (intro W hW; (try dsimp only at hW); go_simp; try with_reducible rfl)
        simp only [Act.put, List.setIfInBounds_toArray, List.set_cons_zero, List.set_cons_succ]
        refine wpTill_take (i := 5) (v := ?vb5) rfl (by kernel_rfl) (fun _ _ _ h => h) (Or.inl ⟨by rfl, ?hyb5⟩) rfl ?restb5
        case hyb5 => (intro W hW; (try dsimp only at hW); go_simp; try with_reducible rfl)
        simp only [Act.put, List.setIfInBounds_toArray, List.set_cons_zero, List.set_cons_succ]
        refine wpTill_take (i := 6) (v := ?vb6) rfl (by kernel_rfl) (fun _ _ _ h => h) (Or.inl ⟨by rfl, ?hyb6⟩) rfl ?restb6
        case hyb6 => (intro W hW; (try dsimp only at hW); go_simp; try with_reducible rfl)
        simp only [Act.put, List.setIfInBounds_toArray, List.set_cons_zero, List.set_cons_succ]
        refine wpTill_run (i := 7) (by kernel_rfl) rfl rfl (fun K hK => ?_)
        go_simp
        refine hK _ _ ?_
        clear hK K
        refine wpTill_done (by kernel_rfl) ?_
        have HX := Lib.hid (HR9.out.set3 hk' ⟨e.nm, e.bs.take (m), m⟩ HG.out)
        have HT10 := Lib.hid (HT9.out.trans HX.out.2 (fun _ _ h => h.1))
        have hr10 := HX.out.1.tu (S' := fun _ => False) (Tu.refl _ _).draw (fun _ _ _ h => h)
        have HR10 : Hid (∃ F', F' = tears ks 0 (E.take (k + 1)) ++ E.drop (k + 1) ∧ RkC S _ g q (some ⟨gr, 0, none⟩) cap F') := ⟨_, HSET.out, hr10.blk, hr10.row, hr10.sg.1, fun x hx => (hr10.sr x hx).1, hr10.good⟩
        clear hr10 d0 d1 d2 z0 z1 z2 hb0 hb1 hb2 c1
        go_wp2
        go_round
        case rel => exact ⟨k + 1, by omega, by go_num, HR10.out, HT10.out.draw⟩
        case measure => simp [intOf]; omega
    · have hx : k = E.length := by omega
      have c1 := hr.c1
      have hfl : F.length = E.length := by rw [hF, List.length_append, tears_len, List.length_take, List.length_drop]; omega
      rw [hfl] at c1
      have i2 : ¬ (k : Int) < (E.length : Int) := by omega
      have HE : Hid (F = aCrash ks E) := by show _ = _; rw [hF, hx, List.take_length, List.drop_length, List.append_nil]; rfl
      have HR := Lib.hid hr
      clear hx hlt hk hF hfl hr
      go_wp2
      go_end0
      exact ⟨rfl, ⟨_, _, _, rfl, by rw [← HE.out]; exact HR.out⟩, HT.out⟩
end
end Go.Proofs.YthjhjbiihhpnfaaGreat
