/- Texts of the walk. -/
import Derived.Test.YtgeaacabpnepmaaGreatDoorAd8
import Derived.Test.YtgeaacabpnepmaaGreatDoorDn8
/- What turns a disk: put, Create, Remove, Rename, Sync. -/
namespace Go.Proofs.YtgeaacabpnepmaaGreatDoor
open Go.RowKit Go.Shelf
set_option linter.unusedVariables false
set_option linter.unusedSimpArgs false
set_option maxRecDepth 100000

theorem lite_c (n : List UInt8) (w : World) (hl : n.length ≤ 1000) : Calls Tryz.prog 303 #[.string (str n)] w fun e w' => e = .returned (.string (str n)) ∧ Below w.heap.size w w' :=
  AnyPu.stringslite_Clone (ρ := Tryz.cloneA_ren) Tryz.cloneA (str n) w (by rw [str_size]; omega)
theorem clone_c (n : List UInt8) (w : World) (hl : n.length ≤ 1000) : Calls Tryz.prog 274 #[.string (str n)] w fun e w' => e = .returned (.string (str n)) ∧ Below w.heap.size w w' := by
  go_enter Tryz.func274, Tryz.ntmps274
  go_wp2_with fail
  refine (lite_c n w hl).mono ?_
  rintro E w1 ⟨rfl, hb⟩
  go_wp2
  go_ret
  exact ⟨rfl, hb⟩
set_option maxHeartbeats 1000000 in
theorem dkput_c {gd m k : Nat} {fs : List Fil} (f : Fil) (q : Value) (w : World) (hb : Cells w gd 82 #[q, .map (some m)]) (hm : w.ownsMap Tryz.prog 9 DRf m k (dmap fs)) (hk : k < maxLen) (hn : f.nm.length ≤ 1000) :
    Calls Tryz.prog 236 #[.pointer (some ⟨gd, 0, none⟩), .string (str f.nm), .pointer (some ⟨f.g, 0, none⟩)] w fun E w' => E = .returned (.tuple #[]) ∧
      w'.ownsMap Tryz.prog 9 DRf m (insK Fil.nm f (delK Fil.nm f.nm fs)).length (dmap (insK Fil.nm f (delK Fil.nm f.nm fs))) ∧ Tu (fun x => x = m) w w' := by
  have lc : ∀ W, Below w.heap.size w W → W.cell? ⟨gd, 1, none⟩ = some (.map (some m)) := fun W hW => by rw [(hb.below hW hb.lt).cell]; rfl
  have UP : Hid (∀ W, Below w.heap.size w W → ∃ w', (Instr.mapUpdate 80 (.map (some m)) (.string (str f.nm)) (.pointer (some ⟨f.g, 0, none⟩))).run Tryz.prog W = .ok () w' ∧ w'.ownsMap Tryz.prog 9 DRf m (k + 1) (dmap (insK Fil.nm f (delK Fil.nm f.nm fs))) ∧ W.grownBy w' (some m)) := fun W hW => by
    have h1 : W.ownsMap Tryz.prog 9 DRf m k (dmap fs) := map_tu hm (S := fun _ => False) (.new hW) (fun h => h)
    have := h1.update key_str Tryz.underlying80 hk (key_of f.nm (by unfold maxLen; omega)) (d := .lit (.int .i64 f.g)) (ps := []) (val := .pointer (some ⟨f.g, 0, none⟩)) rfl
    rw [dat_put] at this
    exact this
  have CC : Hid (∀ W, Calls Tryz.prog 274 #[.string (str f.nm)] W fun e w' => e = .returned (.string (str f.nm)) ∧ Below W.heap.size W w') := fun W => clone_c f.nm W hn
  clear hb hm
  go_enter Tryz.func236, Tryz.ntmps236
  go_wp2_with fail
  have hs0 := (Below.refl w.heap.size w).drew
  generalize hwd : w.drew = wd at *
  refine wp_region_till (S := fun w' => Below w.heap.size w w') (by kernel_rfl) ?_
  rw [hwd]
  clear hwd
  refine wpTill_take (i := 0) (v := ?va0) rfl (by kernel_rfl) (fun _ _ _ h => h) (Or.inl ⟨by rfl, ?hya0⟩) hs0 ?resta0
  case hya0 => (intro W hW; (try dsimp only at hW); go_simp; try with_reducible rfl)
  simp only [Act.put, List.setIfInBounds_toArray, List.set_cons_zero, List.set_cons_succ]
  refine wpTill_take (i := 1) (v := ?va1) rfl (by kernel_rfl) (fun _ _ _ h => h) (Or.inl ⟨by rfl, ?hya1⟩) hs0 ?resta1
  case hya1 => (intro W hW; (try dsimp only at hW); go_simp; try with_reducible rfl)
  simp only [Act.put, List.setIfInBounds_toArray, List.set_cons_zero, List.set_cons_succ]
  refine wpTill_take (i := 2) (v := ?va2) rfl (by kernel_rfl) (fun _ _ _ h => h) (Or.inl ⟨by rfl, ?hya2⟩) hs0 ?resta2
  case hya2 => (intro W hW; (try dsimp only at hW); go_simp; try with_reducible rfl)
  simp only [Act.put, List.setIfInBounds_toArray, List.set_cons_zero, List.set_cons_succ]
  refine wpTill_take (i := 3) (v := ?va3) rfl (by kernel_rfl) (fun _ _ _ h => h) (Or.inl ⟨by rfl, ?hya3⟩) hs0 ?resta3
  case hya3 => (intro W hW; (try dsimp only at hW); go_simp; try with_reducible rfl)
  simp only [Act.put, List.setIfInBounds_toArray, List.set_cons_zero, List.set_cons_succ]
  refine wpTill_take (i := 4) (v := ?va4) rfl (by kernel_rfl) (fun _ _ _ h => h) (Or.inl ⟨by rfl, ?hya4⟩) hs0 ?resta4
  case hya4 => (intro W hW; (try dsimp only at hW); go_simp; try with_reducible rfl)
  simp only [Act.put, List.setIfInBounds_toArray, List.set_cons_zero, List.set_cons_succ]
  refine wpTill_take (i := 6) (v := ?va6) rfl (by kernel_rfl) (fun _ _ _ h => h) (Or.inl ⟨by rfl, ?hya6⟩) hs0 ?resta6
  case hya6 => (intro W hW; (try dsimp only at hW); go_simp; try with_reducible rfl)
  simp only [Act.put, List.setIfInBounds_toArray, List.set_cons_zero, List.set_cons_succ]
  refine wpTill_run (i := 5) (by kernel_rfl) rfl hs0 (fun K hK => ?_)
  go_simp
  go_at_call 274
  refine (CC.out wd).mono ?_
  rintro E w2 ⟨rfl, hb2⟩
  have hs2 := hs0.trans (hb2.mono hs0.size)
  refine hK _ _ ?_
  clear hK K
  obtain ⟨w3, hr, ho, hg⟩ := UP.out w2 hs2
  refine wpTill_run (i := 7) (by kernel_rfl) rfl hs2 (fun K hK => ?_)
  go_simp
  refine hK _ _ ?_
  clear hK K
  refine wpTill_done (by kernel_rfl) ?_
  have HO := Lib.hid ho
  clear hr ho
  go_wp2
  go_end0
  exact ⟨rfl, map_fit HO.out, (Tu.new hs2).trans (Tu.grown hg) (fun _ _ h => Option.some.inj h)⟩
theorem eCreate_ways (fs : List Fil) (n : List UInt8) :
    (isNm n = false ∧ eCreate (fs.map Fil.ent) n = 2 ∧ aCreate (fs.map Fil.ent) n = fs.map Fil.ent) ∨
    (∃ f, isNm n = true ∧ fndK Fil.nm n fs = some f ∧ eCreate (fs.map Fil.ent) n = 6 ∧ aCreate (fs.map Fil.ent) n = fs.map Fil.ent) ∨
    (isNm n = true ∧ fndK Fil.nm n fs = none ∧ 64 ≤ fs.length ∧ eCreate (fs.map Fil.ent) n = 7 ∧ aCreate (fs.map Fil.ent) n = fs.map Fil.ent) ∨
    (isNm n = true ∧ fndK Fil.nm n fs = none ∧ fs.length < 64 ∧ eCreate (fs.map Fil.ent) n = 0 ∧ aCreate (fs.map Fil.ent) n = insK Ent.nm ⟨n, [], 0⟩ (fs.map Fil.ent)) := by
  have key : ∀ e, eCreate (fs.map Fil.ent) n = e → aCreate (fs.map Fil.ent) n = if e = 0 then insK Ent.nm ⟨n, [], 0⟩ (fs.map Fil.ent) else fs.map Fil.ent := fun e he => by unfold aCreate; rw [he]
  cases hq : isNm n with
  | false => have he : eCreate (fs.map Fil.ent) n = 2 := by unfold eCreate; rw [hq]; rfl
             exact .inl ⟨rfl, he, key 2 he⟩
  | true =>
    right
    have hm := ent_map fs n
    cases hf : fndK Fil.nm n fs with
    | some f =>
      rw [hf] at hm
      have he : eCreate (fs.map Fil.ent) n = 6 := by unfold eCreate; rw [hq, hm]; rfl
      exact .inl ⟨f, rfl, rfl, he, key 6 he⟩
    | none =>
      rw [hf] at hm
      right
      by_cases hl : 64 ≤ fs.length
      · have he : eCreate (fs.map Fil.ent) n = 7 := by unfold eCreate; rw [hq, hm]; simp [hl]
        exact .inl ⟨rfl, rfl, hl, he, key 7 he⟩
      · have he : eCreate (fs.map Fil.ent) n = 0 := by unfold eCreate; rw [hq, hm]; simp; omega
        exact .inr ⟨rfl, rfl, by omega, he, key 0 he⟩
theorem len_map {gd m q : Nat} {fs : List Fil} {w : World} (h : Dj w gd m q fs) (ty : TypeId) : (Builtin.len_ #[80] ty #[.map (some m)]).run Tryz.prog w = .ok (.int .i64 (fs.length : Int)) w := by
  rw [← dat_size fs]
  exact h.map.len Tryz.underlying80 ty
set_option maxHeartbeats 1000000 in
theorem create_c {S : Nat → Prop} {v : Value} {q : Nat} {E : List Ent} (n : List UInt8) (w : World) (h : DkS S w v q E) (hS : ∀ x, w.heap.size ≤ x → S x) (hn : n.length ≤ maxLen) :
    Calls Tryz.prog 205 #[v, .string (str n)] w fun R w' => R = .returned (.int .i64 (eCreate E n)) ∧ DkS S w' v q (aCreate E n) ∧ Tu S w w' := by
  obtain ⟨gd, m, fs, rfl, hd, rfl, hF⟩ := h
  have hb := below_alloc w (.cells #[.string (str n)] 9)
  have hd1 := hd.new hb
  have hc := dcheck_c 1 [n] _ hd1 (nms_one w n hn) (by simp)
  have hl := look_c hd1.toDj n hn
  have hlen := len_map hd1.toDj
  have c1 : (w.alloc (.cells #[.string (str n)] 9)).cell? ⟨gd, 1, none⟩ = some (.map (some m)) := by rw [hd1.blk.cell]; rfl
  rw [chk_one] at hc
  have HD := Lib.hid hd1
  have HB := Lib.hid hb
  have HK : Hid (DkS S (w.alloc (.cells #[.string (str n)] 9)) (.pointer (some ⟨gd, 0, none⟩)) q (fs.map Fil.ent)) := ⟨gd, m, fs, rfl, hd1, rfl, hF⟩
  have HG := Lib.hid (good_create hd.good n)
  have HLT := Lib.hid (fun x hx => hd.lt (x := x) hx)
  clear hd1 hb hd
  obtain ⟨w1, hw1⟩ : ∃ w1, w.alloc (.cells #[.string (str n)] 9) = w1 := ⟨_, rfl⟩
  rw [hw1] at hc hl hlen c1 HD HB HK
  rcases eCreate_ways fs n with ⟨h1, h2, h3⟩ | ⟨f, h1, h2, h3, h4⟩ | ⟨h1, h2, h3, h4, h5⟩ | ⟨h1, h2, h3, h4, h5⟩
  · rw [h1] at hc
    rw [h2, h3]
    simp only [Bool.false_eq_true, ite_false] at hc
    clear h1 h2 h3 hlen hl
    go_enter Tryz.func205, Tryz.ntmps205
    go_wp2_with fail
    refine hc.mono ?_
    rintro E w2 ⟨rfl, rfl⟩
    go_wp2
    go_ret
    exact ⟨rfl, HK.out, .new HB.out⟩
  · rw [h1] at hc
    rw [h3, h4]
    rw [h2] at hl
    simp only [ite_true, Option.map_some] at hc hl
    clear h1 h2 h3 h4 hlen
    go_enter Tryz.func205, Tryz.ntmps205
    go_wp2_with fail
    refine hc.mono ?_
    rintro E w2 ⟨rfl, rfl⟩
    go_wp2
    go_ret
    exact ⟨rfl, HK.out, .new HB.out⟩
  · rw [h1] at hc
    rw [h4, h5]
    rw [h2] at hl
    simp only [ite_true, Option.map_none] at hc hl
    clear h1 h2 h4 h5
    go_enter Tryz.func205, Tryz.ntmps205
    go_wp2_with fail
    refine hc.mono ?_
    rintro E w2 ⟨rfl, rfl⟩
    go_wp2
    go_ret
    exact ⟨rfl, HK.out, .new HB.out⟩
  · rw [h1] at hc
    rw [h5] at HG
    rw [h4, h5]
    have hl0 := hl
    rw [h2] at hl
    simp only [ite_true, Option.map_none] at hc hl
    have hnl := isNm_len h1
    have H2 := Lib.hid h2
    clear h1 h2 h4 h5 hl0
    obtain ⟨w2, hw2⟩ : ∃ w2, w1.alloc (.cells #[.slice none 0 0, .int .i64 0] 183) = w2 := ⟨_, rfl⟩
    have hb2 := below_alloc w1 (.cells #[.slice none 0 0, .int .i64 0] 183)
    have hfile := Cells.made w1 183 #[.slice none 0 0, .int .i64 0]
    rw [hw2] at hb2 hfile
    have hd2 := HD.out.new hb2
    have hput := dkput_c ⟨n, w1.heap.size, none, 0, [], 0⟩ (.int .i64 q) w2 hd2.blk hd2.map (by unfold maxLen; omega) (by simp only; omega)
    dsimp only at hput
    have HD2 := Lib.hid hd2
    have HB2 := Lib.hid hb2
    have HFI := Lib.hid hfile
    clear hb2 hfile hd2
    go_enter Tryz.func205, Tryz.ntmps205
    go_wp2_with fail
    refine hc.mono ?_
    rintro E w3 ⟨rfl, rfl⟩
    go_wp2_with fail
    refine hput.mono ?_
    rintro E w3 ⟨rfl, hm3, ht3⟩
    have HM3 := Lib.hid hm3
    clear hm3 hput
    go_wp2
    go_ret
    have hml := HD.out.map.lt
    have hd2 := HD2.out
    have hf3 : FilAt w3 ⟨n, w1.heap.size, none, 0, [], 0⟩ := ⟨HFI.out.tu ht3 (by omega), World.ownsRow_nil _ _ _ _⟩
    have hinn : ∀ y, Fil.inn ⟨n, w1.heap.size, none, 0, [], 0⟩ y → y = w1.heap.size := by
      rintro y (e | e)
      · exact e
      · cases e
    have hj := hd2.toDj.put (f := ⟨n, w1.heap.size, none, 0, [], 0⟩) ht3 HM3.out hf3 (fun x hx _ y hy hyx => by
      have h1 := hinn y hy
      have h2 := (HD.out.fil x hx).lt hyx
      omega)
    rw [delK_none H2.out] at hj
    have hE : (insK Fil.nm ⟨n, w1.heap.size, none, 0, [], 0⟩ fs).map Fil.ent = insK Ent.nm ⟨n, [], 0⟩ (fs.map Fil.ent) := insK_map (k := Fil.nm) (k' := Ent.nm) Fil.ent (fun _ => rfl) _ _
    refine ⟨rfl, ⟨gd, m, _, rfl, ⟨hj, by rw [hE]; exact HG.out⟩, hE, ?_⟩, ?_⟩
    · rintro x (e | e | ⟨f, hf, hx⟩)
      · exact hF x (.inl e)
      · exact hF x (.inr (.inl e))
      · rcases insK_mem.1 hf with rfl | hf
        · have := hinn x hx
          have := HB.out.size
          exact hS x (by omega)
        · exact hF x (.inr (.inr ⟨f, hf, hx⟩))
    · exact ((Tu.new (S := S) HB.out).trans (Tu.new (S := S) HB2.out) (fun _ _ h => h)).trans ht3 (fun x _ e => e ▸ hF m (.inr (.inl rfl)))
theorem DkS.at {S T : Nat → Prop} {w' : World} {gd m q : Nat} {fs : List Fil} {E' : List Ent} (h : ∃ fs', Dk w' gd m q fs' ∧ fs'.map Fil.ent = E' ∧ ∀ x, Foot gd m fs' x → Foot gd m fs x ∨ T x)
    (hF : ∀ x, Foot gd m fs x → S x) (hS : ∀ x, T x → S x) : DkS S w' (.pointer (some ⟨gd, 0, none⟩)) q E' := by
  obtain ⟨fs', h1, h2, h3⟩ := h
  exact ⟨gd, m, fs', rfl, h1, h2, fun x hx => (h3 x hx).elim (hF x) (hS x)⟩
theorem aSync_some {fs : List Fil} {n : List UInt8} {f : Fil} (h0 : isNm n = true) (h : fnd n (fs.map Fil.ent) = some f.ent) : aSync (fs.map Fil.ent) n = setE ⟨f.nm, f.bs, f.bs.length⟩ (fs.map Fil.ent) := by
  unfold aSync
  rw [h0, h]; rfl
theorem sync_c {S : Nat → Prop} {v : Value} {q : Nat} {E : List Ent} (n : List UInt8) (w : World) (h : DkS S w v q E) (hn : n.length ≤ maxLen) :
    Calls Tryz.prog 109 #[v, .string (str n)] w fun R w' => R = .returned (.int .i64 (eFind E n)) ∧ DkS S w' v q (aSync E n) ∧ Tu S w w' := by
  have HK := Lib.hid h
  obtain ⟨gd, m, fs, rfl, hd, rfl, hF⟩ := h
  have hc := find_c n w hd hn
  have HG := Lib.hid (good_sync hd.good n)
  rcases ways fs rfl n with ⟨h1, h2, _, _, h3, _⟩ | ⟨h1, h2, _, h3, _, _, h4⟩ | ⟨f, h1, h2, h3, h4, _⟩
  · rw [find_two fs n h1, h2] at hc
    rw [h2, h3]
    clear hd h1 h2 h3
    go_enter Tryz.func109, Tryz.ntmps109
    go_wp2_with fail
    refine hc.mono ?_
    rintro E w1 ⟨rfl, hb⟩
    go_wp2
    go_ret
    exact ⟨rfl, HK.out.new hb, .new hb⟩
  · rw [find_five h1 h2, h3] at hc
    rw [h3, h4]
    clear hd h1 h2 h3 h4
    go_enter Tryz.func109, Tryz.ntmps109
    go_wp2_with fail
    refine hc.mono ?_
    rintro E w1 ⟨rfl, hb⟩
    go_wp2
    go_ret
    exact ⟨rfl, HK.out.new hb, .new hb⟩
  · rw [find_zero h1 h2, h4] at hc
    rw [aSync_some h1 h3] at HG ⊢
    rw [h4]
    have H2 := Lib.hid h2
    have HD := Lib.hid hd
    clear hd h1 h2 h3 h4
    go_enter Tryz.func109, Tryz.ntmps109
    go_wp2_with fail
    refine hc.mono ?_
    rintro E w1 ⟨rfl, hb⟩
    have hd1 := HD.out.new hb
    have hf := hd1.fil f (fndK_some H2.out).1
    have c0 : w1.cell? ⟨f.g, 0, none⟩ = some (.slice f.ao f.bs.length f.cap) := by rw [hf.blk.cell]; rfl
    have c1 : w1.cell? ⟨f.g, 1, none⟩ = some (.int .i64 f.su) := by rw [hf.blk.cell]; rfl
    have f1 := hf.blk.frozen 1
    have HD1 := Lib.hid hd1
    have HF := Lib.hid hf
    clear hd1 hf
    go_wp2
    go_ret
    have hg := grown_set w1 f.g 1 (.int .i64 (f.bs.length : Int))
    have hblk : Cells (w1.setCell ⟨f.g, 1, none⟩ (.int .i64 (f.bs.length : Int))) f.g 183 #[.slice f.ao f.bs.length f.cap, .int .i64 (f.bs.length : Int)] := HF.out.blk.set 1 _
    have hrow := HF.out.row.kept hg (.inr HF.out.ne)
    have ht := Tu.grown hg
    refine ⟨rfl, DkS.at (HD1.out.turnAt (f' := ⟨f.nm, f.g, f.ao, f.cap, f.bs, f.bs.length⟩) H2.out (ht.mono fun x _ e => .inl (Option.some.inj e)) ⟨hblk, hrow⟩ rfl rfl (fun x hx => .inl hx) HG.out) hF ?_, ?_⟩
    · exact fun x hx => hF x (.inr (.inr ⟨f, (fndK_some H2.out).1, hx⟩))
    · exact (Tu.new hb).trans ht (fun x _ e => hF x (.inr (.inr ⟨f, (fndK_some H2.out).1, .inl (Option.some.inj e)⟩)))
theorem del_run {gd m q : Nat} {fs : List Fil} {w : World} (h : Dj w gd m q fs) (n : List UInt8) (hn : n.length ≤ maxLen) (ty : TypeId) :
    ∃ w', (Builtin.delete_ #[80, 9] ty #[.map (some m), .string (str n)]).run Tryz.prog w = .ok (.tuple #[]) w' ∧ Dj w' gd m q (delK Fil.nm n fs) ∧ Tu (fun x => x = m) w w' := by
  obtain ⟨w', hr, ho, ht⟩ := h.map.drop key_str Tryz.underlying80 (key_of n hn) ty
  rw [dat_del] at ho
  have htu : Tu (fun x => x = m) w w' := (Tu.grown ht.grown).mono fun x _ e => Option.some.inj e
  exact ⟨w', hr, h.less htu (map_fit ho) List.filter_sublist, htu⟩
theorem del_ent (fs : List Fil) (n : List UInt8) : (delK Fil.nm n fs).map Fil.ent = delK Ent.nm n (fs.map Fil.ent) := delK_map (k := Fil.nm) (k' := Ent.nm) Fil.ent (fun _ => rfl) n fs
theorem aRemove_eq {E : List Ent} {n : List UInt8} (h0 : isNm n = true) : aRemove E n = delK Ent.nm n E := by unfold aRemove; rw [h0]; rfl
theorem remove_c {S : Nat → Prop} {v : Value} {q : Nat} {E : List Ent} (n : List UInt8) (w : World) (h : DkS S w v q E) (hn : n.length ≤ maxLen) :
    Calls Tryz.prog 176 #[v, .string (str n)] w fun R w' => R = .returned (.int .i64 (eFind E n)) ∧ DkS S w' v q (aRemove E n) ∧ Tu S w w' := by
  have HK := Lib.hid h
  obtain ⟨gd, m, fs, rfl, hd, rfl, hF⟩ := h
  have hc := find_c n w hd hn
  have HG := Lib.hid (good_remove hd.good n)
  rcases ways fs rfl n with ⟨h1, h2, _, _, _, h3⟩ | ⟨h1, h2, h4, h3, _⟩ | ⟨f, h1, h2, _, h3, _⟩
  · rw [find_two fs n h1, h2] at hc
    rw [h2, h3]
    clear hd h1 h2 h3
    go_enter Tryz.func176, Tryz.ntmps176
    go_wp2_with fail
    refine hc.mono ?_
    rintro E w1 ⟨rfl, hb⟩
    go_wp2
    go_ret
    exact ⟨rfl, HK.out.new hb, .new hb⟩
  · rw [find_five h1 h2, h3] at hc
    rw [h3, aRemove_eq h1, delK_none h4]
    clear hd h1 h2 h3 h4
    go_enter Tryz.func176, Tryz.ntmps176
    go_wp2_with fail
    refine hc.mono ?_
    rintro E w1 ⟨rfl, hb⟩
    go_wp2
    go_ret
    exact ⟨rfl, HK.out.new hb, .new hb⟩
  · rw [find_zero h1 h2, h3] at hc
    rw [aRemove_eq h1] at HG ⊢
    rw [h3]
    have HD := Lib.hid hd
    clear hd h1 h2 h3
    go_enter Tryz.func176, Tryz.ntmps176
    go_wp2_with fail
    refine hc.mono ?_
    rintro E w1 ⟨rfl, hb⟩
    have hd1 := HD.out.new hb
    have c1 : w1.cell? ⟨gd, 1, none⟩ = some (.map (some m)) := by rw [hd1.blk.cell]; rfl
    obtain ⟨w2, hr, hj, ht⟩ := del_run hd1.toDj n hn 0
    have HJ := Lib.hid hj
    clear hd1 hj
    go_wp2
    go_ret
    refine ⟨rfl, ⟨gd, m, _, rfl, ⟨HJ.out, by rw [del_ent]; exact HG.out⟩, del_ent fs n, ?_⟩, (Tu.new hb).trans ht (fun x _ e => e ▸ hF m (.inr (.inl rfl)))⟩
    rintro x (e | e | ⟨f, hf, hx⟩)
    · exact hF x (.inl e)
    · exact hF x (.inr (.inl e))
    · exact hF x (.inr (.inr ⟨f, (delK_mem.1 hf).1, hx⟩))
theorem chk_two (a b : List UInt8) : dchk [a, b] = if isNm a && isNm b then 0 else 2 := by simp [dchk]
theorem eRename_ways (fs : List Fil) (a b : List UInt8) :
    ((isNm a && isNm b) = false ∧ eRename (fs.map Fil.ent) a b = 2 ∧ aRename (fs.map Fil.ent) a b = fs.map Fil.ent) ∨
    ((isNm a && isNm b) = true ∧ fndK Fil.nm a fs = none ∧ eRename (fs.map Fil.ent) a b = 5 ∧ aRename (fs.map Fil.ent) a b = fs.map Fil.ent) ∨
    (∃ f, (isNm a && isNm b) = true ∧ fndK Fil.nm a fs = some f ∧ eRename (fs.map Fil.ent) a b = 0 ∧ aRename (fs.map Fil.ent) a b = insK Ent.nm ⟨b, f.bs, f.su⟩ (delK Ent.nm b (delK Ent.nm a (fs.map Fil.ent)))) := by
  cases hq : isNm a && isNm b with
  | false => left; simp only [eRename, aRename, hq]; simp
  | true =>
    right
    have hm := ent_map fs a
    cases hf : fndK Fil.nm a fs with
    | none => rw [hf] at hm; left; simp [eRename, aRename, hq, hm]
    | some f => rw [hf] at hm; right; exact ⟨f, rfl, rfl, by simp [eRename, hq, hm], by simp only [aRename, hq, hm]; rfl⟩
set_option maxHeartbeats 1000000 in
theorem rename_c {S : Nat → Prop} {v : Value} {q : Nat} {E : List Ent} (a b : List UInt8) (w : World) (h : DkS S w v q E) (ha : a.length ≤ maxLen) (hb : b.length ≤ maxLen) :
    Calls Tryz.prog 240 #[v, .string (str a), .string (str b)] w fun R w' => R = .returned (.int .i64 (eRename E a b)) ∧ DkS S w' v q (aRename E a b) ∧ Tu S w w' := by
  have HKK := Lib.hid h
  obtain ⟨gd, m, fs, rfl, hd, rfl, hF⟩ := h
  have hbw := below_alloc w (.cells #[.string (str a), .string (str b)] 9)
  have hd1 := hd.new hbw
  have hc := dcheck_c 2 [a, b] _ hd1 (nms_two w a b ha hb) (by simp)
  have hl := look_c hd1.toDj a ha
  have c1 : (w.alloc (.cells #[.string (str a), .string (str b)] 9)).cell? ⟨gd, 1, none⟩ = some (.map (some m)) := by rw [hd1.blk.cell]; rfl
  rw [chk_two] at hc
  have HD := Lib.hid hd1
  have HB := Lib.hid hbw
  have HK := Lib.hid (HKK.out.new hbw)
  have HG := Lib.hid (good_rename hd.good a b)
  clear hd1 hbw hd
  obtain ⟨w1, hw1⟩ : ∃ w1, w.alloc (.cells #[.string (str a), .string (str b)] 9) = w1 := ⟨_, rfl⟩
  rw [hw1] at hc hl c1 HD HB HK
  rcases eRename_ways fs a b with ⟨h1, h2, h3⟩ | ⟨h1, h2, h3, h4⟩ | ⟨f, h1, h2, h3, h4⟩
  · rw [h1] at hc
    rw [h2, h3]
    simp only [Bool.false_eq_true, ite_false] at hc
    clear h1 h2 h3 hl
    go_enter Tryz.func240, Tryz.ntmps240
    go_wp2_with fail
    refine hc.mono ?_
    rintro E w2 ⟨rfl, rfl⟩
    go_wp2
    go_ret
    exact ⟨rfl, HK.out, .new HB.out⟩
  · rw [h1] at hc
    rw [h3, h4]
    rw [h2] at hl
    simp only [ite_true, Option.map_none] at hc hl
    clear h1 h2 h3 h4
    go_enter Tryz.func240, Tryz.ntmps240
    go_wp2_with fail
    refine hc.mono ?_
    rintro E w2 ⟨rfl, rfl⟩
    go_wp2
    go_ret
    exact ⟨rfl, HK.out, .new HB.out⟩
  · have hnb : b.length ≤ 1000 := by
      simp only [Bool.and_eq_true] at h1
      exact Nat.le_trans (isNm_len h1.2) (by decide)
    rw [h1] at hc
    rw [h4] at HG
    rw [h3, h4]
    have H2 := Lib.hid h2
    rw [h2] at hl
    simp only [ite_true, Option.map_some] at hc hl
    clear h1 h2 h3 h4
    obtain ⟨w2, hr, hj, ht⟩ := del_run HD.out.toDj a ha 0
    have hput := dkput_c ⟨b, f.g, f.ao, f.cap, f.bs, f.su⟩ (.int .i64 q) w2 hj.blk hj.map (by have := HD.out.names.1; have := List.length_filter_le (fun x => !(Fil.nm x == a)) fs; unfold maxLen delK; omega) hnb
    dsimp only at hput
    have c2 : w2.cell? ⟨gd, 1, none⟩ = some (.map (some m)) := by rw [hj.blk.cell]; rfl
    have HJ := Lib.hid hj
    have HT := Lib.hid ht
    clear hj ht
    go_enter Tryz.func240, Tryz.ntmps240
    go_wp2_with fail
    refine hc.mono ?_
    rintro E w3 ⟨rfl, rfl⟩
    go_wp2_with fail
    refine hput.mono ?_
    rintro E w3 ⟨rfl, hm3, ht3⟩
    have HM3 := Lib.hid hm3
    clear hm3 hput
    go_wp2
    go_ret
    obtain ⟨A, B, hfs, hdel, _, _⟩ := fndK_parts HD.out.srt H2.out
    have hfm := (fndK_some H2.out).1
    have hf := HD.out.fil f hfm
    have hmf : ∀ x, f.inn x → ¬ x = m := fun x hx e => HD.out.m_fil hfm (e ▸ hx)
    have hf3 : FilAt w3 ⟨b, f.g, f.ao, f.cap, f.bs, f.su⟩ := by
      have := (hf.tu HT.out hmf).tu ht3 hmf
      exact ⟨this.blk, this.row⟩
    have hjj := HJ.out.put (f := ⟨b, f.g, f.ao, f.cap, f.bs, f.su⟩) ht3 HM3.out hf3 (fun x hx _ y hy hyx => by
      have hap := HD.out.apart
      rw [hfs] at hap
      have hap1 := List.pairwise_append.1 hap
      rw [hdel] at hx
      rcases List.mem_append.1 hx with hx | hx
      · exact hap1.2.2 x hx f (by simp) y hyx hy
      · exact (List.pairwise_cons.1 hap1.2.1).1 x hx y hy hyx)
    have hE : (insK Fil.nm ⟨b, f.g, f.ao, f.cap, f.bs, f.su⟩ (delK Fil.nm b (delK Fil.nm a fs))).map Fil.ent = insK Ent.nm ⟨b, f.bs, f.su⟩ (delK Ent.nm b (delK Ent.nm a (fs.map Fil.ent))) := by
      rw [insK_map (k := Fil.nm) (k' := Ent.nm) Fil.ent (fun _ => rfl), del_ent, del_ent]; rfl
    have hmS := hF m (.inr (.inl rfl))
    refine ⟨rfl, ⟨gd, m, _, rfl, ⟨hjj, by rw [hE]; exact HG.out⟩, hE, ?_⟩, ((Tu.new HB.out).trans HT.out (fun x _ e => e ▸ hmS)).trans ht3 (fun x _ e => e ▸ hmS)⟩
    rintro x (e | e | ⟨y, hy, hx⟩)
    · exact hF x (.inl e)
    · exact hF x (.inr (.inl e))
    · rcases insK_mem.1 hy with rfl | hy
      · exact hF x (.inr (.inr ⟨f, hfm, hx⟩))
      · exact hF x (.inr (.inr ⟨y, (delK_mem.1 (delK_mem.1 hy).1).1, hx⟩))
end Go.Proofs.YtgeaacabpnepmaaGreatDoor
