/- Texts of the walk. -/
import Derived.Test.YtgeaacabpnepmaaGreatDoorDf8
/- Append. -/
namespace Go.Proofs.YtgeaacabpnepmaaGreatDoor
open Go.RowKit Go.Shelf
set_option linter.unusedVariables false
set_option linter.unusedSimpArgs false
set_option maxRecDepth 100000

theorem dinfo_by : (Tryz.prog.info? 5).map (fun i => (i.zero, i.size, i.bytes)) = some (some (.int .u8 0), 1, 1) := by kernel_rfl
theorem app_str {w : World} {ao : Option Addr} {n cap : Nat} {bs : List UInt8} (hown : w.ownsRow 0 5 1 (.slice ao n cap) n (bvs bs)) (s : List UInt8) (hlen : n + s.length ≤ 100000000) (ty : TypeId) :
    ∃ ao' cap' w', (Builtin.append_ #[181, 9] ty #[.slice ao n cap, .string (str s)]).run Tryz.prog w = .ok (.slice ao' (n + s.length) cap') w' ∧ w'.ownsRow 0 5 1 (.slice ao' (n + s.length) cap') (n + s.length) (bvs (bs ++ s)) ∧
      w.grownBy w' (Value.slice ao n cap).ownBlock ∧ ∀ x, (Value.slice ao' (n + s.length) cap').ownBlock = some x → (Value.slice ao n cap).ownBlock = some x ∨ w.heap.size ≤ x := by
  obtain ⟨i0, hi, hz0, hz1, hz2⟩ := info_parts dinfo_by
  have hsz := str_size s
  have gen : ∀ base, w.ownsRow base 5 1 (.slice ao n cap) n (bvs bs) → base ≤ w.heap.size → ∃ v' w', (Builtin.append_ #[181, 9] ty #[.slice ao n cap, .string (str s)]).run Tryz.prog w = .ok v' w' ∧ w'.ownsRow base 5 1 v' (n + s.length) (bvs (bs ++ s)) ∧ w.grownBy w' (Value.slice ao n cap).ownBlock := fun base hb hbs => by
    obtain ⟨v', w', h1, h2, h3, _⟩ := Lib.run_append_own_string (P := Tryz.prog) w base 181 9 ty 5 i0 Tryz.underlying181 Tryz.underlying9 hi hz0 hz1 hz2 (.slice ao n cap) n (bvs bs) hb (str s) (by rw [hsz]; unfold maxLen; omega) (by rw [hsz]; omega) hbs
    rw [hsz] at h2
    exact ⟨v', w', h1, by rw [bvs_append, ← bvs_str s]; exact h2, h3⟩
  rcases hown.2 with ⟨he, h0⟩ | ⟨g, cap2, cur, he, _, hg, hnc, hcm, hcs, htk⟩
  · obtain ⟨v', w', h1, h2, h3⟩ := gen w.heap.size ⟨hown.1, .inl ⟨he, h0⟩⟩ (Nat.le_refl _)
    obtain ⟨ao', cap', rfl, _⟩ := row_form h2
    exact ⟨ao', cap', w', h1, ownsRow_base_a h2 (Nat.zero_le _), h3, fun x hx => .inr (h2.lt x hx).1⟩
  · obtain ⟨v', w', h1, h2, h3⟩ := gen 0 hown (Nat.zero_le _)
    obtain ⟨ao', cap', rfl, _⟩ := row_form h2
    refine ⟨ao', cap', w', h1, h2, h3, ?_⟩
    injection he with e1 e2 e3
    subst e1 e3
    by_cases hroom : n + s.length ≤ cap
    · have hr := Lib.run_append_room_string (P := Tryz.prog) w 181 9 ty 5 i0 Tryz.underlying181 Tryz.underlying9 hi hz1 g n cap cur hg (str s) (by rw [hsz]; exact hroom) (by rw [hsz]; omega)
      rw [h1] at hr
      injection hr with hv hw
      injection hv with e1
      intro x hx
      rw [e1] at hx
      exact .inl hx
    · have hxl : (bvs bs).length = n := by have := hown.1; omega
      have hr := Lib.run_append_grow_string (P := Tryz.prog) w 181 9 ty 5 i0 (.int .u8 0) Tryz.underlying181 Tryz.underlying9 hi hz0 ⟨g, 0, none⟩ n cap (bvs bs) (by rw [hz1, hxl, Nat.mul_one]) (hown.cells (g := g) rfl) (str s) (by rw [hsz]; omega) (by rw [hsz]; omega) (by rw [hsz, hz2]; exact growslice_fits (by omega) (by omega))
      rw [h1] at hr
      injection hr with hv hw
      injection hv with e1
      intro x hx
      rw [e1] at hx
      have : w.heap.size = x := by simpa [Value.ownBlock] using hx
      exact .inr (by omega)
theorem wpList_app {P : Program} {w w' : World} {ops : Array Oper} {rest : List Oper} {o : Oper} {a : Act} {Q : Exit → Act → World → Prop} (hgd : o.guard = none) (sl x : Operand) (t u : TypeId)
    (ho : o.op = .call { callee := .builtin .append, args := #[sl, x], argTypes := #[t, u] }) (v y r : Value) (hs : a.eval sl = v) (hx : a.eval x = y) (hr : (Builtin.append_ #[t, u] o.type #[v, y]).run P w = .ok r w')
    (h : wpList P ops Q rest (a.put o.dst r) w') : wpList P ops Q (o :: rest) a w := by
  refine wpList_plain hgd fun K hK => ?_
  unfold Oper.wp execOp
  simp only [ho, resolve, invoke, builtin, Sem.run_bind, Sem.run_pure, Result.andThen_ok, List.map_toArray, List.map_cons, List.map_nil, hs, hx, hr]
  exact hK _ _ h
theorem eAppend_ways (q : Nat) (fs : List Fil) (n b : List UInt8) :
    (isNm n = false ∧ eAppend q (fs.map Fil.ent) n b = 2 ∧ aAppend q (fs.map Fil.ent) n b = fs.map Fil.ent) ∨
    (isNm n = true ∧ fndK Fil.nm n fs = none ∧ eAppend q (fs.map Fil.ent) n b = 5 ∧ aAppend q (fs.map Fil.ent) n b = fs.map Fil.ent) ∨
    (∃ f, isNm n = true ∧ fndK Fil.nm n fs = some f ∧ (65536 < f.bs.length + b.length ∨ q < used (fs.map Fil.ent) + b.length) ∧ eAppend q (fs.map Fil.ent) n b = 7 ∧ aAppend q (fs.map Fil.ent) n b = fs.map Fil.ent) ∨
    (∃ f, isNm n = true ∧ fndK Fil.nm n fs = some f ∧ ¬ (65536 < f.bs.length + b.length ∨ q < used (fs.map Fil.ent) + b.length) ∧ eAppend q (fs.map Fil.ent) n b = 0 ∧ aAppend q (fs.map Fil.ent) n b = setE ⟨f.nm, f.bs ++ b, f.su⟩ (fs.map Fil.ent)) := by
  have key : ∀ e, eAppend q (fs.map Fil.ent) n b = e → aAppend q (fs.map Fil.ent) n b = if e = 0 then (match fnd n (fs.map Fil.ent) with | some f => setE ⟨f.nm, f.bs ++ b, f.su⟩ (fs.map Fil.ent) | none => fs.map Fil.ent) else fs.map Fil.ent := fun e he => by unfold aAppend; rw [he]; rfl
  cases hq : isNm n with
  | false => have he : eAppend q (fs.map Fil.ent) n b = 2 := by unfold eAppend; rw [hq]; rfl
             exact .inl ⟨rfl, he, key 2 he⟩
  | true =>
    right
    have hm := ent_map fs n
    cases hf : fndK Fil.nm n fs with
    | none =>
      rw [hf] at hm
      have he : eAppend q (fs.map Fil.ent) n b = 5 := by unfold eAppend; rw [hq, hm]; rfl
      exact .inl ⟨rfl, rfl, he, key 5 he⟩
    | some f =>
      rw [hf] at hm
      right
      by_cases hl : 65536 < f.bs.length + b.length ∨ q < used (fs.map Fil.ent) + b.length
      · have he : eAppend q (fs.map Fil.ent) n b = 7 := by unfold eAppend; rw [hq, hm]; simp only [Option.map_some, ite_true]; exact if_pos hl
        exact .inl ⟨f, rfl, rfl, hl, he, key 7 he⟩
      · have he : eAppend q (fs.map Fil.ent) n b = 0 := by unfold eAppend; rw [hq, hm]; simp only [Option.map_some, ite_true]; exact if_neg hl
        refine .inr ⟨f, rfl, rfl, hl, he, ?_⟩
        rw [key 0 he, hm]; rfl
theorem room_int (l u q b : Nat) (hl : l ≤ 65536) (hq : q ≤ 1048576) (hu : u ≤ q) : IntKind.i64.wrap (65536 - (l : Int)) = ((65536 - l : Nat) : Int) ∧ IntKind.i64.wrap ((q : Int) - (u : Int)) = ((q - u : Nat) : Int) := by
  constructor
  · rw [IntWalk.i64_in _ (by omega)]; omega
  · rw [IntWalk.i64_in _ (by omega)]; omega
set_option maxHeartbeats 1000000 in
theorem append_c {S : Nat → Prop} {v : Value} {q : Nat} {E : List Ent} (n b : List UInt8) (w : World) (h : DkS S w v q E) (hS : ∀ x, w.heap.size ≤ x → S x) (hn : n.length ≤ maxLen) (hbl : b.length ≤ maxLen) :
    Calls Tryz.prog 199 #[v, .string (str n), .string (str b)] w fun R w' => R = .returned (.int .i64 (eAppend q E n b)) ∧ DkS S w' v q (aAppend q E n b) ∧ Tu S w w' := by
  have HK := Lib.hid h
  obtain ⟨gd, m, fs, rfl, hd, rfl, hF⟩ := h
  have hc := find_c n w hd hn
  have HG := Lib.hid (good_append hd.good n b)
  have hsb := str_size b
  simp only [maxLen] at hbl
  have hw : (isNm n = false ∧ eAppend q (fs.map Fil.ent) n b = 2 ∧ aAppend q (fs.map Fil.ent) n b = fs.map Fil.ent) ∨
    (isNm n = true ∧ fndK Fil.nm n fs = none ∧ eAppend q (fs.map Fil.ent) n b = 5 ∧ aAppend q (fs.map Fil.ent) n b = fs.map Fil.ent) ∨
    (∃ f, isNm n = true ∧ fndK Fil.nm n fs = some f ∧ (((65536 < f.bs.length + b.length ∨ q < used (fs.map Fil.ent) + b.length) ∧ eAppend q (fs.map Fil.ent) n b = 7 ∧ aAppend q (fs.map Fil.ent) n b = fs.map Fil.ent) ∨
      (¬ (65536 < f.bs.length + b.length ∨ q < used (fs.map Fil.ent) + b.length) ∧ eAppend q (fs.map Fil.ent) n b = 0 ∧ aAppend q (fs.map Fil.ent) n b = setE ⟨f.nm, f.bs ++ b, f.su⟩ (fs.map Fil.ent)))) := by
    rcases eAppend_ways q fs n b with h | h | ⟨f, h1, h2, h3⟩ | ⟨f, h1, h2, h3⟩
    · exact .inl h
    · exact .inr (.inl h)
    · exact .inr (.inr ⟨f, h1, h2, .inl h3⟩)
    · exact .inr (.inr ⟨f, h1, h2, .inr h3⟩)
  rcases hw with ⟨h1, h2, h3⟩ | ⟨h1, h2, h3, h4⟩ | ⟨f, h1, h2, h3⟩
  · have he : eFind (fs.map Fil.ent) n = 2 := by unfold eFind; rw [h1]; rfl
    rw [find_two fs n h1, he] at hc
    rw [h2, h3]
    clear hd h1 h2 h3 he
    go_enter Tryz.func199, Tryz.ntmps199
    go_wp2_with fail
    refine hc.mono ?_
    rintro E w1 ⟨rfl, hb⟩
    go_wp2
    go_ret
    exact ⟨rfl, HK.out.new hb, .new hb⟩
  · have he : eFind (fs.map Fil.ent) n = 5 := by unfold eFind; rw [h1, ent_map, h2]; rfl
    rw [find_five h1 h2, he] at hc
    rw [h3, h4]
    clear hd h1 h2 h3 h4 he
    go_enter Tryz.func199, Tryz.ntmps199
    go_wp2_with fail
    refine hc.mono ?_
    rintro E w1 ⟨rfl, hb⟩
    go_wp2
    go_ret
    exact ⟨rfl, HK.out.new hb, .new hb⟩
  · have he : eFind (fs.map Fil.ent) n = 0 := by unfold eFind; rw [h1, ent_map, h2]; rfl
    rw [find_zero h1 h2, he] at hc
    have H2 := Lib.hid h2
    have HD := Lib.hid hd
    have H3 := Lib.hid h3
    clear h3
    generalize eAppend q (fs.map Fil.ent) n b = ee at *
    generalize aAppend q (fs.map Fil.ent) n b = E' at *
    have hmost := hd.names.2.2.1 f (fndK_some h2).1
    have huse := hd.good.use
    have hq2 := hd.good.q2
    obtain ⟨hr1, hr2⟩ := room_int f.bs.length (used (fs.map Fil.ent)) q b.length hmost hq2 huse
    have HU : Hid (∀ W, Below w.heap.size w W → Calls Tryz.prog 39 #[.pointer (some ⟨gd, 0, none⟩)] W fun E w' => E = .returned (.int .i64 (used (fs.map Fil.ent))) ∧ Below W.heap.size W w') := fun W hW => used_c W (HD.out.new hW)
    clear hd h1 h2 he
    generalize used (fs.map Fil.ent) = u at *
    obtain ⟨x1, hx1⟩ : ∃ x1 : Nat, 65536 - f.bs.length = x1 := ⟨_, rfl⟩
    obtain ⟨x2, hx2⟩ : ∃ x2 : Nat, q - u = x2 := ⟨_, rfl⟩
    rw [hx1] at hr1
    rw [hx2] at hr2
    obtain ⟨x3, hx3⟩ : ∃ x3 : Nat, min (x1 : Int) (x2 : Int) = (x3 : Int) ∧ x3 = min x1 x2 := ⟨min x1 x2, by omega, rfl⟩
    have hmin := hx3.1
    go_enter Tryz.func199, Tryz.ntmps199
    go_wp2_with fail
    refine hc.mono ?_
    rintro E w1 ⟨rfl, hb⟩
    have lf : ∀ W, Below w.heap.size w W → W.cell? ⟨f.g, 0, none⟩ = some (.slice f.ao f.bs.length f.cap) := fun W hW => by rw [((HD.out.new hW).fil f (fndK_some H2.out).1).blk.cell]; rfl
    have lq : ∀ W, Below w.heap.size w W → W.cell? ⟨gd, 0, none⟩ = some (.int .i64 q) := fun W hW => by rw [(HD.out.new hW).blk.cell]; rfl
    go_upto_region 4 with fail
    have hs0 := hb.drew
    have HBW := Lib.hid hb
    generalize hwd : w1.drew = wd at *
    refine wp_region_till (S := fun w' => Below w.heap.size w w') (by kernel_rfl) ?_
    rw [hwd]
    clear hwd hb
    refine wpTill_take (i := 0) (v := ?va0) rfl (by kernel_rfl) (fun _ _ _ h => h) (Or.inl ⟨by rfl, ?hya0⟩) hs0 ?resta0
    case hya0 => (intro W hW; (try dsimp only at hW); go_simp; try with_reducible rfl)
    simp only [Act.put, List.setIfInBounds_toArray, List.set_cons_zero, List.set_cons_succ]
    refine wpTill_take (i := 1) (v := ?va1) rfl (by kernel_rfl) (fun _ _ _ h => h) (Or.inl ⟨by rfl, ?hya1⟩) hs0 ?resta1
    case hya1 => (intro W hW; (try dsimp only at hW); go_simp; try with_reducible rfl)
    simp only [Act.put, List.setIfInBounds_toArray, List.set_cons_zero, List.set_cons_succ]
    refine wpTill_take (i := 2) (v := ?va2) rfl (by kernel_rfl) (fun _ _ _ h => h) (Or.inl ⟨by rfl, ?hya2⟩) hs0 ?resta2
    case hya2 => (intro W hW; (try dsimp only at hW); go_simp; try with_reducible rfl)
    simp only [Act.put, List.setIfInBounds_toArray, List.set_cons_zero, List.set_cons_succ]
    refine wpTill_take (i := 3) (v := ?va3) rfl (by kernel_rfl) (fun _ _ _ h => h) (Or.inl ⟨by rfl, ?hya3⟩) hs0 ?resta3
    case hya3 => (intro W hW; (try dsimp only at hW); go_simp; try with_reducible rfl)
    simp only [Act.put, List.setIfInBounds_toArray, List.set_cons_zero, List.set_cons_succ]
    refine wpTill_take (i := 4) (v := ?va4) rfl (by kernel_rfl) (fun _ _ _ h => h) (Or.inl ⟨by rfl, ?hya4⟩) hs0 ?resta4
    case hya4 => (intro W hW; (try dsimp only at hW); go_simp; try with_reducible rfl)
    simp only [Act.put, List.setIfInBounds_toArray, List.set_cons_zero, List.set_cons_succ]
    refine wpTill_take (i := 5) (v := ?va5) rfl (by kernel_rfl) (fun _ _ _ h => h) (Or.inl ⟨by rfl, ?hya5⟩) hs0 ?resta5
    case hya5 => (intro W hW; (try dsimp only at hW); go_simp; try with_reducible rfl)
    simp only [Act.put, List.setIfInBounds_toArray, List.set_cons_zero, List.set_cons_succ]
    refine wpTill_take (i := 6) (v := ?va6) rfl (by kernel_rfl) (fun _ _ _ h => h) (Or.inl ⟨by rfl, ?hya6⟩) hs0 ?resta6
    case hya6 => (intro W hW; (try dsimp only at hW); go_simp; try with_reducible rfl)
    simp only [Act.put, List.setIfInBounds_toArray, List.set_cons_zero, List.set_cons_succ]
    refine wpTill_take (i := 7) (v := ?va7) rfl (by kernel_rfl) (fun _ _ _ h => h) (Or.inl ⟨by rfl, ?hya7⟩) hs0 ?resta7
    case hya7 => (intro W hW; (try dsimp only at hW); go_simp; try with_reducible rfl)
    simp only [Act.put, List.setIfInBounds_toArray, List.set_cons_zero, List.set_cons_succ]
    refine wpTill_take (i := 8) (v := ?va8) rfl (by kernel_rfl) (fun _ _ _ h => h) (Or.inl ⟨by rfl, ?hya8⟩) hs0 ?resta8
    case hya8 => (intro W hW; (try dsimp only at hW); go_simp; try with_reducible rfl)
    simp only [Act.put, List.setIfInBounds_toArray, List.set_cons_zero, List.set_cons_succ]
    refine wpTill_take (i := 9) (v := ?va9) rfl (by kernel_rfl) (fun _ _ _ h => h) (Or.inl ⟨by rfl, ?hya9⟩) hs0 ?resta9
    case hya9 => (intro W hW; (try dsimp only at hW); go_simp; try with_reducible rfl)
    simp only [Act.put, List.setIfInBounds_toArray, List.set_cons_zero, List.set_cons_succ]
    refine wpTill_take (i := 10) (v := ?va10) rfl (by kernel_rfl) (fun _ _ _ h => h) (Or.inl ⟨by rfl, ?hya10⟩) hs0 ?resta10
    case hya10 => (intro W hW; (try dsimp only at hW); go_simp; try with_reducible rfl)
    simp only [Act.put, List.setIfInBounds_toArray, List.set_cons_zero, List.set_cons_succ]
    refine wpTill_take (i := 11) (v := ?va11) rfl (by kernel_rfl) (fun _ _ _ h => h) (Or.inl ⟨by rfl, ?hya11⟩) hs0 ?resta11
    case hya11 => (intro W hW; (try dsimp only at hW); go_simp; try with_reducible rfl)
    simp only [Act.put, List.setIfInBounds_toArray, List.set_cons_zero, List.set_cons_succ]
    refine wpTill_take (i := 12) (v := ?va12) rfl (by kernel_rfl) (fun _ _ _ h => h) (Or.inl ⟨by rfl, ?hya12⟩) hs0 ?resta12
    case hya12 => (intro W hW; (try dsimp only at hW); go_simp; try with_reducible rfl)
    simp only [Act.put, List.setIfInBounds_toArray, List.set_cons_zero, List.set_cons_succ]
    refine wpTill_run (i := 13) (by kernel_rfl) rfl hs0 (fun K hK => ?_)
    go_simp
    go_at_call 39
    refine (HU.out wd hs0).mono ?_
    rintro E w2 ⟨rfl, hb2⟩
    have hs2 := hs0.trans (hb2.mono hs0.size)
    refine hK _ _ ?_
    clear hK K
    refine wpTill_take (i := 14) (v := ?vb14) rfl (by kernel_rfl) (fun _ _ _ h => h) (Or.inl ⟨by rfl, ?hyb14⟩) hs2 ?restb14
    case hyb14 => (intro W hW; (try dsimp only at hW); go_simp; try with_reducible rfl)
    simp only [Act.put, List.setIfInBounds_toArray, List.set_cons_zero, List.set_cons_succ]
    refine wpTill_take (i := 15) (v := ?vb15) rfl (by kernel_rfl) (fun _ _ _ h => h) (Or.inl ⟨by rfl, ?hyb15⟩) hs2 ?restb15
    case hyb15 => (intro W hW; (try dsimp only at hW); go_simp; try with_reducible rfl)
    simp only [Act.put, List.setIfInBounds_toArray, List.set_cons_zero, List.set_cons_succ]
    refine wpTill_run (i := 16) (by kernel_rfl) rfl hs2 (fun K hK => ?_)
    go_simp
    refine hK _ _ ?_
    clear hK K
    refine wpTill_done (by kernel_rfl) ?_
    have HS2 := Lib.hid hs2
    clear hs0 hb2 lq hr1 hr2
    rcases H3.out with ⟨h3, rfl, rfl⟩ | ⟨h3, rfl, rfl⟩
    · have hdec : decide (min x1 x2 < b.length) = true := by rw [decide_eq_true_eq]; omega
      rw [hdec]
      clear hdec lf hmin hx3
      go_wp2
      go_ret
      exact ⟨rfl, HK.out.new (HS2.out), .new HS2.out⟩
    · have hdec : decide (min x1 x2 < b.length) = false := by rw [decide_eq_false_iff_not]; omega
      rw [hdec]
      have hd2 := HD.out.new HS2.out
      have hf := hd2.fil f (fndK_some H2.out).1
      have c0 : w2.cell? ⟨f.g, 0, none⟩ = some (.slice f.ao f.bs.length f.cap) := by rw [hf.blk.cell]; rfl
      have f0 := hf.blk.frozen 0
      obtain ⟨ao', cap', w3, hr, ho, hg, hloc⟩ := app_str hf.row b (by omega) 181
      have hf3 : Cells w3 f.g 183 #[f.v, .int .i64 f.su] := hf.blk.grown hg (fun e => hf.ne e.symm)
      have c3 : w3.cell? ⟨f.g, 0, none⟩ = some (.slice f.ao f.bs.length f.cap) := by rw [hf3.cell]; rfl
      have f3 := hf3.frozen 0
      have HO := Lib.hid ho
      have HF3 := Lib.hid hf3
      have HF := Lib.hid hf
      have HD2 := Lib.hid hd2
      have HLOC := Lib.hid hloc
      have HGR := Lib.hid hg
      have HR := Lib.hid hr
      clear hdec lf hmin hx3 hd2 hf ho hf3 hg hloc hr
      go_wp2_with (first | (at_builtin; refine wpList_app rfl _ _ _ _ rfl _ _ _ rfl rfl HR.out ?_) | go_in)
      go_ret
      have hg4 := grown_set w3 f.g 0 (.slice ao' (f.bs.length + b.length) cap')
      have hne : (Value.slice ao' (f.bs.length + b.length) cap').ownBlock ≠ some f.g := row_unlike HO.out HF3.out (by decide)
      have hl : (f.bs ++ b).length = f.bs.length + b.length := List.length_append
      have hfil : FilAt (w3.setCell ⟨f.g, 0, none⟩ (.slice ao' (f.bs.length + b.length) cap')) ⟨f.nm, f.g, ao', cap', f.bs ++ b, f.su⟩ := by
        refine ⟨?_, ?_⟩
        · have := HF3.out.set 0 (.slice ao' (f.bs.length + b.length) cap')
          unfold Fil.v
          dsimp only
          rw [hl]
          exact this
        · unfold Fil.v
          dsimp only
          rw [hl]
          exact HO.out.kept hg4 (.inr hne)
      have hmem := (fndK_some H2.out).1
      have ht : Tu f.inn w2 (w3.setCell ⟨f.g, 0, none⟩ (.slice ao' (f.bs.length + b.length) cap')) :=
        ((Tu.grown HGR.out).mono (fun x _ e => .inr e.symm)).trans (Tu.grown hg4) (fun x _ e => .inl (Option.some.inj e))
      have hinn : ∀ x, Fil.inn ⟨f.nm, f.g, ao', cap', f.bs ++ b, f.su⟩ x → f.inn x ∨ w2.heap.size ≤ x := by
        rintro x (e | e)
        · exact .inl (.inl e)
        · have e2 : (Value.slice ao' (f.bs.length + b.length) cap').ownBlock = some x := by
            have h := e
            unfold Fil.v at h
            dsimp only at h
            rw [hl] at h
            exact h
          rcases HLOC.out x e2 with e | e
          · exact .inl (.inr e)
          · exact .inr e
      refine ⟨rfl, DkS.at (HD2.out.turnAt (f' := ⟨f.nm, f.g, ao', cap', f.bs ++ b, f.su⟩) H2.out ht hfil rfl rfl hinn HG.out) hF (fun x hx => ?_), (Tu.new HS2.out).trans ht (fun x _ e => hF x (.inr (.inr ⟨f, hmem, e⟩)))⟩
      rcases hinn x hx with e | e
      · exact hF x (.inr (.inr ⟨f, hmem, e⟩))
      · exact hS x (Nat.le_trans HS2.out.size e)
end Go.Proofs.YtgeaacabpnepmaaGreatDoor
