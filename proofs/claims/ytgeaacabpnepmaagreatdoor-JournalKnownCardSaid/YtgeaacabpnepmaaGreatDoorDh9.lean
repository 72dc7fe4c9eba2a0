/- Texts of the walk. -/
import Derived.Test.YtgeaacabpnepmaaGreatDoorDf9
import Derived.BigQuiet
import Derived.WalkSmall
/- Append. -/
namespace Go.Proofs.YtgeaacabpnepmaaGreatDoor
open Go.RowKit Go.Shelf
set_option linter.unusedVariables false
set_option linter.unusedSimpArgs false
set_option maxRecDepth 100000

theorem dinfo_by : (Tryz.prog.info? 5).map (fun i => (i.zero, i.size, i.bytes)) = some (some (.int .u8 0), 1, 1) := by kernel_rfl
/-- append(b, s...): the bytes behind the others, in the old row or a new one. -/
theorem app_str {w : World} {ao : Option Addr} {n cap : Nat} {bs : List UInt8} (hown : w.ownsRow 0 5 1 (.slice ao n cap) n (bvs bs)) (s : List UInt8) (hlen : n + s.length ≤ 100000000) (ty : TypeId) :
    ∃ ao' cap' w', (Builtin.append_ #[181, 9] ty #[.slice ao n cap, .string (str s)]).run Tryz.prog w = .ok (.slice ao' (n + s.length) cap') w' ∧ w'.ownsRow 0 5 1 (.slice ao' (n + s.length) cap') (n + s.length) (bvs (bs ++ s)) ∧
      w.grownBy w' (Value.slice ao n cap).ownBlock ∧ ∀ x, (Value.slice ao' (n + s.length) cap').ownBlock = some x → (Value.slice ao n cap).ownBlock = some x ∨ w.heap.size ≤ x := by
  obtain ⟨i0, hi, hz0, hz1, hz2⟩ := info_parts dinfo_by
  have hsz := str_size s
  have gen : ∀ base, w.ownsRow base 5 1 (.slice ao n cap) n (bvs bs) → base ≤ w.heap.size → ∃ v' w', (Builtin.append_ #[181, 9] ty #[.slice ao n cap, .string (str s)]).run Tryz.prog w = .ok v' w' ∧ w'.ownsRow base 5 1 v' (n + s.length) (bvs (bs ++ s)) ∧ w.grownBy w' (Value.slice ao n cap).ownBlock := fun base hb hbs => by
    obtain ⟨v', w', h1, h2, h3, _⟩ := Lib.run_append_own_string (P := Tryz.prog) w base 181 9 ty 5 i0 Tryz.underlying181 Tryz.underlying9 hi hz0 hz1 hz2 (.slice ao n cap) n (bvs bs) hb (str s) (by rw [hsz]; unfold maxLen; omega) (by rw [hsz]; omega) hbs
    rw [hsz] at h2
    exact ⟨v', w', h1, by rw [bvs_append, ← bvs_str s]; exact h2, h3⟩
  rcases hown.2 with ⟨he, h0⟩ | ⟨g, cap2, cur, he, _, hg, hnc, hcm, hcs, htk⟩
  · obtain ⟨v', w', h1, h2, h3⟩ := gen w.heap.size ⟨hown.1, .inl ⟨he, h0⟩⟩ (Nat.le_refl _)
    obtain ⟨ao', cap', rfl, _⟩ := row_form h2
    exact ⟨ao', cap', w', h1, ownsRow_base_a h2 (Nat.zero_le _), h3, fun x hx => .inr (h2.lt x hx).1⟩
  · obtain ⟨v', w', h1, h2, h3⟩ := gen 0 hown (Nat.zero_le _)
    obtain ⟨ao', cap', rfl, _⟩ := row_form h2
    refine ⟨ao', cap', w', h1, h2, h3, ?_⟩
    injection he with e1 e2 e3
    subst e1 e3
    by_cases hroom : n + s.length ≤ cap
    · have hr := Lib.run_append_room_string (P := Tryz.prog) w 181 9 ty 5 i0 Tryz.underlying181 Tryz.underlying9 hi hz1 g n cap cur hg (str s) (by rw [hsz]; exact hroom) (by rw [hsz]; omega)
      rw [h1] at hr
      injection hr with hv hw
      injection hv with e1
      intro x hx
      rw [e1] at hx
      exact .inl hx
    · have hxl : (bvs bs).length = n := by have := hown.1; omega
      have hr := Lib.run_append_grow_string (P := Tryz.prog) w 181 9 ty 5 i0 (.int .u8 0) Tryz.underlying181 Tryz.underlying9 hi hz0 ⟨g, 0, none⟩ n cap (bvs bs) (by rw [hz1, hxl, Nat.mul_one]) (hown.cells (g := g) rfl) (str s) (by rw [hsz]; omega) (by rw [hsz]; omega) (by rw [hsz, hz2]; exact growslice_fits (by omega) (by omega))
      rw [h1] at hr
      injection hr with hv hw
      injection hv with e1
      intro x hx
      rw [e1] at hx
      have : w.heap.size = x := by simpa [Value.ownBlock] using hx
      exact .inr (by omega)
/-- An append whose run is known. -/
theorem wpList_app {P : Program} {w w' : World} {ops : Array Oper} {rest : List Oper} {o : Oper} {a : Act} {Q : Exit → Act → World → Prop} (hgd : o.guard = none) (sl x : Operand) (t u : TypeId)
    (ho : o.op = .call { callee := .builtin .append, args := #[sl, x], argTypes := #[t, u] }) (v y r : Value) (hs : a.eval sl = v) (hx : a.eval x = y) (hr : (Builtin.append_ #[t, u] o.type #[v, y]).run P w = .ok r w')
    (h : wpList P ops Q rest (a.put o.dst r) w') : wpList P ops Q (o :: rest) a w := by
  refine wpList_plain hgd fun K hK => ?_
  unfold Oper.wp execOp
  simp only [ho, resolve, invoke, builtin, Sem.run_bind, Sem.run_pure, Result.andThen_ok, List.map_toArray, List.map_cons, List.map_nil, hs, hx, hr]
  exact hK _ _ h
theorem eAppend_ways (q : Nat) (fs : List Fil) (n b : List UInt8) :
    (isNm n = false ∧ eAppend q (fs.map Fil.ent) n b = 2 ∧ aAppend q (fs.map Fil.ent) n b = fs.map Fil.ent) ∨
    (isNm n = true ∧ fndK Fil.nm n fs = none ∧ eAppend q (fs.map Fil.ent) n b = 5 ∧ aAppend q (fs.map Fil.ent) n b = fs.map Fil.ent) ∨
    (∃ f, isNm n = true ∧ fndK Fil.nm n fs = some f ∧ (65536 < f.bs.length + b.length ∨ q < used (fs.map Fil.ent) + b.length) ∧ eAppend q (fs.map Fil.ent) n b = 7 ∧ aAppend q (fs.map Fil.ent) n b = fs.map Fil.ent) ∨
    (∃ f, isNm n = true ∧ fndK Fil.nm n fs = some f ∧ ¬ (65536 < f.bs.length + b.length ∨ q < used (fs.map Fil.ent) + b.length) ∧ eAppend q (fs.map Fil.ent) n b = 0 ∧ aAppend q (fs.map Fil.ent) n b = setE ⟨f.nm, f.bs ++ b, f.su⟩ (fs.map Fil.ent)) := by
  have key : ∀ e, eAppend q (fs.map Fil.ent) n b = e → aAppend q (fs.map Fil.ent) n b = if e = 0 then (match fnd n (fs.map Fil.ent) with | some f => setE ⟨f.nm, f.bs ++ b, f.su⟩ (fs.map Fil.ent) | none => fs.map Fil.ent) else fs.map Fil.ent := fun e he => by unfold aAppend; rw [he]; rfl
  cases hq : isNm n with
  | false => have he : eAppend q (fs.map Fil.ent) n b = 2 := by unfold eAppend; rw [hq]; rfl
             exact .inl ⟨rfl, he, key 2 he⟩
  | true =>
    right
    have hm := ent_map fs n
    cases hf : fndK Fil.nm n fs with
    | none =>
      rw [hf] at hm
      have he : eAppend q (fs.map Fil.ent) n b = 5 := by unfold eAppend; rw [hq, hm]; rfl
      exact .inl ⟨rfl, rfl, he, key 5 he⟩
    | some f =>
      rw [hf] at hm
      right
      by_cases hl : 65536 < f.bs.length + b.length ∨ q < used (fs.map Fil.ent) + b.length
      · have he : eAppend q (fs.map Fil.ent) n b = 7 := by unfold eAppend; rw [hq, hm]; simp only [Option.map_some, ite_true]; exact if_pos hl
        exact .inl ⟨f, rfl, rfl, hl, he, key 7 he⟩
      · have he : eAppend q (fs.map Fil.ent) n b = 0 := by unfold eAppend; rw [hq, hm]; simp only [Option.map_some, ite_true]; exact if_neg hl
        refine .inr ⟨f, rfl, rfl, hl, he, ?_⟩
        rw [key 0 he, hm]; rfl
theorem room_int (l u q b : Nat) (hl : l ≤ 65536) (hq : q ≤ 1048576) (hu : u ≤ q) : IntKind.i64.wrap (65536 - (l : Int)) = ((65536 - l : Nat) : Int) ∧ IntKind.i64.wrap ((q : Int) - (u : Int)) = ((q - u : Nat) : Int) := by
  constructor
  · rw [IntWalk.i64_in _ (by omega)]; omega
  · rw [IntWalk.i64_in _ (by omega)]; omega
set_option maxHeartbeats 1000000 in
theorem append_c {S : Nat → Prop} {v : Value} {q : Nat} {E : List Ent} (n b : List UInt8) (w : World) (h : DkS S w v q E) (hS : ∀ x, w.heap.size ≤ x → S x) (hn : n.length ≤ maxLen) (hbl : b.length ≤ maxLen) :
    Calls Tryz.prog 199 #[v, .string (str n), .string (str b)] w fun R w' => R = .returned (.int .i64 (eAppend q E n b)) ∧ DkS S w' v q (aAppend q E n b) ∧ Tu S w w' := by
  have HK := Lib.hid h
  obtain ⟨gd, m, fs, rfl, hd, rfl, hF⟩ := h
  have hc := find_c n w hd hn
  have HG := Lib.hid (good_append hd.good n b)
  have hsb := str_size b
  simp only [maxLen] at hbl
  have hw : (isNm n = false ∧ eAppend q (fs.map Fil.ent) n b = 2 ∧ aAppend q (fs.map Fil.ent) n b = fs.map Fil.ent) ∨
    (isNm n = true ∧ fndK Fil.nm n fs = none ∧ eAppend q (fs.map Fil.ent) n b = 5 ∧ aAppend q (fs.map Fil.ent) n b = fs.map Fil.ent) ∨
    (∃ f, isNm n = true ∧ fndK Fil.nm n fs = some f ∧ (((65536 < f.bs.length + b.length ∨ q < used (fs.map Fil.ent) + b.length) ∧ eAppend q (fs.map Fil.ent) n b = 7 ∧ aAppend q (fs.map Fil.ent) n b = fs.map Fil.ent) ∨
      (¬ (65536 < f.bs.length + b.length ∨ q < used (fs.map Fil.ent) + b.length) ∧ eAppend q (fs.map Fil.ent) n b = 0 ∧ aAppend q (fs.map Fil.ent) n b = setE ⟨f.nm, f.bs ++ b, f.su⟩ (fs.map Fil.ent)))) := by
    rcases eAppend_ways q fs n b with h | h | ⟨f, h1, h2, h3⟩ | ⟨f, h1, h2, h3⟩
    · exact .inl h
    · exact .inr (.inl h)
    · exact .inr (.inr ⟨f, h1, h2, .inl h3⟩)
    · exact .inr (.inr ⟨f, h1, h2, .inr h3⟩)
  rcases hw with ⟨h1, h2, h3⟩ | ⟨h1, h2, h3, h4⟩ | ⟨f, h1, h2, h3⟩
  · have he : eFind (fs.map Fil.ent) n = 2 := by unfold eFind; rw [h1]; rfl
    rw [find_two fs n h1, he] at hc
    rw [h2, h3]
    clear hd h1 h2 h3 he
    go_enter Tryz.func199, Tryz.ntmps199
    go_wp2_with fail
    refine hc.mono ?_
    rintro E w1 ⟨rfl, hb⟩
    go_wp2
    go_ret
    exact ⟨rfl, HK.out.new hb, .new hb⟩
  · have he : eFind (fs.map Fil.ent) n = 5 := by unfold eFind; rw [h1, ent_map, h2]; rfl
    rw [find_five h1 h2, he] at hc
    rw [h3, h4]
    clear hd h1 h2 h3 h4 he
    go_enter Tryz.func199, Tryz.ntmps199
    go_wp2_with fail
    refine hc.mono ?_
    rintro E w1 ⟨rfl, hb⟩
    go_wp2
    go_ret
    exact ⟨rfl, HK.out.new hb, .new hb⟩
  · have he : eFind (fs.map Fil.ent) n = 0 := by unfold eFind; rw [h1, ent_map, h2]; rfl
    rw [find_zero h1 h2, he] at hc
    have H2 := Lib.hid h2
    have HD := Lib.hid hd
    have H3 := Lib.hid h3
    clear h3
    generalize eAppend q (fs.map Fil.ent) n b = ee at *
    generalize aAppend q (fs.map Fil.ent) n b = E' at *
    have hmost := hd.names.2.2.1 f (fndK_some h2).1
    have huse := hd.good.use
    have hq2 := hd.good.q2
    obtain ⟨hr1, hr2⟩ := room_int f.bs.length (used (fs.map Fil.ent)) q b.length hmost hq2 huse
    have HU : Hid (∀ W, Below w.heap.size w W → Calls Tryz.prog 39 #[.pointer (some ⟨gd, 0, none⟩)] W fun E w' => E = .returned (.int .i64 (used (fs.map Fil.ent))) ∧ Below W.heap.size W w') := fun W hW => used_c W (HD.out.new hW)
    clear hd h1 h2 he
    generalize used (fs.map Fil.ent) = u at *
    obtain ⟨x1, hx1⟩ : ∃ x1 : Nat, 65536 - f.bs.length = x1 := ⟨_, rfl⟩
    obtain ⟨x2, hx2⟩ : ∃ x2 : Nat, q - u = x2 := ⟨_, rfl⟩
    rw [hx1] at hr1
    rw [hx2] at hr2
    obtain ⟨x3, hx3⟩ : ∃ x3 : Nat, min (x1 : Int) (x2 : Int) = (x3 : Int) ∧ x3 = min x1 x2 := ⟨min x1 x2, by omega, rfl⟩
    have hmin := hx3.1
    go_enter Tryz.func199, Tryz.ntmps199
    go_wp2_with fail
    refine hc.mono ?_
    rintro E w1 ⟨rfl, hb⟩
    have lf : ∀ W, Below w.heap.size w W → W.cell? ⟨f.g, 0, none⟩ = some (.slice f.ao f.bs.length f.cap) := fun W hW => by rw [((HD.out.new hW).fil f (fndK_some H2.out).1).blk.cell]; rfl
    have lq : ∀ W, Below w.heap.size w W → W.cell? ⟨gd, 0, none⟩ = some (.int .i64 q) := fun W hW => by rw [(HD.out.new hW).blk.cell]; rfl
    go_upto_region 4 with fail
    have hs0 := hb.drew
    have HBW := Lib.hid hb
    generalize hwd : w1.drew = wd at *
    refine wp_region_till (S := fun w' => Below w.heap.size w w') (by kernel_rfl) ?_
    rw [hwd]
    clear hwd hb
    refine wpTill_take (i := 0) (v := ?va0) rfl (by kernel_rfl) (fun _ _ _ h => h) (Or.inl ⟨by rfl, ?hya0⟩) hs0 ?resta0
    case hya0 => (intro W hW; (try dsimp only at hW); go_simp; try with_reducible rfl)
    simp only [Act.put, List.setIfInBounds_toArray, List.set_cons_zero, List.set_cons_succ]
    refine wpTill_take (i := 1) (v := ?va1) rfl (by kernel_rfl) (fun _ _ _ h => h) (Or.inl ⟨by rfl, ?hya1⟩) hs0 ?resta1
    case hya1 => (intro W hW; (try dsimp only at hW); go_simp; try with_reducible rfl)
    simp only [Act.put, List.setIfInBounds_toArray, List.set_cons_zero, List.set_cons_succ]
    refine wpTill_take (i := 2) (v := ?va2) rfl (by kernel_rfl) (fun _ _ _ h => h) (Or.inl ⟨by rfl, ?hya2⟩) hs0 ?resta2
    case hya2 => (intro W hW; (try dsimp only at hW); go_simp; try with_reducible rfl)
    simp only [Act.put, List.setIfInBounds_toArray, List.set_cons_zero, List.set_cons_succ]
    refine wpTill_take (i := 3) (v := ?va3) rfl (by kernel_rfl) (fun _ _ _ h => h) (Or.inl ⟨by rfl, ?hya3⟩) hs0 ?resta3
    case hya3 => (intro W hW; (try dsimp only at hW); go_simp; try with_reducible rfl)
    simp only [Act.put, List.setIfInBounds_toArray, List.set_cons_zero, List.set_cons_succ]
    refine wpTill_take (i := 4) (v := ?va4) rfl (by kernel_rfl) (fun _ _ _ h => h) (Or.inl ⟨by rfl, ?hya4⟩) hs0 ?resta4
    case hya4 => (intro W hW; (try dsimp only at hW); go_simp; try with_reducible rfl)
    simp only [Act.put, List.setIfInBounds_toArray, List.set_cons_zero, List.set_cons_succ]
    refine wpTill_take (i := 5) (v := ?va5) rfl (by kernel_rfl) (fun _ _ _ h => h) (Or.inl ⟨by rfl, ?hya5⟩) hs0 ?resta5
    case hya5 => (intro W hW; (try dsimp only at hW); go_simp; try with_reducible rfl)
    simp only [Act.put, List.setIfInBounds_toArray, List.set_cons_zero, List.set_cons_succ]
    refine wpTill_take (i := 6) (v := ?va6) rfl (by kernel_rfl) (fun _ _ _ h => h) (Or.inl ⟨by rfl, ?hya6⟩) hs0 ?resta6
    case hya6 => (intro W hW; (try dsimp only at hW); go_simp; try with_reducible rfl)
    simp only [Act.put, List.setIfInBounds_toArray, List.set_cons_zero, List.set_cons_succ]
    refine wpTill_take (i := 7) (v := ?va7) rfl (by kernel_rfl) (fun _ _ _ h => h) (Or.inl ⟨by rfl, ?hya7⟩) hs0 ?resta7
    case hya7 => (intro W hW; (try dsimp only at hW); go_simp; try with_reducible rfl)
    simp only [Act.put, List.setIfInBounds_toArray, List.set_cons_zero, List.set_cons_succ]
    refine wpTill_take (i := 8) (v := ?va8) rfl (by kernel_rfl) (fun _ _ _ h => h) (Or.inl ⟨by rfl, ?hya8⟩) hs0 ?resta8
    case hya8 => (intro W hW; (try dsimp only at hW); go_simp; try with_reducible rfl)
    simp only [Act.put, List.setIfInBounds_toArray, List.set_cons_zero, List.set_cons_succ]
    refine wpTill_take (i := 9) (v := ?va9) rfl (by kernel_rfl) (fun _ _ _ h => h) (Or.inl ⟨by rfl, ?hya9⟩) hs0 ?resta9
    case hya9 => (intro W hW; (try dsimp only at hW); go_simp; try with_reducible rfl)
    simp only [Act.put, List.setIfInBounds_toArray, List.set_cons_zero, List.set_cons_succ]
    refine wpTill_take (i := 10) (v := ?va10) rfl (by kernel_rfl) (fun _ _ _ h => h) (Or.inl ⟨by rfl, ?hya10⟩) hs0 ?resta10
    case hya10 => (intro W hW; (try dsimp only at hW); go_simp; try with_reducible rfl)
    simp only [Act.put, List.setIfInBounds_toArray, List.set_cons_zero, List.set_cons_succ]
    refine wpTill_take (i := 11) (v := ?va11) rfl (by kernel_rfl) (fun _ _ _ h => h) (Or.inl ⟨by rfl, ?hya11⟩) hs0 ?resta11
    case hya11 => (intro W hW; (try dsimp only at hW); go_simp; try with_reducible rfl)
    simp only [Act.put, List.setIfInBounds_toArray, List.set_cons_zero, List.set_cons_succ]
    refine wpTill_take (i := 12) (v := ?va12) rfl (by kernel_rfl) (fun _ _ _ h => h) (Or.inl ⟨by rfl, ?hya12⟩) hs0 ?resta12
    case hya12 => (intro W hW; (try dsimp only at hW); go_simp; try with_reducible rfl)
    simp only [Act.put, List.setIfInBounds_toArray, List.set_cons_zero, List.set_cons_succ]
    refine wpTill_run (i := 13) (by kernel_rfl) rfl hs0 (fun K hK => ?_)
    go_simp
    go_at_call 39
    refine (HU.out wd hs0).mono ?_
    rintro E w2 ⟨rfl, hb2⟩
    have hs2 := hs0.trans (hb2.mono hs0.size)
    refine hK _ _ ?_
    clear hK K
    refine wpTill_take (i := 14) (v := ?vb14) rfl (by kernel_rfl) (fun _ _ _ h => h) (Or.inl ⟨by rfl, ?hyb14⟩) hs2 ?restb14
    case hyb14 => (intro W hW; (try dsimp only at hW); go_simp; try with_reducible rfl)
    simp only [Act.put, List.setIfInBounds_toArray, List.set_cons_zero, List.set_cons_succ]
    refine wpTill_take (i := 15) (v := ?vb15) rfl (by kernel_rfl) (fun _ _ _ h => h) (Or.inl ⟨by rfl, ?hyb15⟩) hs2 ?restb15
    case hyb15 => (intro W hW; (try dsimp only at hW); go_simp; try with_reducible rfl)
    simp only [Act.put, List.setIfInBounds_toArray, List.set_cons_zero, List.set_cons_succ]
    refine wpTill_run (i := 16) (by kernel_rfl) rfl hs2 (fun K hK => ?_)
    go_simp
    refine hK _ _ ?_
    clear hK K
    refine wpTill_done (by kernel_rfl) ?_
    have HS2 := Lib.hid hs2
    clear hs0 hb2 lq hr1 hr2
    rcases H3.out with ⟨h3, rfl, rfl⟩ | ⟨h3, rfl, rfl⟩
    · have hdec : decide (min x1 x2 < b.length) = true := by rw [decide_eq_true_eq]; omega
      rw [hdec]
      clear hdec lf hmin hx3
      go_wp2
      go_ret
      exact ⟨rfl, HK.out.new (HS2.out), .new HS2.out⟩
    · have hdec : decide (min x1 x2 < b.length) = false := by rw [decide_eq_false_iff_not]; omega
      rw [hdec]
      have hd2 := HD.out.new HS2.out
      have hf := hd2.fil f (fndK_some H2.out).1
      have c0 : w2.cell? ⟨f.g, 0, none⟩ = some (.slice f.ao f.bs.length f.cap) := by rw [hf.blk.cell]; rfl
      have f0 := hf.blk.frozen 0
      obtain ⟨ao', cap', w3, hr, ho, hg, hloc⟩ := app_str hf.row b (by omega) 181
      have hf3 : Cells w3 f.g 183 #[f.v, .int .i64 f.su] := hf.blk.grown hg (fun e => hf.ne e.symm)
      have c3 : w3.cell? ⟨f.g, 0, none⟩ = some (.slice f.ao f.bs.length f.cap) := by rw [hf3.cell]; rfl
      have f3 := hf3.frozen 0
      have HO := Lib.hid ho
      have HF3 := Lib.hid hf3
      have HF := Lib.hid hf
      have HD2 := Lib.hid hd2
      have HLOC := Lib.hid hloc
      have HGR := Lib.hid hg
      have HR := Lib.hid hr
      clear hdec lf hmin hx3 hd2 hf ho hf3 hg hloc hr
      go_wp2_with (first | (at_builtin; refine wpList_app rfl _ _ _ _ rfl _ _ _ rfl rfl HR.out ?_) | go_in)
      go_ret
      have hg4 := grown_set w3 f.g 0 (.slice ao' (f.bs.length + b.length) cap')
      have hne : (Value.slice ao' (f.bs.length + b.length) cap').ownBlock ≠ some f.g := row_unlike HO.out HF3.out (by decide)
      have hl : (f.bs ++ b).length = f.bs.length + b.length := List.length_append
      have hfil : FilAt (w3.setCell ⟨f.g, 0, none⟩ (.slice ao' (f.bs.length + b.length) cap')) ⟨f.nm, f.g, ao', cap', f.bs ++ b, f.su⟩ := by
        refine ⟨?_, ?_⟩
        · have := HF3.out.set 0 (.slice ao' (f.bs.length + b.length) cap')
          unfold Fil.v
          dsimp only
          rw [hl]
          exact this
        · unfold Fil.v
          dsimp only
          rw [hl]
          exact HO.out.kept hg4 (.inr hne)
      have hmem := (fndK_some H2.out).1
      have ht : Tu f.inn w2 (w3.setCell ⟨f.g, 0, none⟩ (.slice ao' (f.bs.length + b.length) cap')) :=
        ((Tu.grown HGR.out).mono (fun x _ e => .inr e.symm)).trans (Tu.grown hg4) (fun x _ e => .inl (Option.some.inj e))
      have hinn : ∀ x, Fil.inn ⟨f.nm, f.g, ao', cap', f.bs ++ b, f.su⟩ x → f.inn x ∨ w2.heap.size ≤ x := by
        rintro x (e | e)
        · exact .inl (.inl e)
        · have e2 : (Value.slice ao' (f.bs.length + b.length) cap').ownBlock = some x := by
            have h := e
            unfold Fil.v at h
            dsimp only at h
            rw [hl] at h
            exact h
          rcases HLOC.out x e2 with e | e
          · exact .inl (.inr e)
          · exact .inr e
      refine ⟨rfl, DkS.at (HD2.out.turnAt (f' := ⟨f.nm, f.g, ao', cap', f.bs ++ b, f.su⟩) H2.out ht hfil rfl rfl hinn HG.out) hF (fun x hx => ?_), (Tu.new HS2.out).trans ht (fun x _ e => hF x (.inr (.inr ⟨f, hmem, e⟩)))⟩
      rcases hinn x hx with e | e
      · exact hF x (.inr (.inr ⟨f, hmem, e⟩))
      · exact hS x (Nat.le_trans HS2.out.size e)
end Go.Proofs.YtgeaacabpnepmaaGreatDoor
/- tear and Crash. -/
namespace Go.Proofs.YtgeaacabpnepmaaGreatDoor
open Go.RowKit Go.Shelf
set_option linter.unusedVariables false
set_option linter.unusedSimpArgs false
set_option maxRecDepth 100000

theorem tmod_pos (k m : Int) (hm : 0 < m) (h : 0 ≤ k.tmod m) : (k % m) = k.tmod m := by
  have h1 := Int.tmod_add_mul_tdiv k m
  have h2 : k.tmod m < m := Int.tmod_lt_of_pos k hm
  have h3 : (k.tmod m + m * k.tdiv m) % m = k.tmod m := by rw [Int.add_mul_emod_self_left]; exact Int.emod_eq_of_lt h h2
  rw [h1] at h3
  exact h3
theorem tmod_neg (k m : Int) (hm : 0 < m) (h : k.tmod m < 0) : (k % m) = k.tmod m + m := by
  have h1 := Int.tmod_add_mul_tdiv k m
  have h2 : -m < k.tmod m := Int.lt_tmod_of_pos k hm
  have h3 : (k.tmod m + m + m * (k.tdiv m - 1)) % m = k.tmod m + m := by rw [Int.add_mul_emod_self_left]; exact Int.emod_eq_of_lt (by omega) (by omega)
  have e : k.tmod m + m + m * (k.tdiv m - 1) = k := by rw [Int.mul_sub, Int.mul_one]; omega
  rw [e] at h3
  exact h3
/-- What the program reckons is what is kept. -/
theorem kept_tmod (k : Int) (l s : Nat) (hl : s ≤ l) : (0 ≤ k.tmod ((l - s + 1 : Nat) : Int) ∧ ((kept k (l - s + 1) : Nat) : Int) = k.tmod ((l - s + 1 : Nat) : Int)) ∨ (k.tmod ((l - s + 1 : Nat) : Int) < 0 ∧ ((kept k (l - s + 1) : Nat) : Int) = k.tmod ((l - s + 1 : Nat) : Int) + ((l - s + 1 : Nat) : Int)) := by
  unfold kept
  generalize hm : ((l - s + 1 : Nat) : Int) = m
  have hm0 : 0 < m := by omega
  have h0 : 0 ≤ k % m := Int.emod_nonneg _ (by omega)
  rcases Int.lt_or_le (k.tmod m) 0 with h | h
  · right; rw [tmod_neg k m hm0 h] at h0 ⊢; exact ⟨h, by omega⟩
  · left; rw [tmod_pos k m hm0 h]; exact ⟨h, by omega⟩
def Fil.torn (f : Fil) (k : Int) : Fil := ⟨f.nm, f.g, f.ao, f.cap, f.bs.take (f.su + kept k (f.bs.length - f.su + 1)), f.su + kept k (f.bs.length - f.su + 1)⟩
theorem torn_ent (f : Fil) (k : Int) : (f.torn k).ent = tearE k f.ent := rfl
theorem torn_inn (f : Fil) (k : Int) (x : Nat) (h : (f.torn k).inn x) : f.inn x := by
  rcases h with h | h
  · exact .inl h
  · refine .inr ?_
    have : (Value.slice f.ao (f.torn k).bs.length f.cap).ownBlock = some x := h
    cases hao : f.ao with
    | none => rw [hao] at this; cases this
    | some a => rw [hao] at this; unfold Fil.v; rw [hao]; exact this
theorem row_cut {w : World} {ao : Option Addr} {cap n : Nat} {bs : List UInt8} (h : w.ownsRow 0 5 1 (.slice ao bs.length cap) bs.length (bvs bs)) (hn : n ≤ bs.length) :
    w.ownsRow 0 5 1 (.slice ao n cap) n (bvs (bs.take n)) := by
  have hl : (bvs (bs.take n)).length = n := by rw [bvs_length, List.length_take]; omega
  rcases h.2 with ⟨he, h0⟩ | ⟨g, cap2, cur, he, hb, hg, hnc, hcm, hcs, htk⟩
  · injection he with e1 e2 e3
    have : n = 0 := by omega
    subst this
    subst e1 e3
    exact ⟨by rw [hl], .inl ⟨rfl, rfl⟩⟩
  · injection he with e1 e2 e3
    subst e1 e3
    refine ⟨by rw [hl]; omega, .inr ⟨g, cap, cur, rfl, hb, hg, by omega, hcm, hcs, ?_⟩⟩
    have : bvs (bs.take n) = (bvs bs).take n := by unfold bvs; rw [List.map_take]
    rw [this, ← htk, List.take_take]
    congr 1
    omega
set_option maxHeartbeats 1000000 in
theorem tear_c {f : Fil} (k : Int) (w : World) (h : FilAt w f) (h1 : f.su ≤ f.bs.length) (h2 : f.bs.length ≤ 65536) (hk : -9223372036854775808 ≤ k ∧ k ≤ 9223372036854775807) :
    Calls Tryz.prog 158 #[.pointer (some ⟨f.g, 0, none⟩), .int .i64 k] w fun E w' => E = .returned (.tuple #[]) ∧ FilAt w' (f.torn k) ∧ w.grownBy w' (some f.g) := by
  have c0 : w.cell? ⟨f.g, 0, none⟩ = some (.slice f.ao f.bs.length f.cap) := by rw [h.blk.cell]; rfl
  have c1 : w.cell? ⟨f.g, 1, none⟩ = some (.int .i64 f.su) := by rw [h.blk.cell]; rfl
  have HF := Lib.hid h
  have e1 : IntKind.i64.wrap ((f.bs.length : Int) - (f.su : Int)) = ((f.bs.length - f.su : Nat) : Int) := by rw [IntWalk.i64_in _ (by omega)]; omega
  have e2 : IntKind.i64.wrap (((f.bs.length - f.su : Nat) : Int) + 1) = ((f.bs.length - f.su + 1 : Nat) : Int) := by rw [IntWalk.i64_in _ (by omega)]; omega
  clear h
  have hkt := kept_tmod k f.bs.length f.su h1
  have hkl := kept_le k (f.bs.length - f.su)
  have HT := Lib.hid (show f.torn k = ⟨f.nm, f.g, f.ao, f.cap, f.bs.take (f.su + kept k (f.bs.length - f.su + 1)), f.su + kept k (f.bs.length - f.su + 1)⟩ from rfl)
  obtain ⟨r, hr⟩ : ∃ r, k.tmod ((f.bs.length - f.su + 1 : Nat) : Int) = r := ⟨_, rfl⟩
  rw [hr] at hkt
  generalize kept k (f.bs.length - f.su + 1) = kp at *
  obtain ⟨m, hm⟩ : ∃ m : Nat, f.bs.length - f.su + 1 = m := ⟨_, rfl⟩
  obtain ⟨t0, ht0⟩ : ∃ t0 : Nat, f.bs.length - f.su = t0 := ⟨_, rfl⟩
  have hr2 : -(m : Int) < r ∧ r < (m : Int) := by
    rw [← hr, ← hm]
    exact ⟨Int.lt_tmod_of_pos k (by omega), Int.tmod_lt_of_pos k (by omega)⟩
  rw [ht0] at e1
  rw [hm] at e2 hr hkt
  rw [ht0] at e2
  have e3 : IntKind.i64.wrap (k.tmod (m : Int)) = r := by rw [hr]; exact IntWalk.i64_in _ (by omega)
  have hm0 : (m : Int) ≠ 0 := by omega
  go_enter Tryz.func158, Tryz.ntmps158
  go_wp2_with fail
  go_quiet (fail)
  have hbn : Below w.heap.size w (w.drewN nq) := below_drewN (Below.refl _ w) nq
  have hg0 : w.grownBy (w.drewN nq) none := grown_none hbn
  have c1' : (w.drewN nq).cell? ⟨f.g, 1, none⟩ = some (.int .i64 f.su) := c1
  have hf0 := HF.out.tu (S := fun _ => False) (.new hbn) (fun _ _ h => h)
  generalize w.drewN nq = wd at *
  have f1 := hf0.blk.frozen 1
  have c1 := c1'
  have e4 : IntKind.i64.wrap ((f.su : Int) + (kp : Int)) = ((f.su + kp : Nat) : Int) := by rw [IntWalk.i64_in _ (by omega)]; omega
  have hgs := grown_set wd f.g 1 (.int .i64 ((f.su + kp : Nat) : Int))
  have hblk : Cells (wd.setCell ⟨f.g, 1, none⟩ (.int .i64 ((f.su + kp : Nat) : Int))) f.g 183 #[.slice f.ao f.bs.length f.cap, .int .i64 ((f.su + kp : Nat) : Int)] := hf0.blk.set 1 _
  have hrow := hf0.row.kept hgs (.inr hf0.ne)
  have hsn : f.su + kp ≤ f.bs.length := by omega
  obtain ⟨sn, hsn2⟩ : ∃ sn : Nat, f.su + kp = sn := ⟨_, rfl⟩
  rw [hsn2] at e4 hgs hblk hrow hsn HT
  clear hbn c0 c1' hsn2
  obtain ⟨w2, hw2⟩ : ∃ w2, wd.setCell ⟨f.g, 1, none⟩ (.int .i64 (sn : Int)) = w2 := ⟨_, rfl⟩
  rw [hw2] at hgs hblk hrow
  have HB2 := Lib.hid hblk
  have HR2 := Lib.hid hrow
  have HG2 := Lib.hid hgs
  have HG0 := Lib.hid hg0
  have lf : ∀ W, Below w2.heap.size w2 W → W.cell? ⟨f.g, 0, none⟩ = some (.slice f.ao f.bs.length f.cap) := fun W hW => by rw [(HB2.out.below hW HB2.out.lt).cell]; rfl
  have lq : ∀ W, Below w2.heap.size w2 W → W.cell? ⟨f.g, 1, none⟩ = some (.int .i64 (sn : Int)) := fun W hW => by rw [(HB2.out.below hW HB2.out.lt).cell]; rfl
  have hcap : sn ≤ f.cap := by obtain ⟨_, _, he, hc⟩ := row_form hrow; injection he with e1 e2 e3; omega
  clear hblk hrow hgs hg0 hf0
  rcases hkt with ⟨hr0, hk0⟩ | ⟨hr0, hk0⟩
  · rw [← hk0] at hr
    clear e3 hk0 hr0 hr2
    go_wp2_with fail
    have hs0 := (Below.refl w2.heap.size w2).drew
    generalize hwd : w2.drew = wd2 at *
    refine wp_region_till (S := fun w' => Below w2.heap.size w2 w') (by kernel_rfl) ?_
    rw [hwd]
    clear hwd
    refine wpTill_take (i := 0) (v := ?va0) rfl (by kernel_rfl) (fun _ _ _ h => h) (Or.inl ⟨by rfl, ?hya0⟩) hs0 ?resta0
    case hya0 => (intro W hW; (try dsimp only at hW); go_simp; try with_reducible rfl)
    simp only [Act.put, List.setIfInBounds_toArray, List.set_cons_zero, List.set_cons_succ]
    refine wpTill_take (i := 1) (v := ?va1) rfl (by kernel_rfl) (fun _ _ _ h => h) (Or.inl ⟨by rfl, ?hya1⟩) hs0 ?resta1
    case hya1 => (intro W hW; (try dsimp only at hW); go_simp; try with_reducible rfl)
    simp only [Act.put, List.setIfInBounds_toArray, List.set_cons_zero, List.set_cons_succ]
    refine wpTill_take (i := 2) (v := ?va2) rfl (by kernel_rfl) (fun _ _ _ h => h) (Or.inl ⟨by rfl, ?hya2⟩) hs0 ?resta2
    case hya2 => (intro W hW; (try dsimp only at hW); go_simp; try with_reducible rfl)
    simp only [Act.put, List.setIfInBounds_toArray, List.set_cons_zero, List.set_cons_succ]
    refine wpTill_take (i := 3) (v := ?va3) rfl (by kernel_rfl) (fun _ _ _ h => h) (Or.inl ⟨by rfl, ?hya3⟩) hs0 ?resta3
    case hya3 => (intro W hW; (try dsimp only at hW); go_simp; try with_reducible rfl)
    simp only [Act.put, List.setIfInBounds_toArray, List.set_cons_zero, List.set_cons_succ]
    refine wpTill_take (i := 4) (v := ?va4) rfl (by kernel_rfl) (fun _ _ _ h => h) (Or.inl ⟨by rfl, ?hya4⟩) hs0 ?resta4
    case hya4 => (intro W hW; (try dsimp only at hW); go_simp; try with_reducible rfl)
    simp only [Act.put, List.setIfInBounds_toArray, List.set_cons_zero, List.set_cons_succ]
    refine wpTill_take (i := 5) (v := ?va5) rfl (by kernel_rfl) (fun _ _ _ h => h) (Or.inl ⟨by rfl, ?hya5⟩) hs0 ?resta5
    case hya5 => (intro W hW; (try dsimp only at hW); go_simp; try with_reducible rfl)
    simp only [Act.put, List.setIfInBounds_toArray, List.set_cons_zero, List.set_cons_succ]
    refine wpTill_take (i := 6) (v := ?va6) rfl (by kernel_rfl) (fun _ _ _ h => h) (Or.inl ⟨by rfl, ?hya6⟩) hs0 ?resta6
    case hya6 => (intro W hW; (try dsimp only at hW); go_simp; try with_reducible rfl)
    simp only [Act.put, List.setIfInBounds_toArray, List.set_cons_zero, List.set_cons_succ]
    refine wpTill_take (i := 7) (v := ?va7) rfl (by kernel_rfl) (fun _ _ _ h => h) (Or.inl ⟨by rfl, ?hya7⟩) hs0 ?resta7
    case hya7 => (intro W hW; (try dsimp only at hW); go_simp; try with_reducible rfl)
    simp only [Act.put, List.setIfInBounds_toArray, List.set_cons_zero, List.set_cons_succ]
    refine wpTill_take (i := 8) (v := ?va8) rfl (by kernel_rfl) (fun _ _ _ h => h) (Or.inl ⟨by rfl, ?hya8⟩) hs0 ?resta8
    case hya8 => (intro W hW; (try dsimp only at hW); go_simp; try with_reducible rfl)
    simp only [Act.put, List.setIfInBounds_toArray, List.set_cons_zero, List.set_cons_succ]
    refine wpTill_take (i := 9) (v := ?va9) rfl (by kernel_rfl) (fun _ _ _ h => h) (Or.inl ⟨by rfl, ?hya9⟩) hs0 ?resta9
    case hya9 => (intro W hW; (try dsimp only at hW); go_simp; try with_reducible rfl)
    simp only [Act.put, List.setIfInBounds_toArray, List.set_cons_zero, List.set_cons_succ]
    refine wpTill_take (i := 10) (v := ?va10) rfl (by kernel_rfl) (fun _ _ _ h => h) (Or.inl ⟨by rfl, ?hya10⟩) hs0 ?resta10
    case hya10 => (intro W hW; (try dsimp only at hW); go_simp; try with_reducible rfl)
    simp only [Act.put, List.setIfInBounds_toArray, List.set_cons_zero, List.set_cons_succ]
    refine wpTill_take (i := 11) (v := ?va11) rfl (by kernel_rfl) (fun _ _ _ h => h) (Or.inl ⟨by rfl, ?hya11⟩) hs0 ?resta11
    case hya11 => (intro W hW; (try dsimp only at hW); go_simp; try with_reducible rfl)
    simp only [Act.put, List.setIfInBounds_toArray, List.set_cons_zero, List.set_cons_succ]
    have hb3 := HB2.out.below hs0 HB2.out.lt
    have c3 : wd2.cell? ⟨f.g, 0, none⟩ = some (.slice f.ao f.bs.length f.cap) := by rw [hb3.cell]; rfl
    have f3 := hb3.frozen 0
    have HB3 := Lib.hid hb3
    clear hb3 lf lq
    refine wpTill_run (i := 12) (by kernel_rfl) rfl hs0 (fun K hK => ?_)
    go_simp
    refine hK _ _ ?_
    clear hK K
    refine wpTill_done (by kernel_rfl) ?_
    go_wp2
    go_end0
    have hg4 := grown_set wd2 f.g 0 (.slice f.ao sn f.cap)
    refine ⟨rfl, ?_, ?_⟩
    · rw [HT.out]
      have hl : (f.bs.take sn).length = sn := by rw [List.length_take]; omega
      refine ⟨?_, ?_⟩
      · have := HB3.out.set 0 (.slice f.ao sn f.cap)
        unfold Fil.v
        dsimp only
        rw [hl]
        exact this
      · unfold Fil.v
        dsimp only
        rw [hl]
        have h5 := (row_tu HR2.out (S := fun _ => False) (.new hs0) (fun _ _ h => h))
        exact (row_cut h5 hsn).kept hg4 (.inr (row_unlike (row_cut h5 hsn) HB3.out (by decide)))
    · exact ⟨hg4.os.trans (hs0.os.trans (HG2.out.os.trans HG0.out.os)), hg4.tape.trans (hs0.tape.trans (HG2.out.tape.trans HG0.out.tape)), hg4.output.trans (hs0.output.trans (HG2.out.output.trans HG0.out.output)),
        Nat.le_trans HG0.out.size (Nat.le_trans HG2.out.size (Nat.le_trans hs0.size hg4.size)), fun x hx hne => by
          have h6 := Nat.lt_of_lt_of_le hx HG0.out.size
          have h7 := Nat.lt_of_lt_of_le h6 HG2.out.size
          exact (hg4.block x (Nat.lt_of_lt_of_le h7 hs0.size) hne).trans ((hs0.block x h7).trans ((HG2.out.block x h6 hne).trans (HG0.out.block x hx (by simp))))⟩
  · have e5 : IntKind.i64.wrap (r + (m : Int)) = (kp : Int) := by rw [← hk0]; exact IntWalk.i64_in _ (by omega)
    clear e3 hk0
    go_wp2_with fail
    have hs0 := (Below.refl w2.heap.size w2).drew
    generalize hwd : w2.drew = wd2 at *
    refine wp_region_till (S := fun w' => Below w2.heap.size w2 w') (by kernel_rfl) ?_
    rw [hwd]
    clear hwd
    refine wpTill_take (i := 0) (v := ?vb0) rfl (by kernel_rfl) (fun _ _ _ h => h) (Or.inl ⟨by rfl, ?hyb0⟩) hs0 ?restb0
    case hyb0 => (intro W hW; (try dsimp only at hW); go_simp; try with_reducible rfl)
    simp only [Act.put, List.setIfInBounds_toArray, List.set_cons_zero, List.set_cons_succ]
    refine wpTill_take (i := 1) (v := ?vb1) rfl (by kernel_rfl) (fun _ _ _ h => h) (Or.inl ⟨by rfl, ?hyb1⟩) hs0 ?restb1
    case hyb1 => (intro W hW; (try dsimp only at hW); go_simp; try with_reducible rfl)
    simp only [Act.put, List.setIfInBounds_toArray, List.set_cons_zero, List.set_cons_succ]
    refine wpTill_take (i := 2) (v := ?vb2) rfl (by kernel_rfl) (fun _ _ _ h => h) (Or.inl ⟨by rfl, ?hyb2⟩) hs0 ?restb2
    case hyb2 => (intro W hW; (try dsimp only at hW); go_simp; try with_reducible rfl)
    simp only [Act.put, List.setIfInBounds_toArray, List.set_cons_zero, List.set_cons_succ]
    refine wpTill_take (i := 3) (v := ?vb3) rfl (by kernel_rfl) (fun _ _ _ h => h) (Or.inl ⟨by rfl, ?hyb3⟩) hs0 ?restb3
    case hyb3 => (intro W hW; (try dsimp only at hW); go_simp; try with_reducible rfl)
    simp only [Act.put, List.setIfInBounds_toArray, List.set_cons_zero, List.set_cons_succ]
    refine wpTill_take (i := 4) (v := ?vb4) rfl (by kernel_rfl) (fun _ _ _ h => h) (Or.inl ⟨by rfl, ?hyb4⟩) hs0 ?restb4
    case hyb4 => (intro W hW; (try dsimp only at hW); go_simp; try with_reducible rfl)
    simp only [Act.put, List.setIfInBounds_toArray, List.set_cons_zero, List.set_cons_succ]
    refine wpTill_take (i := 5) (v := ?vb5) rfl (by kernel_rfl) (fun _ _ _ h => h) (Or.inl ⟨by rfl, ?hyb5⟩) hs0 ?restb5
    case hyb5 => (intro W hW; (try dsimp only at hW); go_simp; try with_reducible rfl)
    simp only [Act.put, List.setIfInBounds_toArray, List.set_cons_zero, List.set_cons_succ]
    refine wpTill_take (i := 6) (v := ?vb6) rfl (by kernel_rfl) (fun _ _ _ h => h) (Or.inl ⟨by rfl, ?hyb6⟩) hs0 ?restb6
    case hyb6 => (intro W hW; (try dsimp only at hW); go_simp; try with_reducible rfl)
    simp only [Act.put, List.setIfInBounds_toArray, List.set_cons_zero, List.set_cons_succ]
    refine wpTill_take (i := 7) (v := ?vb7) rfl (by kernel_rfl) (fun _ _ _ h => h) (Or.inl ⟨by rfl, ?hyb7⟩) hs0 ?restb7
    case hyb7 => (intro W hW; (try dsimp only at hW); go_simp; try with_reducible rfl)
    simp only [Act.put, List.setIfInBounds_toArray, List.set_cons_zero, List.set_cons_succ]
    refine wpTill_take (i := 8) (v := ?vb8) rfl (by kernel_rfl) (fun _ _ _ h => h) (Or.inl ⟨by rfl, ?hyb8⟩) hs0 ?restb8
    case hyb8 => (intro W hW; (try dsimp only at hW); go_simp; try with_reducible rfl)
    simp only [Act.put, List.setIfInBounds_toArray, List.set_cons_zero, List.set_cons_succ]
    refine wpTill_take (i := 9) (v := ?vb9) rfl (by kernel_rfl) (fun _ _ _ h => h) (Or.inl ⟨by rfl, ?hyb9⟩) hs0 ?restb9
    case hyb9 => (intro W hW; (try dsimp only at hW); go_simp; try with_reducible rfl)
    simp only [Act.put, List.setIfInBounds_toArray, List.set_cons_zero, List.set_cons_succ]
    refine wpTill_take (i := 10) (v := ?vb10) rfl (by kernel_rfl) (fun _ _ _ h => h) (Or.inl ⟨by rfl, ?hyb10⟩) hs0 ?restb10
    case hyb10 => (intro W hW; (try dsimp only at hW); go_simp; try with_reducible rfl)
    simp only [Act.put, List.setIfInBounds_toArray, List.set_cons_zero, List.set_cons_succ]
    refine wpTill_take (i := 11) (v := ?vb11) rfl (by kernel_rfl) (fun _ _ _ h => h) (Or.inl ⟨by rfl, ?hyb11⟩) hs0 ?restb11
    case hyb11 => (intro W hW; (try dsimp only at hW); go_simp; try with_reducible rfl)
    simp only [Act.put, List.setIfInBounds_toArray, List.set_cons_zero, List.set_cons_succ]
    have hb3 := HB2.out.below hs0 HB2.out.lt
    have c3 : wd2.cell? ⟨f.g, 0, none⟩ = some (.slice f.ao f.bs.length f.cap) := by rw [hb3.cell]; rfl
    have f3 := hb3.frozen 0
    have HB3 := Lib.hid hb3
    clear hb3 lf lq
    refine wpTill_run (i := 12) (by kernel_rfl) rfl hs0 (fun K hK => ?_)
    go_simp
    refine hK _ _ ?_
    clear hK K
    refine wpTill_done (by kernel_rfl) ?_
    go_wp2
    go_end0
    have hg4 := grown_set wd2 f.g 0 (.slice f.ao sn f.cap)
    refine ⟨rfl, ?_, ?_⟩
    · rw [HT.out]
      have hl : (f.bs.take sn).length = sn := by rw [List.length_take]; omega
      refine ⟨?_, ?_⟩
      · have := HB3.out.set 0 (.slice f.ao sn f.cap)
        unfold Fil.v
        dsimp only
        rw [hl]
        exact this
      · unfold Fil.v
        dsimp only
        rw [hl]
        have h5 := (row_tu HR2.out (S := fun _ => False) (.new hs0) (fun _ _ h => h))
        exact (row_cut h5 hsn).kept hg4 (.inr (row_unlike (row_cut h5 hsn) HB3.out (by decide)))
    · exact ⟨hg4.os.trans (hs0.os.trans (HG2.out.os.trans HG0.out.os)), hg4.tape.trans (hs0.tape.trans (HG2.out.tape.trans HG0.out.tape)), hg4.output.trans (hs0.output.trans (HG2.out.output.trans HG0.out.output)),
        Nat.le_trans HG0.out.size (Nat.le_trans HG2.out.size (Nat.le_trans hs0.size hg4.size)), fun x hx hne => by
          have h6 := Nat.lt_of_lt_of_le hx HG0.out.size
          have h7 := Nat.lt_of_lt_of_le h6 HG2.out.size
          exact (hg4.block x (Nat.lt_of_lt_of_le h7 hs0.size) hne).trans ((hs0.block x h7).trans ((HG2.out.block x h6 hne).trans (HG0.out.block x hx (by simp))))⟩
end Go.Proofs.YtgeaacabpnepmaaGreatDoor
