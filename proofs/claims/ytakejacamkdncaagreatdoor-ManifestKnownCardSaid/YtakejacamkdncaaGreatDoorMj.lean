/- The document's text of a manifest, and Put: one contract each. -/
import Derived.Test.YtakejacamkdncaaGreatDoorMh
import Derived.Test.YtakejacamkdncaaGreatDoorMi
namespace Go.Proofs.YtakejacamkdncaaGreatDoor
open Go.RowKit
set_option linter.unusedVariables false
set_option linter.unusedSimpArgs false
set_option maxRecDepth 20000

section
variable {P : Program} {ops : Array Oper} {Q : Exit → Act → World → Prop} {md : Region.Mode} {S : World → Prop}
theorem wpTill_two {i j n : Nat} {oi oj : Oper} {listed : Array Bool} {a : Act} {w : World} (hr : Region.ready md ops listed = [i, j]) (hi : ops[i]? = some oi) (hj : ops[j]? = some oj) (hS : S w)
    (h1 : ∀ K' : Act → World → Prop, (∀ a' w', wpTill P md ops Q S n (listed.setIfInBounds i true) a' w' → K' a' w') → if Region.wanted oi (yielded ops a.tmps) = true then Oper.wp P oi a w K' Q else K' (a.put oi.dst undef) w)
    (h2 : ∀ K' : Act → World → Prop, (∀ a' w', wpTill P md ops Q S n (listed.setIfInBounds j true) a' w' → K' a' w') → if Region.wanted oj (yielded ops a.tmps) = true then Oper.wp P oj a w K' Q else K' (a.put oj.dst undef) w) :
    wpTill P md ops Q S (n + 1) listed a w :=
  ⟨fun k => (by rw [hr] at k; cases k), fun _ => hS, fun l hl => by
    rw [hr] at hl
    rcases List.mem_cons.1 hl with rfl | hl
    · exact wpOp_step hi h1
    · rw [List.mem_singleton] at hl
      subst hl
      exact wpOp_step hj h2⟩
end
theorem keep_rowB {w1 w2 : World} (h : Below w1.heap.size w1 w2) {g : Nat} (hg : g < w1.heap.size) : rowOf w2 g = rowOf w1 g := by
  unfold rowOf; rw [h.block g hg]
theorem G.on_alloc {wd w1 : World} {o : Obj} (h : G.On wd.heap.size wd w1) : G.On wd.heap.size wd (w1.alloc o) := G.on_step h (below_of_grown (grown_alloc w1 o))
theorem G.on_drewB {B : Nat} {w w' : World} (h : G.On B w w') : G.On B w w'.drew := Below.drew h
theorem strOf1 (a : Nat) : strOf #[.int .u8 (a : Int)] = str [UInt8.ofNat a] := by simp [strOf, byteV]
theorem mle_one {n : Nat} (h : n < 256) : le 1 n = [UInt8.ofNat n] := by simp [le, Nat.mod_eq_of_lt h]
attribute [local go_sem ↓] ld_rman ld_rparts ld_nums ld_u64 ld_u8
attribute [local go_sem] rowOf_new rowOf_old rowOf_drew rowOf_drewN drew_size
set_option maxHeartbeats 4000000 in
theorem payload_c (m : Mf) (so : Option Addr) (sc : Nat) (co : Option Addr) (cc : Nat) (w : World) (h : MfAt w m so co) (h1 : m.sg.length < 256) (h2 : m.ck.length < 256) :
    Calls Tryz.prog 65 #[.agg (mcs m so sc co cc)] w fun R w' => R = .returned (.string (str (pay m))) ∧ Below w.heap.size w w' := by
  have H0 := Lib.hid (Loc.one w 48 (mcs m so sc co cc))
  have HA := Lib.hid h
  have he := h.fit.ep
  have hp := h.fit.pl
  have KL : Hid (∀ W, Calls Tryz.prog 105 #[.int .u64 (m.ep : Int)] W fun E w' => E = .returned (.string (str (le 8 m.ep))) ∧ Below W.heap.size W w') := fun W => long_c m.ep W he
  clear h
  go_enter Tryz.func65, Tryz.ntmps65
  go_upto_region 1 with fail
  generalize w.alloc (.cells (mcs m so sc co cc) 48) = wz at *
  obtain ⟨X, hX⟩ : ∃ X, X = le 8 m.ep ++ [UInt8.ofNat m.pl, UInt8.ofNat m.sg.length] := ⟨_, rfl⟩
  have HX := Lib.hid hX
  have HXL : Hid (X.length = 10) := by show _ = _; rw [hX]; simp [le_length]
  have HE : Hid (str (le 8 m.ep) ++ str [UInt8.ofNat m.pl, UInt8.ofNat m.sg.length] = str X) := by show _ = _; rw [hX, str_append]
  clear hX
  go_cut [3] (fun v wx => v = .string (str X) ∧ Hid (Below wz.heap.size wz wx))
  case first =>
    have o0 := G.On.drew wz.heap.size wz
    have o00 := G.On.refl wz.heap.size wz
    have a_1 := H0.out.onO ty_u64 0 rfl 0 (v := .int .u64 (m.ep : Int)) rfl
    have a_2 := H0.out.onO ty_u8 0 rfl 1 (v := .int .u8 (m.pl : Int)) rfl
    have a_3 := H0.out.onO ty_rparts 0 rfl 2 (v := .slice so m.sg.length sc) rfl
    have u1 := u8_id h1
    have n1 : ¬ (9223372036854775807 < (str (le 8 m.ep)).size + (str [UInt8.ofNat m.pl, UInt8.ofNat m.sg.length]).size) := by simp only [str_size, le_length, List.length_cons, List.length_nil]; omega
    refine wp_region_till (S := fun w' => G.On wz.heap.size wz w') (by kernel_rfl) ?_
    refine wpTill_take (i := 0) (v := ?vq1) rfl (by kernel_rfl) (fun _ _ _ h => h) (Or.inl ⟨by rfl, ?hq1⟩) o0 ?rq1
    case hq1 => (intro W hW; (try dsimp only at hW); go_simp; try with_reducible rfl)
    simp only [Act.put, List.setIfInBounds_toArray, List.set_cons_zero, List.set_cons_succ, List.getElem_toArray, List.getElem_cons_succ, List.getElem_cons_zero]
    refine wpTill_take (i := 1) (v := ?vq2) rfl (by kernel_rfl) (fun _ _ _ h => h) (Or.inl ⟨by rfl, ?hq2⟩) o0 ?rq2
    case hq2 => (intro W hW; (try dsimp only at hW); go_simp; try with_reducible rfl)
    simp only [Act.put, List.setIfInBounds_toArray, List.set_cons_zero, List.set_cons_succ, List.getElem_toArray, List.getElem_cons_succ, List.getElem_cons_zero]
    refine wpTill_take (i := 3) (v := ?vq3) rfl (by kernel_rfl) (fun _ _ _ h => h) (Or.inl ⟨by rfl, ?hq3⟩) o0 ?rq3
    case hq3 => (intro W hW; (try dsimp only at hW); go_simp; try with_reducible rfl)
    simp only [Act.put, List.setIfInBounds_toArray, List.set_cons_zero, List.set_cons_succ, List.getElem_toArray, List.getElem_cons_succ, List.getElem_cons_zero]
    refine wpTill_take (i := 4) (v := ?vq4) rfl (by kernel_rfl) (fun _ _ _ h => h) (Or.inl ⟨by rfl, ?hq4⟩) o0 ?rq4
    case hq4 => (intro W hW; (try dsimp only at hW); go_simp; try with_reducible rfl)
    simp only [Act.put, List.setIfInBounds_toArray, List.set_cons_zero, List.set_cons_succ, List.getElem_toArray, List.getElem_cons_succ, List.getElem_cons_zero]
    refine wpTill_take (i := 5) (v := ?vq5) rfl (by kernel_rfl) (fun _ _ _ h => h) (Or.inl ⟨by rfl, ?hq5⟩) o0 ?rq5
    case hq5 => (intro W hW; (try dsimp only at hW); go_simp; try with_reducible rfl)
    simp only [Act.put, List.setIfInBounds_toArray, List.set_cons_zero, List.set_cons_succ, List.getElem_toArray, List.getElem_cons_succ, List.getElem_cons_zero]
    refine wpTill_take (i := 6) (v := ?vq6) rfl (by kernel_rfl) (fun _ _ _ h => h) (Or.inl ⟨by rfl, ?hq6⟩) o0 ?rq6
    case hq6 => (intro W hW; (try dsimp only at hW); go_simp; try with_reducible rfl)
    simp only [Act.put, List.setIfInBounds_toArray, List.set_cons_zero, List.set_cons_succ, List.getElem_toArray, List.getElem_cons_succ, List.getElem_cons_zero]
    refine wpTill_take (i := 7) (v := ?vq7) rfl (by kernel_rfl) (fun _ _ _ h => h) (Or.inl ⟨by rfl, ?hq7⟩) o0 ?rq7
    case hq7 => (intro W hW; (try dsimp only at hW); go_simp; try with_reducible rfl)
    simp only [Act.put, List.setIfInBounds_toArray, List.set_cons_zero, List.set_cons_succ, List.getElem_toArray, List.getElem_cons_succ, List.getElem_cons_zero]
    refine wpTill_take (i := 8) (v := ?vq8) rfl (by kernel_rfl) (fun _ _ _ h => h) (Or.inl ⟨by rfl, ?hq8⟩) o0 ?rq8
    case hq8 => (intro W hW; (try dsimp only at hW); go_simp; try with_reducible rfl)
    simp only [Act.put, List.setIfInBounds_toArray, List.set_cons_zero, List.set_cons_succ, List.getElem_toArray, List.getElem_cons_succ, List.getElem_cons_zero]
    refine wpTill_two (i := 2) (j := 9) (by kernel_rfl) rfl rfl o0 (fun K hK => ?_) (fun K hK => ?_)
    · go_simp
      go_at_call 105
      with_reducible refine (KL.out _).mono ?_
      rintro E w6 ⟨rfl, hb6⟩
      have o6 := G.on_step (wd := wz) o0 hb6
      refine hK _ _ ?_
      clear hK K
      refine wpTill_run (i := 9) (by kernel_rfl) rfl o6 (fun K hK => ?_)
      go_simp
      refine hK _ _ ?_
      clear hK K
      have o8 : G.On wz.heap.size wz (w6.alloc (.cells #[.int .u8 (m.pl : Int), .int .u8 (m.sg.length : Int)] 5)) := G.on_alloc o6
      have hr8 : rowOf (w6.alloc (.cells #[.int .u8 (m.pl : Int), .int .u8 (m.sg.length : Int)] 5)) w6.heap.size = #[.int .u8 (m.pl : Int), .int .u8 (m.sg.length : Int)] := rowOf_cells (Cells.made w6 _ _)
      have hl8 : w6.heap.size < (w6.alloc (.cells #[.int .u8 (m.pl : Int), .int .u8 (m.sg.length : Int)] 5)).heap.size := Cells.lt (Cells.made w6 5 #[.int .u8 (m.pl : Int), .int .u8 (m.sg.length : Int)])
      refine wpTill_run (i := 10) (by kernel_rfl) rfl o8 (fun K hK => ?_)
      have hc9 := run_conv (w6.alloc (.cells #[.int .u8 (m.pl : Int), .int .u8 (m.sg.length : Int)] 5)) w6.heap.size 2 (by rw [hr8]; rfl) (by decide) (by rw [hr8]; simp [allU8_cons, allU8_nil]; omega)
      rw [hr8, strOf2] at hc9
      go_simp
      refine hK _ _ ?_
      clear hK K
      refine wpTill_run (i := 11) (by kernel_rfl) rfl o8 (fun K hK => ?_)
      go_simp
      refine hK _ _ ?_
      clear hK K
      refine wpTill_run (i := 12) (by kernel_rfl) rfl o8 (fun K hK => ?_)
      go_simp
      refine hK _ _ ?_
      clear hK K
      refine wpTill_done (by kernel_rfl) ?_
      have HOZ := Lib.hid o8
      go_wp2_with fail
      go_meet
      exact ⟨by rw [← HE.out], HOZ.out⟩
    · go_simp
      refine hK _ _ ?_
      clear hK K
      have o11 : G.On wz.heap.size wz (wz.alloc (.cells #[.int .u8 (m.pl : Int), .int .u8 (m.sg.length : Int)] 5)).drew := G.on_drewB (G.on_alloc o00)
      have hr11 : rowOf (wz.alloc (.cells #[.int .u8 (m.pl : Int), .int .u8 (m.sg.length : Int)] 5)).drew wz.heap.size = #[.int .u8 (m.pl : Int), .int .u8 (m.sg.length : Int)] := rowOf_cells (Cells.made wz _ _)
      have hl11 : wz.heap.size < (wz.alloc (.cells #[.int .u8 (m.pl : Int), .int .u8 (m.sg.length : Int)] 5)).drew.heap.size := Cells.lt (Cells.made wz 5 #[.int .u8 (m.pl : Int), .int .u8 (m.sg.length : Int)])
      refine wpTill_two (i := 2) (j := 10) (by kernel_rfl) rfl rfl o11 (fun K hK => ?_) (fun K hK => ?_)
      · go_simp
        go_at_call 105
        with_reducible refine (KL.out _).mono ?_
        rintro E w12 ⟨rfl, hb12⟩
        have o12 := G.on_step (wd := wz) o11 hb12
        have hr12 : rowOf w12 wz.heap.size = #[.int .u8 (m.pl : Int), .int .u8 (m.sg.length : Int)] := by rw [keep_rowB hb12 hl11, hr11]
        have hl12 : wz.heap.size < w12.heap.size := Nat.lt_of_lt_of_le hl11 hb12.size
        refine hK _ _ ?_
        clear hK K
        refine wpTill_run (i := 10) (by kernel_rfl) rfl o12 (fun K hK => ?_)
        have hc14 := run_conv w12 wz.heap.size 2 (by rw [hr12]; rfl) (by decide) (by rw [hr12]; simp [allU8_cons, allU8_nil]; omega)
        rw [hr12, strOf2] at hc14
        go_simp
        refine hK _ _ ?_
        clear hK K
        refine wpTill_run (i := 11) (by kernel_rfl) rfl o12 (fun K hK => ?_)
        go_simp
        refine hK _ _ ?_
        clear hK K
        refine wpTill_run (i := 12) (by kernel_rfl) rfl o12 (fun K hK => ?_)
        go_simp
        refine hK _ _ ?_
        clear hK K
        refine wpTill_done (by kernel_rfl) ?_
        have HOZ := Lib.hid o12
        go_wp2_with fail
        go_meet
        exact ⟨by rw [← HE.out], HOZ.out⟩
      · have hc16 := run_conv (wz.alloc (.cells #[.int .u8 (m.pl : Int), .int .u8 (m.sg.length : Int)] 5)).drew wz.heap.size 2 (by rw [hr11]; rfl) (by decide) (by rw [hr11]; simp [allU8_cons, allU8_nil]; omega)
        rw [hr11, strOf2] at hc16
        go_simp
        refine hK _ _ ?_
        clear hK K
        refine wpTill_run (i := 2) (by kernel_rfl) rfl o11 (fun K hK => ?_)
        go_simp
        go_at_call 105
        with_reducible refine (KL.out _).mono ?_
        rintro E w17 ⟨rfl, hb17⟩
        have o17 := G.on_step (wd := wz) o11 hb17
        refine hK _ _ ?_
        clear hK K
        refine wpTill_run (i := 11) (by kernel_rfl) rfl o17 (fun K hK => ?_)
        go_simp
        refine hK _ _ ?_
        clear hK K
        refine wpTill_run (i := 12) (by kernel_rfl) rfl o17 (fun K hK => ?_)
        go_simp
        refine hK _ _ ?_
        clear hK K
        refine wpTill_done (by kernel_rfl) ?_
        have HOZ := Lib.hid o17
        go_wp2_with fail
        go_meet
        exact ⟨by rw [← HE.out], HOZ.out⟩
  case rest =>
    obtain ⟨rfl, HB1⟩ := hcut
    have HX0 : ∀ W, Below wz.heap.size wz W → Loc w.heap.size w W [(w.heap.size, 48, mcs m so sc co cc)] := fun W hW => H0.out.to hW
    have HL := Lib.hid HX0
    clear HX0 HE KL
    rename_i w1
    go_wp2
    go_loopw [3, 4] (fun v i wr => ∃ k : Nat, k ≤ m.sg.length ∧ i = .int .i64 (k : Int) ∧ v = .string (str (X ++ sgb (m.sg.take k))) ∧ Hid (Below wz.heap.size wz wr)) (fun _ i _ => m.sg.length - (intOf i).toNat)
    case atStart => exact ⟨0, Nat.zero_le _, rfl, by simp [sgb], HB1.out⟩
    case round =>
      obtain ⟨k, hk, rfl, rfl, HB⟩ := hrel
      clear HB1
      rename_i wr
      have hH := HL.out wr HB.out
      have l2 := hH.ldO ty_rparts 0 rfl 2 (v := .slice so m.sg.length sc) rfl
      by_cases hlt : k < m.sg.length
      · have hlt1 : (k : Int) < (m.sg.length : Int) := by omega
        obtain ⟨bb, oo, hso, hone⟩ := (HA.out.ps.to hH.be).one hlt
        have a1 := fun W (hW : G.On wr.heap.size wr W) => (hone W hW).2.1
        have a2 := fun W (hW : G.On wr.heap.size wr W) => (hone W hW).2.2
        have hpf := HA.out.fit.sg _ (List.getElem_mem hlt)
        have HST : Hid (sgb (m.sg.take (k + 1)) = sgb (m.sg.take k) ++ le 8 (m.sg[k]'hlt).1 ++ le 8 (m.sg[k]'hlt).2) := by
          show _ = _; rw [List.take_succ_eq_append_getElem hlt, sgb_snoc]
        obtain ⟨⟨p1, p2⟩, hp⟩ : ∃ p, p = m.sg[k]'hlt := ⟨_, rfl⟩
        rw [← hp] at hpf a1 a2 HST
        dsimp only at hpf a1 a2 HST
        obtain ⟨hp1, hp2⟩ := hpf
        have a3 := hH.onO ty_rparts 0 rfl 2 (v := .slice so m.sg.length sc) rfl
        clear hone hp
        subst hso
        have HYL : Hid ((X ++ sgb (m.sg.take k)).length ≤ 5000) := by show _ ≤ _; rw [List.length_append, HXL.out, sgb_len, List.length_take]; omega
        obtain ⟨Y, hY⟩ : ∃ Y, Y = X ++ sgb (m.sg.take k) := ⟨_, rfl⟩
        rw [← hY] at HYL ⊢
        have HY := Lib.hid hY
        have K1 : Hid (∀ W, Calls Tryz.prog 105 #[.int .u64 (p1 : Int)] W fun E w' => E = .returned (.string (str (le 8 p1))) ∧ Below W.heap.size W w') := fun W => long_c p1 W hp1
        have K2 : Hid (∀ W, Calls Tryz.prog 105 #[.int .u64 (p2 : Int)] W fun E w' => E = .returned (.string (str (le 8 p2))) ∧ Below W.heap.size W w') := fun W => long_c p2 W hp2
        have n1 : ¬ (9223372036854775807 < (str Y).size + (str (le 8 p1)).size) := by have := HYL.out; simp only [str_size, le_length]; omega
        have n2 : ¬ (9223372036854775807 < (str Y).size + (str (le 8 p1)).size + (str (le 8 p2)).size) := by have := HYL.out; simp only [str_size, le_length]; omega
        have HE2 : Hid (str Y ++ str (le 8 p1) ++ str (le 8 p2) = str (X ++ sgb (m.sg.take (k + 1)))) := by show _ = _; rw [HST.out, HY.out]; simp [str_append]
        clear hY
        go_upto_region 5 with fail
        clear l2
        have o0 := G.On.drew wr.heap.size wr
        go_region_held3 (fun w' => G.On wr.heap.size wr w') (first | with_reducible assumption) (first
          | (go_at_call 105; (with_reducible refine (K1.out _).mono ?_); rintro E w7 ⟨rfl, hb7⟩; have o7 := G.on_step (wd := wr) (by assumption) hb7)
          | (go_at_call 105; (with_reducible refine (K2.out _).mono ?_); rintro E w7 ⟨rfl, hb7⟩; have o7 := G.on_step (wd := wr) (by assumption) hb7))
        rename_i w8 _ o8
        have HO8 := Lib.hid o8
        clear o8 o0 a1 a2 a3
        go_wp2
        go_roundw
        case rel => exact ⟨k + 1, by omega, by go_num, by rw [HE2.out], HB.out.trans (HO8.out.mono HB.out.size)⟩
        case measure => simp [intOf]; omega
      · have hlt1 : ¬ (k : Int) < (m.sg.length : Int) := by omega
        obtain rfl : k = m.sg.length := by omega
        rw [List.take_length]
        have l3 := hH.ldO ty_nums 0 rfl 3 (v := .slice co m.ck.length cc) rfl
        have hr1 : rowOf (wr.alloc (.cells #[.int .u8 (m.ck.length : Int)] 5)) wr.heap.size = #[.int .u8 (m.ck.length : Int)] := rowOf_cells (Cells.made wr _ _)
        have hc1 := run_conv (wr.alloc (.cells #[.int .u8 (m.ck.length : Int)] 5)) wr.heap.size 1 (by rw [hr1]; rfl) (by decide) (by rw [hr1]; simp [allU8_cons, allU8_nil]; omega)
        rw [hr1, strOf1] at hc1
        clear hr1 hlt
        have u1 := u8_id h2
        obtain ⟨Y, hY⟩ : ∃ Y, Y = X ++ sgb m.sg := ⟨_, rfl⟩
        have HYL : Hid (Y.length ≤ 5000) := by show _ ≤ _; rw [hY, List.length_append, HXL.out, sgb_len]; omega
        rw [← hY]
        have HY := Lib.hid hY
        clear hY
        have n1 : ¬ (9223372036854775807 < (str Y).size + (str [UInt8.ofNat m.ck.length]).size) := by have := HYL.out; simp only [str_size, List.length_cons, List.length_nil]; omega
        have HE2 : Hid (str Y ++ str [UInt8.ofNat m.ck.length] = str (Y ++ le 1 m.ck.length)) := by show _ = _; rw [mle_one h2, str_append]
        have HB2 := Lib.hid (HB.out.trans ((mb_alloc wr (.cells #[.int .u8 (m.ck.length : Int)] 5)).mono HB.out.size))
        go_wp2
        rw [HE2.out]
        obtain ⟨Z, hZ⟩ : ∃ Z, Z = Y ++ le 1 m.ck.length := ⟨_, rfl⟩
        have HZL : Hid (Z.length ≤ 5001) := by show _ ≤ _; rw [hZ, List.length_append, le_length]; have := HYL.out; omega
        rw [← hZ]
        have HZ := Lib.hid hZ
        clear hZ l3 hc1 u1 n1 l2
        generalize wr.alloc (.cells #[.int .u8 (m.ck.length : Int)] 5) = wy at *
        go_loopw [3, 5] (fun v i wx => ∃ j : Nat, j ≤ m.ck.length ∧ i = .int .i64 (j : Int) ∧ v = .string (str (Z ++ ckb (m.ck.take j))) ∧ Hid (Below wz.heap.size wz wx)) (fun _ i _ => m.ck.length - (intOf i).toNat)
        case atStart => exact ⟨0, Nat.zero_le _, rfl, by simp [ckb], HB2.out⟩
        case round =>
          obtain ⟨j, hj, rfl, rfl, HC⟩ := hrel
          clear HB2
          have hH := HL.out _ HC.out
          have l2 := hH.ldO ty_nums 0 rfl 3 (v := .slice co m.ck.length cc) rfl
          by_cases hlt : j < m.ck.length
          · have hlt1 : (j : Int) < (m.ck.length : Int) := by omega
            obtain ⟨bb, oo, hco, hone⟩ := (HA.out.ns.to hH.be).one hlt
            have a1 := hone _ (Below.refl _ _)
            have hcf := HA.out.fit.ck _ (List.getElem_mem hlt)
            have HST : Hid (ckb (m.ck.take (j + 1)) = ckb (m.ck.take j) ++ le 8 (m.ck[j]'hlt)) := by
              show _ = _; rw [List.take_succ_eq_append_getElem hlt, ckb_snoc]
            obtain ⟨c, hc⟩ : ∃ c, c = m.ck[j]'hlt := ⟨_, rfl⟩
            rw [← hc] at hcf a1 HST
            clear hone hc
            subst hco
            have HYL : Hid ((Z ++ ckb (m.ck.take j)).length ≤ 9000) := by show _ ≤ _; rw [List.length_append, ckb_len, List.length_take]; have := HZL.out; omega
            obtain ⟨V, hV⟩ : ∃ V, V = Z ++ ckb (m.ck.take j) := ⟨_, rfl⟩
            rw [← hV] at HYL ⊢
            have HV := Lib.hid hV
            have n1 : ¬ (9223372036854775807 < (str V).size + (str (le 8 c)).size) := by have := HYL.out; simp only [str_size, le_length]; omega
            have HE2 : Hid (str V ++ str (le 8 c) = str (Z ++ ckb (m.ck.take (j + 1)))) := by show _ = _; rw [HST.out, HV.out]; simp [str_append]
            clear hV
            go_wp2_with fail
            refine (long_c c _ hcf).mono ?_
            rintro E w7 ⟨rfl, hb7⟩
            have HB7 := Lib.hid (HC.out.trans (hb7.mono HC.out.size))
            clear hb7 a1 l2
            go_wp2
            go_roundw
            case rel => exact ⟨j + 1, by omega, by go_num, by rw [HE2.out], HB7.out⟩
            case measure => simp [intOf]; omega
          · have hlt1 : ¬ (j : Int) < (m.ck.length : Int) := by omega
            obtain rfl : j = m.ck.length := by omega
            have HF : Hid (Z ++ ckb (m.ck.take m.ck.length) = pay m) := by
              show _ = _
              rw [List.take_length, HZ.out, HY.out, HX.out, pay, mle_one hp, mle_one h1]; simp [List.append_assoc]
            rw [HF.out]
            go_wp2_with fail
            go_ret
            exact ⟨rfl, hH.be⟩
set_option maxHeartbeats 1000000 in
theorem rput_c (m : Mf) (so : Option Addr) (sc : Nat) (co : Option Addr) (cc : Nat) (w : World) (h : MfAt w m so co) :
    Calls Tryz.prog 36 #[.agg (mcs m so sc co cc)] w (PtPost m w) := by
  have H0 := Lib.hid (Loc.one w 48 (mcs m so sc co cc))
  have HA := Lib.hid h
  have HM : Hid (∀ W, MfAt W m so co → Calls Tryz.prog 63 #[.agg (mcs m so sc co cc)] W fun R w' => R = .returned (.bool m.ok) ∧ Below W.heap.size W w') := fun W hW => may_c m so sc co cc W hW
  obtain ⟨Q, hQ⟩ : ∃ Q, Q = PtPost m w := ⟨_, rfl⟩
  rw [← hQ]
  have HQ := Lib.hid hQ
  clear h hQ
  cases hok : m.ok
  · have HE := Lib.hid (pt_no hok)
    rw [hok] at HM
    clear hok
    go_enter Tryz.func36, Tryz.ntmps36
    go_upto_region 1 with fail
    generalize w.alloc (.cells (mcs m so sc co cc) 48) = wa at *
    have l0 := H0.out.ldA ty_rman 0 rfl 0 (vs := mcs m so sc co cc) rfl (Nat.le_of_ble_eq_true rfl)
    go_wp2_with fail
    refine (HM.out wa (HA.out.to H0.out.be)).mono ?_
    rintro R w1 ⟨rfl, hb1⟩
    go_wp2
    rw [HQ.out]
    unfold PtPost
    rw [HE.out.1, HE.out.2]
    exact ⟨rfl, (H0.out.to hb1).be⟩
  · have HE := Lib.hid (pt_yes hok)
    have HPL := Lib.hid (pay_short hok)
    have HN := Lib.hid (Mf.ok_len hok)
    rw [hok] at HM
    clear hok
    go_enter Tryz.func36, Tryz.ntmps36
    go_upto_region 1 with fail
    generalize w.alloc (.cells (mcs m so sc co cc) 48) = wa at *
    have l0 := H0.out.ldA ty_rman 0 rfl 0 (vs := mcs m so sc co cc) rfl (Nat.le_of_ble_eq_true rfl)
    go_wp2_with fail
    refine (HM.out wa (HA.out.to H0.out.be)).mono ?_
    rintro R w1 ⟨rfl, hb1⟩
    have H1 := H0.out.to hb1
    have l1 := H1.ldA ty_rman 0 rfl 0 (vs := mcs m so sc co cc) rfl (Nat.le_of_ble_eq_true rfl)
    go_wp2_with fail
    refine (payload_c m so sc co cc w1 (HA.out.to H1.be) (by have := HN.out; omega) (by have := HN.out; omega)).mono ?_
    rintro R w2 ⟨rfl, hb2⟩
    have hS : putS (pay m) = enc m := if_pos (by have := HPL.out; omega)
    have hE : putE (pay m) = 0 := if_pos (by have := HPL.out; omega)
    go_wp2_with fail
    refine (refPut (pay m) _ (by have := HPL.out; simp only [maxLen]; omega)).mono ?_
    rintro E w9 ⟨rfl, hg9⟩
    rw [hS, hE]
    have H9 := Lib.hid (((H1.to hb2).grown hg9).be)
    clear hg9
    go_wp2
    rw [HQ.out]
    unfold PtPost
    rw [HE.out.1, HE.out.2]
    exact ⟨rfl, H9.out⟩
end Go.Proofs.YtakejacamkdncaaGreatDoor
