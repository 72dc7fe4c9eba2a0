/- DigestApart: the walk. Nothing is assumed beyond the bounds of the row's own types. -/
import Derived.Test.YtobfoenilfpiiaaDoorVd
import Derived.Test.YtobfoenilfpiiaaDoorVj
import Derived.Deep.RegionHeld3
import Derived.BigQuiet
import Derived.StillTailTactics
import Derived.IntWalk
namespace Go.Proofs.YtobfoenilfpiiaaDoor
open Go.RowKit
set_option linter.unusedVariables false
set_option linter.unusedSimpArgs false
set_option maxRecDepth 20000
attribute [local go_sem ↓] ld_pair st_pair
/-- The change's six cells. -/
abbrev chc (S : List UInt8) (lo : Option Addr) (len cap n c p q : Nat) : Array Value := #[.string (str S), .slice lo len cap, .int .u16 (n : Int), .int .u8 (c : Int), .int .u8 (p : Int), .int .u8 (q : Int)]
set_option maxHeartbeats 4000000 in
theorem law_apart (a b : Nat) (S : List UInt8) (l : List (Nat × Nat)) (lo : Option Addr) (cap n c p q : Nat) (w : World) (ha : a < 18446744073709551616) (hb : b < 18446744073709551616) (hS : S.length ≤ maxLen) (hP : Pis w lo l) (hl : l.length ≤ maxLen) (hn : n < 65536) (hc : c < 256) (hp : p < 256) (hq : q < 256) (ht : Tab w) :
    Calls Tryd.prog 6 #[.int .u64 (a : Int), .int .u64 (b : Int), .agg #[.string (str S), .slice lo l.length cap, .int .u16 (n : Int), .int .u8 (c : Int), .int .u8 (p : Int), .int .u8 (q : Int)]] w fun E w' => E = .returned (.bool true) ∧ Below w.heap.size w w' := by
  have HP := Lib.hid hP
  have HT := Lib.hid ht
  have H0 := Lib.hid (Loc.one w 46 #[.string (str S), .slice lo l.length cap, .int .u16 (n : Int), .int .u8 (c : Int), .int .u8 (p : Int), .int .u8 (q : Int)])
  have hsS := str_size S
  have CJA := Lib.hid (fun W => join_c a S W ha hS)
  have CJB := Lib.hid (fun W => join_c b S W hb hS)
  have hr : (((djn a S : Nat) : Int) == ((djn b S : Nat) : Int)) = ((a : Int) == (b : Int)) := by
    by_cases h : a = b
    · subst h; simp
    · have h1 : djn a S ≠ djn b S := fun e => h (djn_inj S ha hb e)
      rw [beq_eq_false_iff_ne.2 (by omega), beq_eq_false_iff_ne.2 (by omega)]
  obtain ⟨ja, hja⟩ : ∃ j, j = djn a S := ⟨_, rfl⟩
  obtain ⟨jb, hjb⟩ : ∃ j, j = djn b S := ⟨_, rfl⟩
  rw [← hja] at CJA hr
  rw [← hjb] at CJB hr
  obtain ⟨r, hr1⟩ : ∃ r : Bool, ((a : Int) == (b : Int)) = r := ⟨_, rfl⟩
  rw [hr1] at hr
  have HJA := Lib.hid hja
  clear hP ht hjb hja
  go_enter Tryd.func6, Tryd.ntmps6
  go_upto_region 1 with fail
  generalize w.alloc (.cells #[.string (str S), .slice lo l.length cap, .int .u16 (n : Int), .int .u8 (c : Int), .int .u8 (p : Int), .int .u8 (q : Int)] 46) = wa at *
  have f0 : wa.cell? ⟨w.heap.size, 0, none⟩ = some (.string (str S)) := (H0.out.get 0 rfl).cell 0
  have f1 : wa.cell? ⟨w.heap.size, 1, none⟩ = some (.slice lo l.length cap) := (H0.out.get 0 rfl).cell 1
  by_cases hc1 : 1500 < S.length
  · have hi1 : (1500 : Int) < (S.length : Int) := by omega
    go_wp2_with fail
    refine (works_c _ (tab_lo HT.out H0.out.be)).mono ?_
    rintro E w1 ⟨rfl, hb1⟩
    go_wp2
    go_ret
    exact ⟨rfl, (H0.out.to hb1).be⟩
  have hi1 : ¬ (1500 : Int) < (S.length : Int) := by omega
  by_cases hc3 : 500 < l.length
  · have hi3 : (500 : Int) < (l.length : Int) := by omega
    go_wp2_with fail
    refine (works_c _ (tab_lo HT.out H0.out.be)).mono ?_
    rintro E w1 ⟨rfl, hb1⟩
    go_wp2
    go_ret
    exact ⟨rfl, (H0.out.to hb1).be⟩
  have hi3 : ¬ (500 : Int) < (l.length : Int) := by omega
  go_upto_region 3 with fail
  go_quiet (first
    | (go_at_call 9; with_reducible exact Calls.quiet_of_same ((CJA.out _).mono fun _ _ hh => ⟨hh.1, hh.2.symm⟩))
    | (go_at_call 9; with_reducible exact Calls.quiet_of_same ((CJB.out _).mono fun _ _ hh => ⟨hh.1, hh.2.symm⟩)))
  clear f0 f1 hr hr1 CJB hc1 hi1 hi3
  have H1 := Lib.hid (H0.out.to (below_drewN (Below.refl wa.heap.size wa) nq))
  clear H0
  generalize wa.drewN nq = wb at *
  have f0 : wb.cell? ⟨w.heap.size, 0, none⟩ = some (.string (str S)) := (H1.out.get 0 rfl).cell 0
  have f3 : wb.cell? ⟨w.heap.size, 3, none⟩ = some (.int .u8 (c : Int)) := (H1.out.get 0 rfl).cell 3
  obtain ⟨z, hz⟩ : ∃ z : Bool, (decide (0 < S.length) && decide (0 < c)) = z := ⟨_, rfl⟩
  have HZ := Lib.hid hz
  clear hz
  go_upto_region 5 with fail
  go_cut [43] (fun s43 wx => s43 = .bool z ∧ wb = wx)
  case first =>
    by_cases h1 : 0 < S.length
    · have h1i : (0 : Int) < (S.length : Int) := by omega
      by_cases h2 : 0 < c
      · have h2i : (0 : Int) < (c : Int) := by omega
        go_wp2_with fail
        all_goals go_meet
        all_goals exact ⟨by rw [← HZ.out, decide_eq_true h1, decide_eq_true h2]; rfl, rfl⟩
      · have h2i : ¬ (0 : Int) < (c : Int) := by omega
        go_wp2_with fail
        all_goals go_meet
        all_goals exact ⟨by rw [← HZ.out, decide_eq_true h1, decide_eq_false h2]; rfl, rfl⟩
    · have h1i : ¬ (0 : Int) < (S.length : Int) := by omega
      go_wp2_with fail
      all_goals go_meet
      all_goals exact ⟨by rw [← HZ.out, decide_eq_false h1]; rfl, rfl⟩
  case rest =>
  obtain ⟨rfl, rfl⟩ := hcut
  go_upto_if 43 with fail
  go_cut [] (fun wx => Hid (Loc w.heap.size w wx [(w.heap.size, 46, #[.string (str S), .slice lo l.length cap, .int .u16 (n : Int), .int .u8 (c : Int), .int .u8 (p : Int), .int .u8 (q : Int)])]))
  case first =>
    cases z with
    | false =>
      go_wp2_with fail
      all_goals go_meet
      all_goals exact H1.out
    | true =>
      have hz := HZ.out
      simp only [Bool.and_eq_true, decide_eq_true_eq] at hz
      obtain ⟨hS0, hc0⟩ := hz
      have hcv := Lib.run_convert_string_bytes (P := Tryd.prog) wb 9 47 5 (str S) Tryd.underlying9 Tryd.underlying47 Tryd.underlying5
      have hbk := Lib.hid (byb_bytes wb 5 S)
      have hg := Lib.hid (grown_bytes wb 5 (str S) none)
      generalize Lib.bytesWorld wb 5 (str S) = wB at *
      generalize grownCap wb (str S).size 0 5 = capb at *
      have H2 := Lib.hid (H1.out.grown hg.out)
      have hgb := (H1.out.get 0 rfl).lt
      generalize hgw : wb.heap.size = gb at *
      have f2 : wB.cell? ⟨w.heap.size, 2, none⟩ = some (.int .u16 (n : Int)) := (H2.out.get 0 rfl).cell 2
      have f3 : wB.cell? ⟨w.heap.size, 3, none⟩ = some (.int .u8 (c : Int)) := (H2.out.get 0 rfl).cell 3
      have f0' : wB.cell? ⟨w.heap.size, 0, none⟩ = some (.string (str S)) := (H2.out.get 0 rfl).cell 0
      clear hg hgw
      obtain ⟨k, hk, hkl⟩ : ∃ k : Nat, (n : Int) % (S.length : Int) = (k : Int) ∧ k < S.length := ⟨n % S.length, by simp, Nat.mod_lt _ hS0⟩
      have hne : ((S.length : Int) == 0) = false := beq_eq_false_iff_ne.2 (by omega)
      go_upto_region 8 with fail
      rw [hk]
      clear hk hne hcv f2 f3 f0'
      have H3 := Lib.hid H2.out.drew
      have f3 : wB.drew.cell? ⟨w.heap.size, 3, none⟩ = some (.int .u8 (c : Int)) := (H3.out.get 0 rfl).cell 3
      have hcell := hbk.out.drew.cell k hkl
      have hfr := hbk.out.drew.frozen k hkl
      have HBK := Lib.hid hbk.out.drew
      have hx8 := UInt8.toNat_lt (S[k]'hkl)
      obtain ⟨y, hy⟩ : ∃ y : UInt8, y.toNat = (S[k]'hkl).toNat ^^^ c :=
        ⟨UInt8.ofNat ((S[k]'hkl).toNat ^^^ c), by
          have h3 : (S[k]'hkl).toNat ^^^ c < 2 ^ 8 := Nat.xor_lt_two_pow (n := 8) hx8 hc
          rw [UInt8.toNat_ofNat']; omega⟩
      have hyne : y ≠ S[k]'hkl := fun e => by
        rw [e] at hy
        have h3 : (S[k]'hkl).toNat ^^^ 0 = (S[k]'hkl).toNat ^^^ c := by rw [Nat.xor_zero]; exact hy
        have := xor_cancel h3
        omega
      have e6 : bits .xor .u8 ((S[k]'hkl).toNat : Int) (c : Int) = (y.toNat : Int) := by rw [u8_xor_nat _ _ hx8 hc, ← hy]
      have HNE : Hid (djn a (S.set k y) ≠ ja) := fun e => hyne (djn_set S k hkl y ha (by rw [← HJA.out]; exact e))
      clear hy hyne hx8 H2 hbk
      generalize S[k]'hkl = x at *
      generalize hW2 : wB.drew = w2 at *
      have HW2 := Lib.hid hW2
      clear hW2
      go_wp2
      refine wp_region_still_tail 9 (by kernel_rfl) (by kernel_rfl) ?_
      simp only [List.take_succ_cons, List.take_zero, List.drop_succ_cons, List.drop_zero]
      have hW3 : ({ wB with drawn := wB.drawn + 1 } : World) = w2 := HW2.out
      rw [hW3]
      clear hW3
      repeat still_step
      refine wpStill_nil ?_
      go_upto_region 9 with fail
      have H4 := Lib.hid (H3.out.row (grown_set w2 gb k (.int .u8 (y.toNat : Int))) (by omega) (fun e he => by simp only [List.mem_singleton] at he; subst he; show w.heap.size ≠ gb; omega))
      have HB4 := Lib.hid (HBK.out.set k y)
      clear hcell hfr HBK f3 H3 HW2
      generalize w2.setCell ⟨gb, k, none⟩ (.int .u8 (y.toNat : Int)) = ws at *
      have f0 : ws.cell? ⟨w.heap.size, 0, none⟩ = some (.string (str S)) := (H4.out.get 0 rfl).cell 0
      have hcv2 : ∀ m, (convert 47 9 (.slice (some ⟨gb, 0, none⟩) S.length capb)).run Tryd.prog (ws.drewN m) = .ok (.string (str (S.set k y))) (ws.drewN m) := fun m => by
        have := byb_back (cap := capb) (HB4.out.drewN m)
        rwa [List.length_set] at this
      have CJY := Lib.hid (fun W => join_c a (S.set k y) W ha (by rw [List.length_set]; exact hS))
      obtain ⟨jy, hjy⟩ : ∃ j, j = djn a (S.set k y) := ⟨_, rfl⟩
      rw [← hjy] at CJY HNE
      have hjn : ((jy : Int) == (ja : Int)) = false := beq_eq_false_iff_ne.2 (by have := HNE.out; omega)
      clear hjy
      generalize str (S.set k y) = sy at *
      go_quiet (first
        | (go_at_call 9; with_reducible exact Calls.quiet_of_same ((CJA.out _).mono fun _ _ hh => ⟨hh.1, hh.2.symm⟩))
        | (go_at_call 9; with_reducible exact Calls.quiet_of_same ((CJY.out _).mono fun _ _ hh => ⟨hh.1, hh.2.symm⟩)))
      have H5 := Lib.hid (H4.out.to (below_drewN (Below.refl ws.heap.size ws) nq))
      go_wp2_with fail
      all_goals go_meet
      all_goals exact H5.out
  case rest =>
  have H6 := hcut
  have f1 : wc.cell? ⟨w.heap.size, 1, none⟩ = some (.slice lo l.length cap) := (H6.out.get 0 rfl).cell 1
  clear hcut H1 CJA HJA HZ hsS hS ha hb hc f0 f3
  by_cases h0 : l.length = 0
  · have h0i : ((l.length : Int) == 0) = true := beq_iff_eq.2 (by omega)
    go_wp2_with fail
    refine (works_c _ (tab_lo HT.out H6.out.be)).mono ?_
    rintro E w1 ⟨rfl, hb1⟩
    go_wp2
    go_ret
    exact ⟨rfl, (H6.out.to hb1).be⟩
  have h0i : ((l.length : Int) == 0) = false := beq_eq_false_iff_ne.2 (by omega)
  obtain ⟨k, hk, hkl⟩ : ∃ k : Nat, (n : Int) % (l.length : Int) = (k : Int) ∧ k < l.length := ⟨n % l.length, by simp, Nat.mod_lt _ (by omega)⟩
  have HKL := Lib.hid hk
  clear hk
  go_upto_region 15 with (at_builtin; refine wpList_append_pis rfl _ _ rfl lo cap l (by simp [Act.eval]) (by simp [Act.eval]) (HP.out.to H6.out.be) (by omega) (by omega) H6.out ?_; intro g cs cap' w1 hL1 htk hsz)
  replace hL1 : Loc _ _ _ [(w.heap.size, 46, #[.string (str S), .slice lo l.length cap, .int .u16 (n : Int), .int .u8 (c : Int), .int .u8 (p : Int), .int .u8 (q : Int)]), (g, 37, cs)] := hL1
  have HL1 := Lib.hid hL1
  have f2 : w1.cell? ⟨w.heap.size, 2, none⟩ = some (.int .u16 (n : Int)) := (hL1.get 0 rfl).cell 2
  clear hL1 f1 H6
  go_upto_region 16 with fail
  rw [HKL.out]
  have la := HL1.out.ldA ty_pair 0 rfl 4 (vs := #[.int .u8 (p : Int), .int .u8 (q : Int)]) rfl (Nat.le_of_ble_eq_true rfl)
  obtain ⟨cs', hcs'⟩ : ∃ cs', (cs.toList.take (k * 2) ++ (#[Value.int .u8 (p : Int), Value.int .u8 (q : Int)] : Array Value).toList ++ cs.toList.drop (k * 2 + 2)).toArray = cs' := ⟨_, rfl⟩
  obtain ⟨w2, sa, H2, _⟩ := HL1.out.stA ty_pair 1 rfl (k * 2) #[.int .u8 (p : Int), .int .u8 (q : Int)] (cs' := cs') hcs' (L' := [(w.heap.size, 46, #[.string (str S), .slice lo l.length cap, .int .u16 (n : Int), .int .u8 (c : Int), .int .u8 (p : Int), .int .u8 (q : Int)]), (g, 37, cs')]) rfl (by omega) rfl rfl
  have HTK : Hid (cs'.toList.take ((l.set k (p, q)).length * 2) = pcs (l.set k (p, q))) := by show _ = _; rw [← hcs']; exact pcs_set htk k hkl p q
  have HH2 := Lib.hid H2
  have f0i : ¬ (l.length : Int) = 0 := by omega
  clear hcs' htk H2 f2 HL1 HKL h0i
  go_upto_region 17 with fail
  clear sa la
  have HP2 := Lib.hid (pis_cells (HH2.out.get 1 rfl) HTK.out (fun z hz => by
    rcases List.mem_or_eq_of_mem_set hz with h | rfl
    · exact HP.out.all z h
    · exact ⟨hp, hq⟩))
  have HPL := Lib.hid (HP.out.to HH2.out.be)
  obtain ⟨b0, o0, i, j, rfl, hi, hj, hx⟩ := HPL.out.at k hkl
  have CM : Hid (∀ W, G.On w2.heap.size w2 W → Calls Tryd.prog 15 #[.slice (some ⟨g, 0, none⟩) l.length cap'] W fun E w' => E = .returned (.int .u64 ((dch bas (l.set k (p, q)) : Nat) : Int)) ∧ Below W.heap.size W w') := fun W hW => by
    have := chain_c (l.set k (p, q)) (some ⟨g, 0, none⟩) cap' W (HP2.out.to hW) (by rw [List.length_set]; exact hl)
    rwa [List.length_set] at this
  have CL : Hid (∀ W, G.On w2.heap.size w2 W → Calls Tryd.prog 15 #[.slice (some ⟨b0, o0, none⟩) l.length cap] W fun E w' => E = .returned (.int .u64 ((dch bas l : Nat) : Int)) ∧ Below W.heap.size W w') := fun W hW => chain_c l (some ⟨b0, o0, none⟩) cap W (HPL.out.to hW) hl
  have CW : Hid (∀ W, G.On w2.heap.size w2 W → Calls Tryd.prog 8 #[] W fun E w' => E = .returned (.bool true) ∧ Below W.heap.size W w') := fun W hW => works_c W (tab_lo HT.out (HH2.out.to hW).be)
  have hdd : (((dch bas (l.set k (p, q)) : Nat) : Int) == ((dch bas l : Nat) : Int)) = (((p : Int) == (i : Int)) && ((q : Int) == (j : Int))) := by
    have h := dch_set_iff l HP.out.all k hkl (p, q) ⟨hp, hq⟩ (d := bas) (by decide)
    rw [hx] at h
    rw [Bool.eq_iff_iff]
    simp only [beq_iff_eq, Bool.and_eq_true]
    constructor
    · intro e
      have := h.1 (by omega)
      injection this with e1 e2
      omega
    · rintro ⟨e1, e2⟩
      have e1 : p = i := by omega
      have e2 : q = j := by omega
      rw [h.2 (by rw [e1, e2])]
  have hpe : ∀ W, (binOp .eql 37 (.agg #[.int .u8 (p : Int), .int .u8 (q : Int)]) (.agg #[.int .u8 (i : Int), .int .u8 (j : Int)])).run Tryd.prog W = .ok (.bool (((p : Int) == (i : Int)) && ((q : Int) == (j : Int)))) W := fun W => pair_eql _ _ _ _ W
  obtain ⟨t, ht⟩ : ∃ t : Bool, (((p : Int) == (i : Int)) && ((q : Int) == (j : Int))) = t := ⟨_, rfl⟩
  rw [ht] at hdd hpe
  obtain ⟨dm, hdm⟩ : ∃ x, x = dch bas (l.set k (p, q)) := ⟨_, rfl⟩
  obtain ⟨dl, hdl⟩ : ∃ x, x = dch bas l := ⟨_, rfl⟩
  rw [← hdm] at hdd CM
  rw [← hdl] at hdd CL
  clear ht hdm hdl
  have f1 := G.on_cell (HH2.out.get 0 rfl) (HH2.out.get 0 rfl).lt 1 (v := .slice (some ⟨b0, o0, none⟩) l.length cap) rfl
  have la := HH2.out.onA ty_pair 0 rfl 4 (vs := #[.int .u8 (p : Int), .int .u8 (q : Int)]) rfl (Nat.le_of_ble_eq_true rfl)
  have lp : ∀ W, G.On w2.heap.size w2 W → (ldT 37 (.pointer (some ⟨b0, o0 + k * 2, none⟩))).run Tryd.prog W = .ok (.agg #[.int .u8 (i : Int), .int .u8 (j : Int)]) W := fun W hW => pis_ld HPL.out hW k hkl hx
  clear hx hi hj HTK HP2 HP hp hq h0 hc3
  have o0' := G.On.drew w2.heap.size w2
  go_region_held3 (fun w' => G.On w2.heap.size w2 w') (first | with_reducible assumption) (first
    | (go_at_call 15; (with_reducible refine (CM.out _ (by assumption)).mono ?_); rintro E w7 ⟨rfl, hb7⟩; have o7 := G.on_step (wd := w2) (by assumption) hb7)
    | (go_at_call 15; (with_reducible refine (CL.out _ (by assumption)).mono ?_); rintro E w7 ⟨rfl, hb7⟩; have o7 := G.on_step (wd := w2) (by assumption) hb7)
    | (go_at_call 8; (with_reducible refine (CW.out _ (by assumption)).mono ?_); rintro E w7 ⟨rfl, hb7⟩; have o7 := G.on_step (wd := w2) (by assumption) hb7))
  go_wp2
  go_ret
  exact ⟨rfl, (HH2.out.to (by assumption)).be⟩
end Go.Proofs.YtobfoenilfpiiaaDoor
