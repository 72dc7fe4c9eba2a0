/- The statements FrameLong and FrameKnown: the Go functions return true. Conditions: the table of four steps lies in its variable. -/
import Derived.Test.YtgbieihobcindaaDoorFw
namespace Go.Proofs.YtgbieihobcindaaDoor
open Go.RowKit
set_option linter.unusedVariables false

/-- A new row of zeros, its length in whatever kind, and the string that it reads as. -/
theorem made_zeros' (q : IntKind) (w : World) (k : Nat) (K : Int) (hK : K = k) (hk : k ≤ 65535) (hq : q = .u16 ∨ q = .i64) :
    ∃ W, (Instr.makeSlice 40 (.int q K) (.int q K)).run Tryd.prog w = .ok (.slice (some ⟨w.heap.size, 0, none⟩) k k) W ∧
      (convert 40 9 (.slice (some ⟨w.heap.size, 0, none⟩) k k)).run Tryd.prog W = .ok (.string (str (List.replicate k 0))) W ∧ w.grownBy W none := by
  subst hK
  refine ⟨_, run_make_row' (P := Tryd.prog) 40 5 (.int .u8 0) 1 Tryd.underlying40 info_u8 rfl q q k (by omega) (by omega) w, ?_, World.grownBy_alloc w _ none⟩
  have := run_convert_bytes_back (P := Tryd.prog) (w.alloc (.cells (madeCells #[.int .u8 0] k) 5)) 40 9 5 ⟨w.heap.size, 0, none⟩ k (List.replicate k 0) Tryd.underlying40 Tryd.underlying5 Tryd.underlying9 (fun j hj => by
    have hj' : j < k := by simpa using hj
    have e : (⟨w.heap.size, 0, none⟩ : Addr).add j = ⟨w.heap.size, j, none⟩ := by unfold Addr.add; split <;> simp_all
    rw [e, (Cells.made w 5 _).cell j, ← Array.getElem?_toList, toList_madeCells_one]
    simp [hj'])
  rwa [List.length_replicate] at this
theorem puts_l (s : List UInt8) (w : World) (hs : s.length ≤ maxLen) (ht : Tab w) :
    Calls Tryd.prog 3 #[.string (str s)] w fun E w' => E = .returned (.bool true) ∧ w.grownBy w' none :=
  (lawPuts s w hs ht).mono fun E w' h => ⟨h.1, grown_of_below h.2⟩
theorem reads_l (s : List UInt8) (w : World) (hs : s.length ≤ maxLen) (ht : Tab w) :
    Calls Tryd.prog 4 #[.string (str s)] w fun E w' => E = .returned (.bool true) ∧ w.grownBy w' none :=
  (lawReads s w hs ht).mono fun E w' h => ⟨h.1, grown_of_below h.2⟩
theorem putS_len (s : List UInt8) : (putS s).length ≤ 6 + s.length := by
  unfold putS; split
  · rw [frm_len]; omega
  · simp
set_option maxHeartbeats 1000000 in
theorem lawLong (n : Nat) (b : Bool) (w : World) (hn : n < 65536) (ht : Tab w) :
    Calls Tryd.prog 5 #[.int .u16 n, .bool b] w (Yes w) := by
  obtain ⟨W, hmk, hcv, hg⟩ := made_zeros' .u16 w (n % 9000) ((n : Int) % 9000) rfl (by omega) (.inl rfl)
  have hk : n % 9000 < 9000 := Nat.mod_lt _ (by decide)
  have HT := Lib.hid (tab_grown ht hg)
  have HG := Lib.hid hg
  clear ht hg
  have hzl : (List.replicate (n % 9000) (0 : UInt8)).length = n % 9000 := List.length_replicate
  generalize n % 9000 = k at *
  generalize List.replicate k (0 : UInt8) = z at *
  have hpl := putS_len z
  have hsz := str_size z
  have hsp := str_size (putS z)
  have hap := str_append (putS z) [120]
  have hap1 := str_append [1, 16, 0, 0, 0, 0] z
  have hap2 := str_append [0, 16, 0, 0, 0, 0] z
  have hs1 : (str [1, 16, 0, 0, 0, 0]).size = 6 := rfl
  have hs2 : (str [0, 16, 0, 0, 0, 0]).size = 6 := rfl
  have hs3 : (str [120]).size = 1 := rfl
  have HZ : Hid (z.length ≤ maxLen) := by show _ ≤ _; unfold maxLen; omega
  have HP : Hid ((putS z).length ≤ maxLen) := by show _ ≤ _; unfold maxLen; omega
  have HPX : Hid ((putS z ++ [120]).length ≤ maxLen) := by show _ ≤ _; unfold maxLen; rw [List.length_append]; simp; omega
  have HA : Hid (([1, 16, 0, 0, 0, 0] ++ z).length ≤ maxLen) := by show _ ≤ _; unfold maxLen; rw [List.length_append]; simp; omega
  have HB : Hid (([0, 16, 0, 0, 0, 0] ++ z).length ≤ maxLen) := by show _ ≤ _; unfold maxLen; rw [List.length_append]; simp; omega
  cases b
  · go_enter Tryd.func5, Tryd.ntmps5
    go_wp2_with fail
    refine (refPut z _ HZ.out).mono ?_
    rintro E w1 ⟨rfl, hg1⟩
    have HG1 := Lib.hid (HG.out.trans hg1)
    have HT1 := Lib.hid (tab_grown HT.out hg1)
    clear hg1
    go_wp2_with fail
    refine (puts_l z _ HZ.out HT1.out).mono ?_
    rintro E w2 ⟨rfl, hg2⟩
    have HG2 := Lib.hid (HG1.out.trans hg2)
    have HT2 := Lib.hid (tab_grown HT1.out hg2)
    clear hg2
    go_wp2_with fail
    refine (reads_l (putS z) _ HP.out HT2.out).mono ?_
    rintro E w3 ⟨rfl, hg3⟩
    have HG3 := Lib.hid (HG2.out.trans hg3)
    have HT3 := Lib.hid (tab_grown HT2.out hg3)
    clear hg3
    go_wp2_with fail
    refine (reads_l _ _ HA.out HT3.out).mono ?_
    rintro E w4 ⟨rfl, hg4⟩
    have HG4 := Lib.hid (HG3.out.trans hg4)
    have HT4 := Lib.hid (tab_grown HT3.out hg4)
    clear hg4
    go_wp2_with fail
    refine (reads_l _ _ HB.out HT4.out).mono ?_
    rintro E w5 ⟨rfl, hg5⟩
    have HG5 := Lib.hid (HG4.out.trans hg5)
    have HT5 := Lib.hid (tab_grown HT4.out hg5)
    clear hg5
    go_wp2_with fail
    refine (worksL _ HT5.out).mono ?_
    rintro E w6 ⟨rfl, hg6⟩
    have HG6 := Lib.hid (HG5.out.trans hg6)
    clear hg6
    go_wp2
    go_ret
    exact yes_of HG6.out
  · go_enter Tryd.func5, Tryd.ntmps5
    go_wp2_with fail
    refine (refPut z _ HZ.out).mono ?_
    rintro E w1 ⟨rfl, hg1⟩
    have HG1 := Lib.hid (HG.out.trans hg1)
    have HT1 := Lib.hid (tab_grown HT.out hg1)
    clear hg1
    go_wp2_with fail
    refine (puts_l z _ HZ.out HT1.out).mono ?_
    rintro E w2 ⟨rfl, hg2⟩
    have HG2 := Lib.hid (HG1.out.trans hg2)
    have HT2 := Lib.hid (tab_grown HT1.out hg2)
    clear hg2
    go_wp2_with fail
    refine (reads_l (putS z ++ [120]) _ HPX.out HT2.out).mono ?_
    rintro E w3 ⟨rfl, hg3⟩
    have HG3 := Lib.hid (HG2.out.trans hg3)
    have HT3 := Lib.hid (tab_grown HT2.out hg3)
    clear hg3
    go_wp2_with fail
    refine (reads_l _ _ HA.out HT3.out).mono ?_
    rintro E w4 ⟨rfl, hg4⟩
    have HG4 := Lib.hid (HG3.out.trans hg4)
    have HT4 := Lib.hid (tab_grown HT3.out hg4)
    clear hg4
    go_wp2_with fail
    refine (reads_l _ _ HB.out HT4.out).mono ?_
    rintro E w5 ⟨rfl, hg5⟩
    have HG5 := Lib.hid (HG4.out.trans hg5)
    have HT5 := Lib.hid (tab_grown HT4.out hg5)
    clear hg5
    go_wp2_with fail
    refine (worksL _ HT5.out).mono ?_
    rintro E w6 ⟨rfl, hg6⟩
    have HG6 := Lib.hid (HG5.out.trans hg6)
    clear hg6
    go_wp2
    go_ret
    exact yes_of HG6.out
theorem known_all : all (frm [97] ++ ([0, 0, 255, 18, 217, 65] ++ [120])) = ⟨[[97], []], 13, 10⟩ := by
  have h2 : ([0, 0, 255, 18, 217, 65] : List UInt8) = frm [] := by rw [← puts_0]; rfl
  have h1 : all [120] = ⟨[], 0, 10⟩ := by
    have := all_bad (s := [120]) (by decide) (by rw [fe_short (by decide)]; decide)
    rw [fe_short (by decide)] at this; exact this
  rw [all_frm _ _ (by decide), h2, all_frm _ _ (by decide), h1]
  rfl
theorem known_3 : fe [1, 16, 0, 0, 0, 0] = 3 := by decide +kernel
theorem known_10 : fe [0, 16, 0, 0, 0, 0] = 10 := by decide +kernel
theorem known_9 : fe [0, 0, 0, 0, 0, 0] = 9 := by decide +kernel
theorem two_cells {w : World} {B : Nat} {v : Value} {p q : List UInt8} (h : Strs w B v [p, q]) :
    ∃ g cap, v = .slice (some ⟨g, 0, none⟩) 2 cap ∧ g < w.heap.size ∧ w.cell? ⟨g, 0, none⟩ = some (.string (str p)) ∧ w.cell? ⟨g, 1, none⟩ = some (.string (str q)) := by
  obtain ⟨g, cap, rfl⟩ := ownsRow_succ (k := 1) h
  have e : ∀ k, (⟨g, 0, none⟩ : Addr).add k = ⟨g, k, none⟩ := fun k => by unfold Addr.add; split <;> simp_all
  have c0 := World.ownsRow.cells h (g := g) rfl 0 (.string (str p)) (by simp [strs])
  have c1 := World.ownsRow.cells h (g := g) rfl 1 (.string (str q)) (by simp [strs])
  rw [e] at c0 c1
  exact ⟨g, cap, rfl, World.block_lt_of_cell? w _ c0, c0, c1⟩
set_option maxHeartbeats 2000000 in
theorem lawKnown (w : World) (ht : Tab w) :
    Calls Tryd.prog 8 #[] w (Yes w) := by
  have HT := Lib.hid ht
  clear ht
  have hs1 : (str (frm [97])).size = 7 := by rw [str_size, frm_len]; rfl
  have hcut := str_cut (frm [97]) 6
  have HCT : Hid (((frm [97]).take 6).length ≤ 1099511627776) := by show _ ≤ _; rw [List.length_take]; omega
  have HCF : Hid (fe ((frm [97]).take 6) = 10) := by
    have := frm_cut [97] [] 6 (by decide) (by decide)
    rwa [List.append_nil] at this
  have hap1 := str_append (frm [97]) [0, 0, 255, 18, 217, 65]
  have hap2 := str_append (frm [97] ++ [0, 0, 255, 18, 217, 65]) [120]
  rw [List.append_assoc] at hap2
  have hs2 : (str (frm [97] ++ [0, 0, 255, 18, 217, 65])).size = 13 := by rw [str_size, List.length_append, frm_len]; rfl
  have hs3 : (str [0, 0, 255, 18, 217, 65]).size = 6 := rfl
  have hs4 : (str [120]).size = 1 := rfl
  have HLL : Hid ((frm [97] ++ ([0, 0, 255, 18, 217, 65] ++ [120])).length ≤ 1048576) := by show _ ≤ _; rw [List.length_append, frm_len]; decide
  go_enter Tryd.func8, Tryd.ntmps8
  go_wp2_with fail
  refine (putL [97] _ (by decide) HT.out).mono ?_
  rintro E w1 ⟨rfl, hg1⟩
  have HG1 := Lib.hid hg1
  have HT1 := Lib.hid (tab_grown HT.out hg1)
  clear hg1
  rw [puts_a]
  go_wp2_with fail
  refine (worksL _ HT1.out).mono ?_
  rintro E w2 ⟨rfl, hg2⟩
  have HG2 := Lib.hid (HG1.out.trans hg2)
  have HT2 := Lib.hid (tab_grown HT1.out hg2)
  clear hg2
  go_wp2_with fail
  refine (failsL [49, 50, 51, 52, 53] 10 _ (by decide) HT2.out (fe_short (by decide)) (by decide)).mono ?_
  rintro E w3 ⟨rfl, hg3⟩
  have HG3 := Lib.hid (HG2.out.trans hg3)
  have HT3 := Lib.hid (tab_grown HT2.out hg3)
  clear hg3
  go_wp2_with fail
  refine (failsL ((frm [97]).take 6) 10 _ HCT.out HT3.out HCF.out (by decide)).mono ?_
  rintro E w4 ⟨rfl, hg4⟩
  have HG4 := Lib.hid (HG3.out.trans hg4)
  have HT4 := Lib.hid (tab_grown HT3.out hg4)
  clear hg4
  go_wp2_with fail
  refine (failsL [1, 16, 0, 0, 0, 0] 3 _ (by decide) HT4.out known_3 (by decide)).mono ?_
  rintro E w5 ⟨rfl, hg5⟩
  have HG5 := Lib.hid (HG4.out.trans hg5)
  have HT5 := Lib.hid (tab_grown HT4.out hg5)
  clear hg5
  go_wp2_with fail
  refine (failsL [0, 16, 0, 0, 0, 0] 10 _ (by decide) HT5.out known_10 (by decide)).mono ?_
  rintro E w6 ⟨rfl, hg6⟩
  have HG6 := Lib.hid (HG5.out.trans hg6)
  have HT6 := Lib.hid (tab_grown HT5.out hg6)
  clear hg6
  go_wp2_with fail
  refine (failsL [0, 0, 0, 0, 0, 0] 9 _ (by decide) HT6.out known_9 (by decide)).mono ?_
  rintro E w7 ⟨rfl, hg7⟩
  have HG7 := Lib.hid (HG6.out.trans hg7)
  have HT7 := Lib.hid (tab_grown HT6.out hg7)
  clear hg7
  go_wp2_with fail
  refine (putL [] _ (by decide) HT7.out).mono ?_
  rintro E w8 ⟨rfl, hg8⟩
  have HG8 := Lib.hid (HG7.out.trans hg8)
  have HT8 := Lib.hid (tab_grown HT7.out hg8)
  clear hg8
  rw [puts_0]
  go_wp2_with fail
  refine (all_c _ _ HLL.out HT8.out).mono ?_
  rintro E w9 ⟨v, rfl, hv, hg9⟩
  rw [known_all] at hv ⊢
  obtain ⟨g, cap, rfl, hgl, c0, c1⟩ := two_cells hv
  have HG9 := Lib.hid (HG8.out.trans (grown_of_below (r := none) hg9))
  have HT9 := Lib.hid (tab_grown HT8.out (grown_of_below (r := none) hg9))
  have HC := Lib.hid (show g < w9.heap.size ∧ w9.cell? ⟨g, 0, none⟩ = some (.string (str [97])) ∧ w9.cell? ⟨g, 1, none⟩ = some (.string (str [])) from ⟨hgl, c0, c1⟩)
  clear hg9 hv hgl c0 c1
  obtain ⟨W, hmk, hcv, hgW⟩ := made_zeros' .i64 w9 4097 4097 rfl (by decide) (.inr rfl)
  have HGW := Lib.hid hgW
  have HGA := Lib.hid (HG9.out.trans hgW)
  have HTA := Lib.hid (tab_grown HT9.out hgW)
  clear hgW
  have HZL : Hid ((List.replicate 4097 (0 : UInt8)).length ≤ maxLen) := by show _ ≤ _; rw [List.length_replicate]; decide
  have HZE : Hid (putE (List.replicate 4097 (0 : UInt8)) = 3 ∧ putS (List.replicate 4097 (0 : UInt8)) = []) := by
    constructor
    · rw [putE, if_neg (by rw [List.length_replicate]; decide)]
    · rw [putS, if_neg (by rw [List.length_replicate]; decide)]
  generalize List.replicate 4097 (0 : UInt8) = z at *
  go_wp2_with fail
  refine (put_c z _ HZL.out HTA.out).mono ?_
  rintro E w10 ⟨rfl, hg10⟩
  have HGB := Lib.hid (HGA.out.trans hg10)
  have HTB := Lib.hid (tab_grown HTA.out hg10)
  have HGX := Lib.hid (HGW.out.trans hg10)
  clear hg10 hmk hcv
  rw [HZE.out.1, HZE.out.2]
  go_wp2_with fail
  refine (all_c [] _ (by decide) HTB.out).mono ?_
  rintro E w11 ⟨v, rfl, hv, hg11⟩
  rw [all_nil] at hv ⊢
  obtain ⟨ao', cap', rfl⟩ := row_shape hv
  have HGC := Lib.hid (HGB.out.trans (grown_of_below (r := none) hg11))
  have HTC := Lib.hid (tab_grown HTB.out (grown_of_below (r := none) hg11))
  have hgx := below_of_grown (HGX.out.trans (grown_of_below (r := none) hg11))
  have c0 := (hgx.cell (p := ⟨g, 0, none⟩) HC.out.1).trans HC.out.2.1
  have c1 := (hgx.cell (p := ⟨g, 1, none⟩) HC.out.1).trans HC.out.2.2
  clear hg11 hv hgx
  obtain ⟨W2, hmk, hcv, hgW⟩ := made_zeros' .i64 w11 4096 4096 rfl (by decide) (.inr rfl)
  have HGD := Lib.hid (HGC.out.trans hgW)
  have HTD := Lib.hid (tab_grown HTC.out hgW)
  clear hgW
  have HZL2 : Hid ((List.replicate 4096 (0 : UInt8)).length ≤ maxLen) := by show _ ≤ _; rw [List.length_replicate]; decide
  have HZE2 : Hid (putS (List.replicate 4096 (0 : UInt8)) = frm (List.replicate 4096 (0 : UInt8))) := by
    show _ = _
    rw [putS, if_pos (by rw [List.length_replicate]; decide)]
  have hzs : (str (frm (List.replicate 4096 (0 : UInt8)))).size = 4102 := by rw [str_size, frm_len, List.length_replicate]
  generalize List.replicate 4096 (0 : UInt8) = z2 at *
  have hq1 : (str [97]).toList = [97] := str_toList _
  have hq2 := str_empty0
  go_wp2_with fail
  refine (putL z2 _ HZL2.out HTD.out).mono ?_
  rintro E w12 ⟨rfl, hg12⟩
  have HGE := Lib.hid (HGD.out.trans hg12)
  have HTE := Lib.hid (tab_grown HTD.out hg12)
  clear hg12 hmk hcv
  rw [HZE2.out]
  go_wp2_with fail
  refine (worksL _ HTE.out).mono ?_
  rintro E w13 ⟨rfl, hg13⟩
  have HGF := Lib.hid (HGE.out.trans hg13)
  clear hg13
  go_wp2
  go_ret
  exact yes_of HGF.out
end Go.Proofs.YtgbieihobcindaaDoor
