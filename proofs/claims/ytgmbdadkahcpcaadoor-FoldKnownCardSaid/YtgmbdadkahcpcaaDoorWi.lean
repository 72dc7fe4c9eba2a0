/- The document's history: At, Slice, Drop. Nothing is assumed beyond each contract's own bounds. -/
import Derived.Test.YtgmbdadkahcpcaaDoorWh
import Derived.Test.YtgmbdadkahcpcaaDoorWg
namespace Go.Proofs.YtgmbdadkahcpcaaDoor
open Go.RowKit
set_option linter.unusedVariables false
set_option linter.unusedSimpArgs false
set_option maxRecDepth 20000
attribute [local go_sem ↓] ld_pair ld_u64 ld_pairs ld_int st_pair st_u64 st_pairs
/-- The document's history in block r, its pairs. -/
abbrev RHl (w : World) (r : Nat) (F M : Nat) (lo : Option Addr) (l : List (Nat × Nat)) (cap : Nat) : Prop := RHc w r F M lo l.length cap
theorem ratNo_c {r F M cap : Nat} {l : List (Nat × Nat)} {lo : Option Addr} {w : World} (h : RHc w r F M lo l.length cap) (hn : F + l.length < 18446744073709551616) (x : Nat) (hx : ¬ (F ≤ x ∧ x < F + l.length)) :
    Calls Tryd.prog 30 #[.pointer (some ⟨r, 0, none⟩), .int .u64 (x : Int)] w fun E w' => E = .returned (.tuple #[.agg PZ, .bool false]) ∧ Below w.heap.size w w' := by
  have H0 := Lib.hid (Loc.one w 47 PZ)
  have HH := Lib.hid (h.alloc (.cells PZ 47))
  clear h
  go_enter Tryd.func30, Tryd.ntmps30
  go_upto_region 1 with fail
  generalize w.alloc (.cells PZ 47) = wa at *
  have c0 := run_ldO ty_u64 HH.out 0 (v := .int .u64 (F : Int)) rfl
  by_cases h1 : x < F
  · have i1 : (x : Int) < F := by omega
    obtain ⟨w1, s1, H1, _⟩ := H0.out.stA ty_pair 0 rfl 0 PZ (cs' := PZ) rfl (L' := [(w.heap.size, 47, PZ)]) rfl (Nat.le_of_ble_eq_true rfl) rfl rfl
    clear h1 hx
    go_wp2
    refine bodyPost_ret (v := .tuple #[.agg PZ, .bool false]) (shut_pair _ _ _ Tryd.results30 (H1.get 0 rfl) rfl rfl rfl) rfl ?_
    exact ⟨rfl, H1.be⟩
  · have i1 : ¬ (x : Int) < F := by omega
    have CC := Lib.hid (rcount_c r F M lo l.length cap wa HH.out hn)
    have i2 : ((F + l.length : Nat) : Int) ≤ x := by omega
    generalize F + l.length = s at *
    clear h1 hx hn
    go_wp2_with fail
    refine CC.out.mono ?_
    rintro E w2 ⟨rfl, k, rfl⟩
    have H1 := H0.out.to (below_drewN (Below.refl _ _) k)
    obtain ⟨w1, s1, H2, _⟩ := H1.stA ty_pair 0 rfl 0 PZ (cs' := PZ) rfl (L' := [(w.heap.size, 47, PZ)]) rfl (Nat.le_of_ble_eq_true rfl) rfl rfl
    go_wp2
    refine bodyPost_ret (v := .tuple #[.agg PZ, .bool false]) (shut_pair _ _ _ Tryd.results30 (H2.get 0 rfl) rfl rfl rfl) rfl ?_
    exact ⟨rfl, H2.be⟩
set_option maxHeartbeats 1000000 in
theorem ratYes_c {r F M cap p q : Nat} {l : List (Nat × Nat)} {lo : Option Addr} {w : World} (h : RHc w r F M lo l.length cap) (hP : Pis w lo l) (hn : F + l.length < 18446744073709551616) (hl : l.length ≤ 256) (x : Nat) (hx : F ≤ x ∧ x < F + l.length) (hp : l[x - F]? = some (p, q)) :
    Calls Tryd.prog 30 #[.pointer (some ⟨r, 0, none⟩), .int .u64 (x : Int)] w fun E w' => E = .returned (.tuple #[.agg #[.int .u8 (p : Int), .int .u8 (q : Int)], .bool true]) ∧ Below w.heap.size w w' := by
  have H0 := Lib.hid (Loc.one w 47 PZ)
  have HH := Lib.hid (h.alloc (.cells PZ 47))
  have HP := Lib.hid (hP.to ((Below.refl _ _).alloc (Nat.le_refl _) (.cells PZ 47)))
  obtain ⟨hk, hpk⟩ := List.getElem?_eq_some_iff.1 hp
  obtain ⟨b0, o0, i', j', rfl, hi', hj', hx'⟩ := hP.at (x - F) hk
  clear hi' hj' hx'
  have HPK := Lib.hid hpk
  have HKL := Lib.hid hk
  have e1 : IntKind.u64.wrap ((x : Int) - F) = ((x - F : Nat) : Int) := by rw [show (x : Int) - F = ((x - F : Nat) : Int) by omega]; exact u64_id _ (by omega) (by omega)
  have i1 : ¬ (x : Int) < F := by omega
  have CC := Lib.hid (rcount_c r F M (some ⟨b0, o0, none⟩) l.length cap (w.alloc (.cells PZ 47)) HH.out hn)
  have i2 : ¬ ((F + l.length : Nat) : Int) ≤ x := by omega
  have ikl : ((x - F : Nat) : Int) < (l.length : Int) := by omega
  generalize x - F = k at *
  generalize F + l.length = s at *
  clear h hP hx hp hn
  go_enter Tryd.func30, Tryd.ntmps30
  go_upto_region 1 with fail
  generalize hgw : w.heap.size = gb at *
  generalize w.alloc (.cells PZ 47) = wa at *
  have c0 := run_ldO ty_u64 HH.out 0 (v := .int .u64 (F : Int)) rfl
  go_wp2_with fail
  refine CC.out.mono ?_
  rintro E w2 ⟨rfl, k2, rfl⟩
  clear c0 CC
  have H1 := Lib.hid (H0.out.to (below_drewN (Below.refl _ _) k2))
  have HH1 := Lib.hid (HH.out.below (below_drewN (Below.refl _ _) k2) HH.out.lt)
  have HP1 := Lib.hid (HP.out.to (below_drewN (Below.refl _ _) k2))
  clear H0 HH HP
  generalize wa.drewN k2 = wb at *
  go_upto_region 3 with fail
  obtain ⟨wd, hwd⟩ : ∃ wd, ({ wb with drawn := wb.drawn + 1 } : World) = wd := ⟨_, rfl⟩
  have H2 : Loc gb w wd [(gb, 47, PZ)] := by rw [← hwd]; exact H1.out.drew
  have hh2 : RHc wd r F M (some ⟨b0, o0, none⟩) l.length cap := by rw [← hwd]; exact HH1.out.below (Below.refl _ _).drew HH1.out.lt
  have l0 := run_ldO ty_u64 hh2 0 (v := .int .u64 (F : Int)) rfl
  have l1 := run_ldO ty_pairs hh2 2 (v := .slice (some ⟨b0, o0, none⟩) l.length cap) rfl
  have l2 : (ldT 47 (.pointer (some ⟨b0, o0 + k * 2, none⟩))).run Tryd.prog wd = .ok (.agg #[.int .u8 (p : Int), .int .u8 (q : Int)]) wd := by
    rw [← hwd]; exact pis_ld HP1.out (Below.refl _ _).drew k HKL.out HPK.out
  obtain ⟨w1, s1, H3, _⟩ := H2.stA ty_pair 0 rfl 0 #[.int .u8 (p : Int), .int .u8 (q : Int)] (cs' := #[.int .u8 (p : Int), .int .u8 (q : Int)]) rfl (L' := [(gb, 47, #[.int .u8 (p : Int), .int .u8 (q : Int)])]) rfl (Nat.le_of_ble_eq_true rfl) rfl rfl
  clear hh2 HH1 HP1 H1
  refine wp_region_still_tail 12 (by kernel_rfl) (by kernel_rfl) ?_
  simp only [List.take_succ_cons, List.take_zero, List.drop_succ_cons, List.drop_zero]
  rw [hwd]
  clear hwd
  repeat still_step
  refine wpStill_nil ?_
  go_wp2
  refine bodyPost_ret (v := .tuple #[.agg #[.int .u8 (p : Int), .int .u8 (q : Int)], .bool true]) (shut_pair _ _ _ Tryd.results30 (H3.get 0 rfl) rfl rfl rfl) rfl ?_
  exact ⟨rfl, by rw [hgw]; exact H3.be⟩
theorem rsliceNo_c {r F M cap : Nat} {l : List (Nat × Nat)} {lo : Option Addr} {w : World} (h : RHc w r F M lo l.length cap) (hn : F + l.length < 18446744073709551616) (x : Nat) (n : Int) (hx : ¬ (F ≤ x ∧ x ≤ F + l.length)) :
    Calls Tryd.prog 32 #[.pointer (some ⟨r, 0, none⟩), .int .u64 (x : Int), .int .i64 n] w fun E w' => E = .returned (.slice none 0 0) ∧ Below w.heap.size w w' := by
  have HH := Lib.hid h
  have c0 := run_ldO ty_u64 HH.out 0 (v := .int .u64 (F : Int)) rfl
  clear h
  by_cases h1 : x < F
  · have i1 : (x : Int) < F := by omega
    clear h1 hx
    go_enter Tryd.func32, Tryd.ntmps32
    go_wp2
    go_ret
    exact ⟨rfl, Below.refl _ _⟩
  · have i1 : ¬ (x : Int) < F := by omega
    have CC := Lib.hid (rcount_c r F M lo l.length cap w HH.out hn)
    have i2 : ((F + l.length : Nat) : Int) < x := by omega
    generalize F + l.length = s at *
    clear h1 hx hn
    go_enter Tryd.func32, Tryd.ntmps32
    go_wp2_with fail
    refine CC.out.mono ?_
    rintro E w2 ⟨rfl, k, rfl⟩
    go_wp2
    go_ret
    exact ⟨rfl, below_drewN (Below.refl _ _) _⟩
set_option maxHeartbeats 2000000 in
theorem rsliceYes_c {r F M cap : Nat} {l : List (Nat × Nat)} {lo : Option Addr} {w : World} (h : RHc w r F M lo l.length cap) (hP : Pis w lo l) (hn : F + l.length < 18446744073709551616) (hl : l.length ≤ 256) (x : Nat) (n : Int) (N : Nat) (hN : max n 0 = (N : Int)) (hx : F ≤ x ∧ x ≤ F + l.length) :
    Calls Tryd.prog 32 #[.pointer (some ⟨r, 0, none⟩), .int .u64 (x : Int), .int .i64 n] w fun E w' => ∃ ao cap', E = .returned (.slice ao ((l.drop (x - F)).take N).length cap') ∧ Prr w.heap.size w' [] ao ((l.drop (x - F)).take N).length cap' ((l.drop (x - F)).take N) ∧ Below w.heap.size w w' := by
  have HH := Lib.hid h
  have HP := Lib.hid hP
  have c0 := run_ldO ty_u64 HH.out 0 (v := .int .u64 (F : Int)) rfl
  have e1 : IntKind.u64.wrap ((x : Int) - F) = ((x - F : Nat) : Int) := by rw [show (x : Int) - F = ((x - F : Nat) : Int) by omega]; exact u64_id _ (by omega) (by omega)
  have el : IntKind.u64.wrap (l.length : Int) = (l.length : Int) := u64_id _ (by omega) (by omega)
  have i1 : ¬ (x : Int) < F := by omega
  have CC := Lib.hid (rcount_c r F M lo l.length cap w HH.out hn)
  have i2 : ¬ ((F + l.length : Nat) : Int) < x := by omega
  have i2n : ¬ F + l.length < x := by omega
  have HK := Lib.hid (show x - F ≤ l.length by omega)
  have HNN := Lib.hid hN
  have HL := Lib.hid hl
  generalize x - F = k at *
  generalize F + l.length = s at *
  clear h hP hx hn hN hl
  go_enter Tryd.func32, Tryd.ntmps32
  go_wp2_with fail
  refine CC.out.mono ?_
  rintro E w2 ⟨rfl, k2, rfl⟩
  clear CC c0
  have HB0 := Lib.hid (below_drewN (Below.refl w.heap.size w) k2)
  generalize w.drewN k2 = wb at *
  have c0 := run_ldO ty_u64 (HH.out.below HB0.out HH.out.lt) 0 (v := .int .u64 (F : Int)) rfl
  go_wp2
  clear c0
  go_loopw [8, 7] (fun t v wr => ∃ (j cap' : Nat) (ao : Option Addr), k + j ≤ l.length ∧ j ≤ N ∧ t = .int .u64 ((k + j : Nat) : Int) ∧ v = .slice ao j cap' ∧ Hid (Prr w.heap.size wr [] ao j cap' ((l.drop k).take j)) ∧ Hid (Below w.heap.size w wr)) (fun t _ _ => l.length - (intOf t).toNat)
  case atStart => exact ⟨0, 0, none, by have := HK.out; omega, by omega, by simp, rfl, Prr.none _ _ _ (fun b hb => by cases hb), HB0.out⟩
  case round =>
    obtain ⟨j, cap', ao, hj, hjN, rfl, rfl, HR, HB⟩ := hrel
    have c2 := run_ldO ty_pairs (HH.out.below HB.out HH.out.lt) 2 (v := .slice lo l.length cap) rfl
    by_cases hik : k + j < l.length
    · have i3 : ((k + j : Nat) : Int) < (l.length : Int) := by omega
      by_cases hjn : j < N
      · have i4 : (j : Int) < n := by have := HNN.out; omega
        obtain ⟨b0, o0, p, q, rfl, hp, hq, hpk⟩ := HP.out.at (k + j) hik
        have hpk2 : (l.drop k).take j ++ [(p, q)] = (l.drop k).take (j + 1) := by
          rw [List.take_succ_eq_append_getElem (by rw [List.length_drop]; omega), List.getElem_drop, hpk]
        have HX := Lib.hid hpk2
        have l1 := pis_ld HP.out HB.out (k + j) hik hpk
        have HL1 : Hid (Loc w.heap.size w wr []) := (Loc.nil (Nat.le_refl _)).to HB.out
        have e3 : IntKind.u64.wrap (((k + j : Nat) : Int) + 1) = ((k + (j + 1) : Nat) : Int) := by rw [show ((k + j : Nat) : Int) + 1 = ((k + (j + 1) : Nat) : Int) by omega]; exact u64_id _ (by omega) (by have := HL.out; omega)
        have hnx : k + (j + 1) ≤ l.length := by omega
        have HM := Lib.hid (show k + (j + 1) = k + j + 1 by omega)
        have hm8 : j ≤ 1000000 := by have := HL.out; omega
        generalize hy : k + j = y at *
        generalize k + (j + 1) = y2 at *
        clear hpk hpk2 hjN hp hq
        go_wp2_with (at_builtin; refine wpList_append_pi rfl _ _ rfl (by simp [Act.eval]) (p, q) _ rfl (by simp [Act.eval]) HR.out HL1.out (by simp) hm8 ?_; intro r5 cap5 w7 hR7 hL7; have HR7 := Lib.hid hR7; have HL7 := Lib.hid hL7.be; clear hR7 hL7)
        go_roundw
        case rel => exact ⟨j + 1, cap5, some ⟨r5, 0, none⟩, by omega, by omega, by have := HM.out; congr 1; omega, rfl, by show Prr _ _ _ _ _ _ _; rw [← HX.out]; exact HR7.out, HL7.out⟩
        case measure => simp [intOf]; have := HM.out; omega
      · have i4 : ¬ (j : Int) < n := by have := HNN.out; omega
        obtain rfl : j = N := by omega
        have hle : ((l.drop k).take j).length = j := by rw [List.length_take, List.length_drop]; omega
        go_wp2
        go_ret
        exact ⟨_, _, rfl, HR.out, HB.out⟩
    · have i3 : ¬ ((k + j : Nat) : Int) < (l.length : Int) := by omega
      have hle : (l.drop k).take N = (l.drop k).take j := by rw [List.take_of_length_le (by rw [List.length_drop]; omega), List.take_of_length_le (by rw [List.length_drop]; omega)]
      have hle2 : ((l.drop k).take j).length = j := by rw [List.length_take, List.length_drop]; omega
      go_wp2
      go_ret
      exact ⟨_, _, rfl, HR.out, HB.out⟩
end Go.Proofs.YtgmbdadkahcpcaaDoor
