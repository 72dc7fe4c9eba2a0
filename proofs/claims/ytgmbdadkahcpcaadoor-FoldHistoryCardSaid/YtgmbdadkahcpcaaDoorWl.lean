/- Fold, the program's and the document's: contracts. Nothing is assumed beyond each contract's own bounds. -/
import Derived.Test.YtgmbdadkahcpcaaDoorUr
import Derived.Test.YtgmbdadkahcpcaaDoorVp
import Derived.Test.YtgmbdadkahcpcaaDoorWa
namespace Go.Proofs.YtgmbdadkahcpcaaDoor
open Go.RowKit
set_option linter.unusedVariables false
set_option linter.unusedSimpArgs false
set_option maxRecDepth 20000
/-- What pairs make of a state, one behind the other. -/
def stps (s : St) (l : List (Nat × Nat)) : St := l.foldl (fun s p => stp s p.1 p.2) s
theorem stps_nil (s : St) : stps s [] = s := rfl
theorem stps_append (s : St) (l l' : List (Nat × Nat)) : stps s (l ++ l') = stps (stps s l) l' := List.foldl_append
theorem stps_next (s : St) (l : List (Nat × Nat)) (k : Nat) (hk : k < l.length) {i j : Nat} (h : l[k]'hk = (i, j)) : stps s (l.take (k + 1)) = stp (stps s (l.take k)) i j := by
  rw [List.take_succ_eq_append_getElem hk, stps_append, h]; rfl
theorem stps_fit {s : St} (hf : s.fit) (l : List (Nat × Nat)) : (stps s l).fit := by
  induction l generalizing s with
  | nil => exact hf
  | cons p l ih => exact ih (stp_fit hf p.1 p.2)
theorem stps_len {s : St} (hf : s.fit) {n : Nat} (h8 : 8 ≤ n) (hl : s.ss.length ≤ n) (l : List (Nat × Nat)) : (stps s l).ss.length ≤ n := by
  induction l generalizing s with
  | nil => exact hl
  | cons p l ih => exact ih (stp_fit hf p.1 p.2) (stp_len hf h8 hl p.1 p.2)
attribute [local go_sem ↓] ld_pair ld_state ld_shots st_state
set_option maxHeartbeats 4000000 in
theorem fold_c (s : St) (ao : Option Addr) (cap : Nat) (l : List (Nat × Nat)) (lo : Option Addr) (c2 : Nat) (w : World) (hS : Shs w ao s.ss) (hn : ao = none → cap = 0) (hl : s.ss.length ≤ 1000000) (hf : s.fit) (hP : Pis w lo l) (hl2 : l.length ≤ maxLen) (hL : Laid w) :
    Calls Tryd.prog 11 #[sv s ao cap, .slice lo l.length c2] w (StPost w.heap.size w (stps s l)) := by
  have HS := Lib.hid hS
  have HN := Lib.hid hn
  have HFT := Lib.hid hf
  have HP := Lib.hid hP
  have HL := Lib.hid hL
  have HLN := Lib.hid hl
  have hm : l.length ≤ 9223372036854775807 := Nat.le_trans hl2 (by decide)
  have H0 := Lib.hid (Loc.two w 30 30 (stc s ao cap) zsc)
  clear hS hn hf hP hl2 hl hL
  go_enter Tryd.func11, Tryd.ntmps11
  go_upto_region 1 with fail
  generalize (w.alloc (.cells (stc s ao cap) 30)).alloc (.cells zsc 30) = wa at *
  have la := H0.out.ldA ty_state 0 rfl 0 (vs := stc s ao cap) rfl (Nat.le_of_ble_eq_true rfl)
  go_wp2_with fail
  refine (copy_c s ao cap wa (Shs_grown HS.out (grown_of_below (r := none) H0.out.be) (by simp)) HN.out HLN.out).mono ?_
  rintro E w1 ⟨ao1, cap1, rfl, hown, hnil, hg⟩
  clear la
  have H1 := H0.out.grown hg
  have hsz := H0.out.size
  have hlt0 := (H0.out.get 0 rfl).lt
  have hlt1 := (H0.out.get 1 rfl).lt
  have HR1 : Hid (Shr w.heap.size w1 [w.heap.size, w.heap.size + 1] ao1 s.ss.length cap1 s.ss) := (shr_of hown rfl hnil (bs := [w.heap.size, w.heap.size + 1]) (by intro b hb; simp only [List.mem_cons, List.not_mem_nil, or_false] at hb; rcases hb with rfl | rfl <;> assumption) hg.size).low hsz
  obtain ⟨w2, s2, H2, q2⟩ := H1.stA ty_state 0 rfl 0 (stc s ao1 cap1) (cs' := stc s ao1 cap1) rfl (L' := [(w.heap.size, 30, stc s ao1 cap1), (w.heap.size + 1, 30, zsc)]) rfl (Nat.le_of_ble_eq_true rfl) rfl rfl
  have HR2 := Lib.hid (HR1.out.turn (by simp) q2)
  have HH2 := Lib.hid H2
  clear hown hnil hg H1 HR1 q2 H2 H0
  go_wp2
  clear s2
  go_loopw [10] (fun v wr => ∃ (k : Nat) (X : St) (ao1 : Option Addr) (cap1 : Nat), k ≤ l.length ∧ v = .int .i64 k ∧ Hid (X = stps s (l.take k)) ∧ Hid (X.fit ∧ X.ss.length ≤ 1000000) ∧ Hid (Loc w.heap.size w wr [(w.heap.size, 30, stc X ao1 cap1), (w.heap.size + 1, 30, zsc)]) ∧ Hid (Shr w.heap.size wr [w.heap.size, w.heap.size + 1] ao1 X.ss.length cap1 X.ss)) (fun v _ => l.length - (intOf v).toNat)
  case atStart => exact ⟨0, s, ao1, cap1, by omega, rfl, rfl, ⟨HFT.out, HLN.out⟩, HH2.out, HR2.out⟩
  case round =>
    clear HH2 HR2 hsz hlt0 hlt1
    obtain ⟨k, X, ao1, cap1, hk, rfl, HXE, HX, HR, HS1⟩ := hrel
    by_cases hlt : k < l.length
    · obtain ⟨b0, o0, i, j, rfl, hi, hj, hx⟩ := HP.out.at k hlt
      have HIJ := Lib.hid (show i < 256 ∧ j < 256 from ⟨hi, hj⟩)
      have HXK := Lib.hid hx
      obtain ⟨T, hT⟩ : ∃ T, T = stp X i j := ⟨_, rfl⟩
      have HT := Lib.hid hT
      have HTE : Hid (T = stps s (l.take (k + 1))) := by show _ = _; rw [stps_next s l k hlt hx, ← HXE.out, HT.out]
      have HTF : Hid (T.fit ∧ T.ss.length ≤ 1000000) := by show _ ∧ _; rw [hT]; exact ⟨stp_fit HX.out.1 i j, stp_len HX.out.1 (by decide) HX.out.2 i j⟩
      clear hT hx hi hj
      go_upto_region 5 with fail
      have a1 := HR.out.onA ty_state 0 rfl 0 (vs := stc X ao1 cap1) rfl (Nat.le_of_ble_eq_true rfl)
      have a2 : ∀ W, G.On wr.heap.size wr W → (ldT 47 (.pointer (some ⟨b0, o0 + k * 2, none⟩))).run Tryd.prog W = .ok (.agg #[.int .u8 (i : Int), .int .u8 (j : Int)]) W := fun W hW => pis_ld HP.out (HR.out.to hW).be k hlt HXK.out
      have o0' := G.On.drew wr.heap.size wr
      refine wp_region_till (S := fun w' => G.On wr.heap.size wr w') (by kernel_rfl) ?_
      refine wpTill_take (i := 0) (v := ?vg0) rfl (by kernel_rfl) (fun _ _ _ h => h) (Or.inl ⟨by rfl, ?hyg0⟩) o0' ?restg0
      case hyg0 => (intro W hW; (try dsimp only at hW); go_simp; try with_reducible rfl)
      simp only [Act.put, List.setIfInBounds_toArray, List.set_cons_zero, List.set_cons_succ]
      refine wpTill_take (i := 1) (v := ?vg1) rfl (by kernel_rfl) (fun _ _ _ h => h) (Or.inl ⟨by rfl, ?hyg1⟩) o0' ?restg1
      case hyg1 => (intro W hW; (try dsimp only at hW); go_simp; try with_reducible rfl)
      simp only [Act.put, List.setIfInBounds_toArray, List.set_cons_zero, List.set_cons_succ]
      refine wpTill_take (i := 2) (v := ?vg2) rfl (by kernel_rfl) (fun _ _ _ h => h) (Or.inl ⟨by rfl, ?hyg2⟩) o0' ?restg2
      case hyg2 => (intro W hW; (try dsimp only at hW); go_simp; try with_reducible rfl)
      simp only [Act.put, List.setIfInBounds_toArray, List.set_cons_zero, List.set_cons_succ]
      refine wpTill_take (i := 3) (v := ?vg3) rfl (by kernel_rfl) (fun _ _ _ h => h) (Or.inl ⟨by rfl, ?hyg3⟩) o0' ?restg3
      case hyg3 => (intro W hW; (try dsimp only at hW); go_simp; try with_reducible rfl)
      simp only [Act.put, List.setIfInBounds_toArray, List.set_cons_zero, List.set_cons_succ]
      refine wpTill_take (i := 4) (v := ?vg4) rfl (by kernel_rfl) (fun _ _ _ h => h) (Or.inl ⟨by rfl, ?hyg4⟩) o0' ?restg4
      case hyg4 => (intro W hW; (try dsimp only at hW); go_simp; try with_reducible rfl)
      simp only [Act.put, List.setIfInBounds_toArray, List.set_cons_zero, List.set_cons_succ]
      refine wpTill_run (i := 5) (by kernel_rfl) rfl o0' (fun K hK => ?_)
      go_simp
      go_at_call 27
      refine (step_c X ao1 cap1 i j wr.drew ((HS1.out.to (Below.refl _ _).drew).shs HX.out.1.2.2.2.2.1) HS1.out.nil (by have := HX.out.2; omega) HX.out.1 HIJ.out.1 HIJ.out.2 (HL.out.to HR.out.drew.be).t (HL.out.to HR.out.drew.be).f).mono ?_
      rw [← HT.out]
      rintro E w4 ⟨ao4, cap4, rfl, hR4, hb4⟩
      have o4 : G.On wr.heap.size wr w4 := Below.trans o0' hb4
      have HN1' : Hid (Shr w.heap.size w4 [w.heap.size, w.heap.size + 1] ao4 T.ss.length cap4 T.ss) := (hR4.apart (by intro b hb; have h1 := (HR.out.get 0 rfl).lt; have h2 := (HR.out.get 1 rfl).lt; simp only [List.mem_cons, List.not_mem_nil, or_false] at hb; show b < wr.heap.size; rcases hb with rfl | rfl <;> assumption) hb4.size).low HR.out.size
      clear hR4 hb4
      refine hK _ _ ?_
      clear hK K
      refine wpTill_run (i := 6) (by kernel_rfl) rfl o4 (fun K hK => ?_)
      have Hr1 := HR.out.to o4
      obtain ⟨wr2, sr3, Hr4, hq0⟩ := Hr1.stA ty_state 0 rfl 0 (stc T ao4 cap4) (cs' := stc T ao4 cap4) rfl (L' := [(w.heap.size, 30, stc T ao4 cap4), (w.heap.size + 1, 30, zsc)]) rfl (Nat.le_of_ble_eq_true rfl) rfl rfl
      go_simp
      refine hK _ _ ?_
      clear hK K
      refine wpTill_done (by kernel_rfl) ?_
      have HN1 := Lib.hid (HN1'.out.turn (by simp) hq0)
      have HH4 := Lib.hid Hr4
      clear a1 a2 o0' o4 HN1' hq0 sr3 Hr4 Hr1
      go_wp2
      go_roundw
      case rel => exact ⟨k + 1, T, ao4, cap4, by omega, by go_num, HTE.out, HTF.out, HH4.out, HN1.out⟩
      case measure => simp [intOf]; omega
    · obtain rfl : k = l.length := by omega
      have HXL : Hid (X = stps s l) := by show _ = _; rw [HXE.out, List.take_length]
      have l1 := HR.out.ldA ty_state 0 rfl 0 (vs := stc X ao1 cap1) rfl (Nat.le_of_ble_eq_true rfl)
      obtain ⟨w3, s3, H3, q3⟩ := HR.out.stA ty_state 1 rfl 0 (stc X ao1 cap1) (cs' := stc X ao1 cap1) rfl (L' := [(w.heap.size, 30, stc X ao1 cap1), (w.heap.size + 1, 30, stc X ao1 cap1)]) rfl (Nat.le_of_ble_eq_true rfl) rfl rfl
      have HS3 := Lib.hid ((HS1.out.turn (by simp) q3).less (bs' := []) (by simp))
      have HH3 := Lib.hid H3
      clear q3 H3 HXE
      have HXX : Hid (StPost w.heap.size w (stps s l) (.returned (.agg (stc X ao1 cap1))) w3) := by show StPost _ _ _ _ _; rw [← HXL.out]; exact ⟨ao1, cap1, rfl, HS3.out, HH3.out.be⟩
      go_wp2
      refine bodyPost_ret (v := .agg (stc X ao1 cap1)) (ret_struct Tryd.underlying30 ty_state _ 4 _ Tryd.results11 (HH3.out.get 1 rfl) rfl rfl) rfl ?_
      exact HXX.out
set_option maxHeartbeats 4000000 in
theorem rfold_c (s : St) (ao : Option Addr) (cap : Nat) (l : List (Nat × Nat)) (lo : Option Addr) (c2 : Nat) (w : World) (hS : Shs w ao s.ss) (hn : ao = none → cap = 0) (hl : s.ss.length ≤ 1000000) (hf : s.fit) (hP : Pis w lo l) (hl2 : l.length ≤ maxLen) :
    Calls Tryd.prog 12 #[sv s ao cap, .slice lo l.length c2] w (StPost w.heap.size w (stps s l)) := by
  have HS := Lib.hid hS
  have HN := Lib.hid hn
  have HFT := Lib.hid hf
  have HP := Lib.hid hP
  have HLN := Lib.hid hl
  have hm : l.length ≤ 9223372036854775807 := Nat.le_trans hl2 (by decide)
  have H0 := Lib.hid (Loc.two w 30 30 (stc s ao cap) zsc)
  clear hS hn hf hP hl2 hl
  go_enter Tryd.func12, Tryd.ntmps12
  go_upto_region 1 with fail
  generalize (w.alloc (.cells (stc s ao cap) 30)).alloc (.cells zsc 30) = wa at *
  have la := H0.out.ldA ty_state 0 rfl 0 (vs := stc s ao cap) rfl (Nat.le_of_ble_eq_true rfl)
  go_wp2_with fail
  refine (refCopy_c s ao cap wa (Shs_grown HS.out (grown_of_below (r := none) H0.out.be) (by simp)) HN.out HLN.out).mono ?_
  rintro E w1 ⟨ao1, cap1, rfl, hown, hnil, hg⟩
  clear la
  have H1 := H0.out.grown hg
  have hsz := H0.out.size
  have hlt0 := (H0.out.get 0 rfl).lt
  have hlt1 := (H0.out.get 1 rfl).lt
  have HR1 : Hid (Shr w.heap.size w1 [w.heap.size, w.heap.size + 1] ao1 s.ss.length cap1 s.ss) := (shr_of hown rfl hnil (bs := [w.heap.size, w.heap.size + 1]) (by intro b hb; simp only [List.mem_cons, List.not_mem_nil, or_false] at hb; rcases hb with rfl | rfl <;> assumption) hg.size).low hsz
  obtain ⟨w2, s2, H2, q2⟩ := H1.stA ty_state 0 rfl 0 (stc s ao1 cap1) (cs' := stc s ao1 cap1) rfl (L' := [(w.heap.size, 30, stc s ao1 cap1), (w.heap.size + 1, 30, zsc)]) rfl (Nat.le_of_ble_eq_true rfl) rfl rfl
  have HR2 := Lib.hid (HR1.out.turn (by simp) q2)
  have HH2 := Lib.hid H2
  clear hown hnil hg H1 HR1 q2 H2 H0
  go_wp2
  clear s2
  go_loopw [5] (fun v wr => ∃ (k : Nat) (X : St) (ao1 : Option Addr) (cap1 : Nat), k ≤ l.length ∧ v = .int .i64 k ∧ Hid (X = stps s (l.take k)) ∧ Hid (X.fit ∧ X.ss.length ≤ 1000000) ∧ Hid (Loc w.heap.size w wr [(w.heap.size, 30, stc X ao1 cap1), (w.heap.size + 1, 30, zsc)]) ∧ Hid (Shr w.heap.size wr [w.heap.size, w.heap.size + 1] ao1 X.ss.length cap1 X.ss)) (fun v _ => l.length - (intOf v).toNat)
  case atStart => exact ⟨0, s, ao1, cap1, by omega, rfl, rfl, ⟨HFT.out, HLN.out⟩, HH2.out, HR2.out⟩
  case round =>
    clear HH2 HR2 hsz hlt0 hlt1
    obtain ⟨k, X, ao1, cap1, hk, rfl, HXE, HX, HR, HS1⟩ := hrel
    by_cases hlt : k < l.length
    · obtain ⟨b0, o0, i, j, rfl, hi, hj, hx⟩ := HP.out.at k hlt
      have HIJ := Lib.hid (show i < 256 ∧ j < 256 from ⟨hi, hj⟩)
      have HXK := Lib.hid hx
      obtain ⟨T, hT⟩ : ∃ T, T = stp X i j := ⟨_, rfl⟩
      have HT := Lib.hid hT
      have HTE : Hid (T = stps s (l.take (k + 1))) := by show _ = _; rw [stps_next s l k hlt hx, ← HXE.out, HT.out]
      have HTF : Hid (T.fit ∧ T.ss.length ≤ 1000000) := by show _ ∧ _; rw [hT]; exact ⟨stp_fit HX.out.1 i j, stp_len HX.out.1 (by decide) HX.out.2 i j⟩
      clear hT hx hi hj
      go_upto_region 5 with fail
      have a1 := HR.out.onA ty_state 0 rfl 0 (vs := stc X ao1 cap1) rfl (Nat.le_of_ble_eq_true rfl)
      have a2 : ∀ W, G.On wr.heap.size wr W → (ldT 47 (.pointer (some ⟨b0, o0 + k * 2, none⟩))).run Tryd.prog W = .ok (.agg #[.int .u8 (i : Int), .int .u8 (j : Int)]) W := fun W hW => pis_ld HP.out (HR.out.to hW).be k hlt HXK.out
      have o0' := G.On.drew wr.heap.size wr
      refine wp_region_till (S := fun w' => G.On wr.heap.size wr w') (by kernel_rfl) ?_
      refine wpTill_take (i := 0) (v := ?vg0) rfl (by kernel_rfl) (fun _ _ _ h => h) (Or.inl ⟨by rfl, ?hyg0⟩) o0' ?restg0
      case hyg0 => (intro W hW; (try dsimp only at hW); go_simp; try with_reducible rfl)
      simp only [Act.put, List.setIfInBounds_toArray, List.set_cons_zero, List.set_cons_succ]
      refine wpTill_take (i := 1) (v := ?vg1) rfl (by kernel_rfl) (fun _ _ _ h => h) (Or.inl ⟨by rfl, ?hyg1⟩) o0' ?restg1
      case hyg1 => (intro W hW; (try dsimp only at hW); go_simp; try with_reducible rfl)
      simp only [Act.put, List.setIfInBounds_toArray, List.set_cons_zero, List.set_cons_succ]
      refine wpTill_take (i := 2) (v := ?vg2) rfl (by kernel_rfl) (fun _ _ _ h => h) (Or.inl ⟨by rfl, ?hyg2⟩) o0' ?restg2
      case hyg2 => (intro W hW; (try dsimp only at hW); go_simp; try with_reducible rfl)
      simp only [Act.put, List.setIfInBounds_toArray, List.set_cons_zero, List.set_cons_succ]
      refine wpTill_take (i := 3) (v := ?vg3) rfl (by kernel_rfl) (fun _ _ _ h => h) (Or.inl ⟨by rfl, ?hyg3⟩) o0' ?restg3
      case hyg3 => (intro W hW; (try dsimp only at hW); go_simp; try with_reducible rfl)
      simp only [Act.put, List.setIfInBounds_toArray, List.set_cons_zero, List.set_cons_succ]
      refine wpTill_take (i := 4) (v := ?vg4) rfl (by kernel_rfl) (fun _ _ _ h => h) (Or.inl ⟨by rfl, ?hyg4⟩) o0' ?restg4
      case hyg4 => (intro W hW; (try dsimp only at hW); go_simp; try with_reducible rfl)
      simp only [Act.put, List.setIfInBounds_toArray, List.set_cons_zero, List.set_cons_succ]
      refine wpTill_run (i := 5) (by kernel_rfl) rfl o0' (fun K hK => ?_)
      go_simp
      go_at_call 28
      refine (refStep_c X ao1 cap1 i j wr.drew ((HS1.out.to (Below.refl _ _).drew).shs HX.out.1.2.2.2.2.1) HS1.out.nil (by have := HX.out.2; omega) HX.out.1 HIJ.out.1 HIJ.out.2).mono ?_
      rw [← HT.out]
      rintro E w4 ⟨ao4, cap4, rfl, hR4, hb4⟩
      have o4 : G.On wr.heap.size wr w4 := Below.trans o0' hb4
      have HN1' : Hid (Shr w.heap.size w4 [w.heap.size, w.heap.size + 1] ao4 T.ss.length cap4 T.ss) := (hR4.apart (by intro b hb; have h1 := (HR.out.get 0 rfl).lt; have h2 := (HR.out.get 1 rfl).lt; simp only [List.mem_cons, List.not_mem_nil, or_false] at hb; show b < wr.heap.size; rcases hb with rfl | rfl <;> assumption) hb4.size).low HR.out.size
      clear hR4 hb4
      refine hK _ _ ?_
      clear hK K
      refine wpTill_run (i := 6) (by kernel_rfl) rfl o4 (fun K hK => ?_)
      have Hr1 := HR.out.to o4
      obtain ⟨wr2, sr3, Hr4, hq0⟩ := Hr1.stA ty_state 0 rfl 0 (stc T ao4 cap4) (cs' := stc T ao4 cap4) rfl (L' := [(w.heap.size, 30, stc T ao4 cap4), (w.heap.size + 1, 30, zsc)]) rfl (Nat.le_of_ble_eq_true rfl) rfl rfl
      go_simp
      refine hK _ _ ?_
      clear hK K
      refine wpTill_done (by kernel_rfl) ?_
      have HN1 := Lib.hid (HN1'.out.turn (by simp) hq0)
      have HH4 := Lib.hid Hr4
      clear a1 a2 o0' o4 HN1' hq0 sr3 Hr4 Hr1
      go_wp2
      go_roundw
      case rel => exact ⟨k + 1, T, ao4, cap4, by omega, by go_num, HTE.out, HTF.out, HH4.out, HN1.out⟩
      case measure => simp [intOf]; omega
    · obtain rfl : k = l.length := by omega
      have HXL : Hid (X = stps s l) := by show _ = _; rw [HXE.out, List.take_length]
      have l1 := HR.out.ldA ty_state 0 rfl 0 (vs := stc X ao1 cap1) rfl (Nat.le_of_ble_eq_true rfl)
      obtain ⟨w3, s3, H3, q3⟩ := HR.out.stA ty_state 1 rfl 0 (stc X ao1 cap1) (cs' := stc X ao1 cap1) rfl (L' := [(w.heap.size, 30, stc X ao1 cap1), (w.heap.size + 1, 30, stc X ao1 cap1)]) rfl (Nat.le_of_ble_eq_true rfl) rfl rfl
      have HS3 := Lib.hid ((HS1.out.turn (by simp) q3).less (bs' := []) (by simp))
      have HH3 := Lib.hid H3
      clear q3 H3 HXE
      have HXX : Hid (StPost w.heap.size w (stps s l) (.returned (.agg (stc X ao1 cap1))) w3) := by show StPost _ _ _ _ _; rw [← HXL.out]; exact ⟨ao1, cap1, rfl, HS3.out, HH3.out.be⟩
      go_wp2
      refine bodyPost_ret (v := .agg (stc X ao1 cap1)) (ret_struct Tryd.underlying30 ty_state _ 4 _ Tryd.results12 (HH3.out.get 1 rfl) rfl rfl) rfl ?_
      exact HXX.out
end Go.Proofs.YtgmbdadkahcpcaaDoor
