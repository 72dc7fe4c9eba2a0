/- The program's history: At, Drop. Nothing is assumed beyond each contract's own bounds. -/
import Derived.Test.YtgmbdadkahcpcaaDoorWe
namespace Go.Proofs.YtgmbdadkahcpcaaDoor
open Go.RowKit
set_option linter.unusedVariables false
set_option linter.unusedSimpArgs false
set_option maxRecDepth 20000
attribute [local go_sem ↓] ld_pair ld_u64 st_pair st_u64
abbrev PZ : Array Value := #[.int .u8 0, .int .u8 0]
theorem atNil_c (x : Nat) (w : World) : Calls Tryd.prog 20 #[.pointer none, .int .u64 (x : Int)] w fun E w' => E = .returned (.tuple #[.agg PZ, .bool false]) ∧ Below w.heap.size w w' := by
  have H0 := Loc.one w 47 PZ
  obtain ⟨w1, s1, H1, _⟩ := H0.stA ty_pair 0 rfl 0 PZ (cs' := PZ) rfl (L' := [(w.heap.size, 47, PZ)]) rfl (Nat.le_of_ble_eq_true rfl) rfl rfl
  go_enter Tryd.func20, Tryd.ntmps20
  go_wp2_with fail
  refine (holdsNil_c x).mono ?_
  rintro E w2 ⟨rfl, rfl⟩
  go_wp2
  refine bodyPost_ret (v := .tuple #[.agg PZ, .bool false]) (shut_pair _ _ _ Tryd.results20 (H1.get 0 rfl) rfl rfl rfl) rfl ?_
  exact ⟨rfl, H1.be⟩
theorem atNo_c {g f c m : Nat} {R : List (Nat × Nat)} {w : World} (hR : R.length = 256) (h : PHc w g R f c m) (x : Nat) (hx : ¬ (f ≤ x ∧ x < c)) : Calls Tryd.prog 20 #[.pointer (some ⟨g, 0, none⟩), .int .u64 (x : Int)] w fun E w' => E = .returned (.tuple #[.agg PZ, .bool false]) ∧ Below w.heap.size w w' := by
  have H0 := Loc.one w 47 PZ
  obtain ⟨w1, s1, H1, _⟩ := H0.stA ty_pair 0 rfl 0 PZ (cs' := PZ) rfl (L' := [(w.heap.size, 47, PZ)]) rfl (Nat.le_of_ble_eq_true rfl) rfl rfl
  have CH := Lib.hid (holds_c hR (h.alloc (.cells PZ 47)) x)
  rw [decide_eq_false hx] at CH
  clear h H0 hx
  go_enter Tryd.func20, Tryd.ntmps20
  go_wp2_with fail
  refine CH.out.mono ?_
  rintro E w2 ⟨rfl, rfl⟩
  go_wp2
  refine bodyPost_ret (v := .tuple #[.agg PZ, .bool false]) (shut_pair _ _ _ Tryd.results20 (H1.get 0 rfl) rfl rfl rfl) rfl ?_
  exact ⟨rfl, H1.be⟩
theorem atYes_c {g f c m p q : Nat} {R : List (Nat × Nat)} {w : World} (hR : R.length = 256) (h : PHc w g R f c m) (x : Nat) (hx : f ≤ x ∧ x < c) (hp : R[x % 256]? = some (p, q)) : Calls Tryd.prog 20 #[.pointer (some ⟨g, 0, none⟩), .int .u64 (x : Int)] w fun E w' => E = .returned (.tuple #[.agg #[.int .u8 (p : Int), .int .u8 (q : Int)], .bool true]) ∧ Below w.heap.size w w' := by
  have hlt := h.lt
  have H0 := Lib.hid (Loc.one w 47 PZ)
  have HC := Lib.hid (h.alloc (.cells PZ 47))
  have CH := Lib.hid (holds_c hR HC.out x)
  rw [decide_eq_true hx] at CH
  have HPL := Lib.hid (fun W => place_c x W)
  have HK := Lib.hid (show x % 256 < 256 from Nat.mod_lt _ (by decide))
  generalize x % 256 = k at *
  obtain ⟨hk, hpk⟩ := List.getElem?_eq_some_iff.1 hp
  have HPK := Lib.hid hpk
  have hk256 : (k : Int) < 256 := by have := HK.out; omega
  clear h hx hp hpk
  go_enter Tryd.func20, Tryd.ntmps20
  go_wp2_with fail
  refine CH.out.mono ?_
  rintro E w2 ⟨rfl, rfl⟩
  clear CH
  go_upto_region 3 with fail
  generalize hgw : w.heap.size = gb at *
  generalize w.alloc (.cells PZ 47) = wa at *
  obtain ⟨wd, hwd⟩ : ∃ wd, ({ wa with drawn := wa.drawn + 1 } : World) = wd := ⟨_, rfl⟩
  have H1 : Loc gb w wd [(gb, 47, PZ)] := by rw [← hwd]; exact H0.out.drew
  have hc1 : PHc wd g R f c m := by rw [← hwd]; exact HC.out.below (Below.refl _ _).drew HC.out.lt
  have l1 : (ldT 47 (.pointer (some ⟨g, k * 2, none⟩))).run Tryd.prog wd = .ok (.agg #[.int .u8 (p : Int), .int .u8 (q : Int)]) wd := by
    rw [← hcs_pair hR f c m k HK.out HPK.out]; exact run_ldA ty_pair hc1 (k * 2) (by rw [hcs_size hR]; have := HK.out; omega)
  obtain ⟨w1, s1, H2, _⟩ := H1.stA ty_pair 0 rfl 0 #[.int .u8 (p : Int), .int .u8 (q : Int)] (cs' := #[.int .u8 (p : Int), .int .u8 (q : Int)]) rfl (L' := [(gb, 47, #[.int .u8 (p : Int), .int .u8 (q : Int)])]) rfl (Nat.le_of_ble_eq_true rfl) rfl rfl
  clear hc1 HC H0
  refine wp_region_still_tail 7 (by kernel_rfl) (by kernel_rfl) ?_
  simp only [List.take_succ_cons, List.take_zero, List.drop_succ_cons, List.drop_zero]
  rw [hwd]
  clear hwd
  still_step
  still_step
  still_call ((HPL.out wd).mono fun _ _ ⟨h1, h2⟩ => ⟨h1, h2.symm⟩)
  repeat still_step
  refine wpStill_nil ?_
  go_wp2
  refine bodyPost_ret (v := .tuple #[.agg #[.int .u8 (p : Int), .int .u8 (q : Int)], .bool true]) (shut_pair _ _ _ Tryd.results20 (H2.get 0 rfl) rfl rfl rfl) rfl ?_
  exact ⟨rfl, by rw [hgw]; exact H2.be⟩
theorem dropNil_c (x : Nat) (w : World) : Calls Tryd.prog 22 #[.pointer none, .int .u64 (x : Int)] w fun E w' => E = .returned (.tuple #[]) ∧ w = w' := by
  go_enter Tryd.func22, Tryd.ntmps22
  go_wp2
  refine bodyPost_ret (results_none rfl _ _ _) rfl ?_
  exact ⟨rfl, rfl⟩
theorem drop_c {g f c m : Nat} {R : List (Nat × Nat)} {w : World} (hR : R.length = 256) (h : PHc w g R f c m) (x : Nat) (hx : x < 18446744073709551616) (hf : f < 18446744073709551616) (hc : c < 18446744073709551616) : Calls Tryd.prog 22 #[.pointer (some ⟨g, 0, none⟩), .int .u64 (x : Int)] w fun E w' => E = .returned (.tuple #[]) ∧ PHc w' g R (max f (min x c)) c m ∧ w.grownBy w' (some g) := by
  obtain ⟨wd, hwd⟩ : ∃ wd, ({ w with drawn := w.drawn + 1 } : World) = wd := ⟨_, rfl⟩
  have HG := Lib.hid (show w.grownBy wd (some g) by rw [← hwd]; exact grown_of_below (r := some g) (Below.refl w.heap.size w).drew)
  have H0 : Loc g w wd [(g, 60, hcs R f c m)] := by rw [← hwd]; exact (Loc.held h).drew
  have l0 := H0.ldO ty_u64 0 rfl 512 (hcs_f hR f c m)
  have l1 := H0.ldO ty_u64 0 rfl 513 (hcs_c hR f c m)
  have wf : IntKind.u64.wrap (f : Int) = f := u64_id _ (by omega) (by omega)
  have wc : IntKind.u64.wrap (c : Int) = c := u64_id _ (by omega) (by omega)
  have wx : IntKind.u64.wrap (x : Int) = x := u64_id _ (by omega) (by omega)
  obtain ⟨n, hn⟩ : ∃ n, min x c = n := ⟨_, rfl⟩
  obtain ⟨v, hv⟩ : ∃ v, max f n = v := ⟨_, rfl⟩
  rw [hn, hv]
  have en : min (x : Int) (c : Int) = n := by omega
  have wn : IntKind.u64.wrap (n : Int) = n := u64_id _ (by omega) (by omega)
  have ev : max (f : Int) (n : Int) = v := by omega
  obtain ⟨w1, s1, H1, q1⟩ := H0.stO ty_u64 0 rfl 512 (.int .u64 (v : Int)) (cs' := hcs R v c m) (hcs_setf hR f c m v) (L' := [(g, 60, hcs R v c m)]) rfl (by rw [hcs_size hR]; decide) rfl rfl
  clear hx hf hc hn hv H0 h
  go_enter Tryd.func22, Tryd.ntmps22
  go_upto_region 1 with fail
  refine wp_region_still_tail 14 (by kernel_rfl) (by kernel_rfl) ?_
  simp only [List.take_succ_cons, List.take_zero, List.drop_succ_cons, List.drop_zero]
  rw [hwd]
  clear hwd
  repeat still_step
  refine wpStill_nil ?_
  go_wp2
  go_end0
  exact ⟨rfl, H1.get 0 rfl, HG.out.trans q1⟩
end Go.Proofs.YtgmbdadkahcpcaaDoor
