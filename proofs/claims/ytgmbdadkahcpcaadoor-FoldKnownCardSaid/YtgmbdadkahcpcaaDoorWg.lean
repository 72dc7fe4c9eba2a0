/- The program's history: Slice. Nothing is assumed beyond the contract's own bounds. -/
import Derived.Test.YtgmbdadkahcpcaaDoorWf
import Derived.IntWalk
namespace Go.Proofs.YtgmbdadkahcpcaaDoor
open Go.RowKit
set_option linter.unusedVariables false
set_option linter.unusedSimpArgs false
set_option maxRecDepth 20000
/-- So many pairs of a ring, from a frame's place on. -/
def rcut (R : List (Nat × Nat)) (x k : Nat) : List (Nat × Nat) := (List.range k).map fun i => R.getD ((x + i) % 256) (0, 0)
theorem rcut_len (R : List (Nat × Nat)) (x k : Nat) : (rcut R x k).length = k := by simp [rcut]
theorem rcut_next (R : List (Nat × Nat)) (x k : Nat) {p : Nat × Nat} (h : R[(x + k) % 256]? = some p) : rcut R x k ++ [p] = rcut R x (k + 1) := by
  simp only [rcut, List.range_succ, List.map_append, List.map_cons, List.map_nil, List.getD, h, Option.getD_some]
theorem sliceNil_c (x : Nat) (n : Int) (w : World) : Calls Tryd.prog 21 #[.pointer none, .int .u64 (x : Int), .int .i64 n] w fun E w' => E = .returned (.slice none 0 0) ∧ w = w' := by
  go_enter Tryd.func21, Tryd.ntmps21
  go_wp2_with fail
  refine (holdsNil_c x).mono ?_
  rintro E w2 ⟨rfl, rfl⟩
  go_wp2
  go_ret
  exact ⟨rfl, rfl⟩
theorem sliceNo_c {g f c m : Nat} {R : List (Nat × Nat)} {w : World} (hR : R.length = 256) (h : PHc w g R f c m) (x : Nat) (n : Int) (hx : ¬ (f ≤ x ∧ x < c)) : Calls Tryd.prog 21 #[.pointer (some ⟨g, 0, none⟩), .int .u64 (x : Int), .int .i64 n] w fun E w' => E = .returned (.slice none 0 0) ∧ w = w' := by
  have CH := Lib.hid (holds_c hR h x)
  rw [decide_eq_false hx] at CH
  clear h hx
  go_enter Tryd.func21, Tryd.ntmps21
  go_wp2_with fail
  refine CH.out.mono ?_
  rintro E w2 ⟨rfl, rfl⟩
  go_wp2
  go_ret
  exact ⟨rfl, rfl⟩
attribute [local go_sem ↓] ld_pair ld_u64 st_pair st_u64
set_option maxHeartbeats 1000000 in
theorem sliceYes_c {g f c m : Nat} {R : List (Nat × Nat)} {w : World} (hR : R.length = 256) (h : PHc w g R f c m) (x : Nat) (n : Int) (N : Nat) (hN : max n 0 = (N : Int)) (h1 : -9223372036854775808 ≤ n) (h2 : n < 9223372036854775808) (hx : f ≤ x ∧ x < c) (hc : c < 18446744073709551616) (hcx : c - x ≤ 256) :
    Calls Tryd.prog 21 #[.pointer (some ⟨g, 0, none⟩), .int .u64 (x : Int), .int .i64 n] w fun E w' => ∃ ao cap, E = .returned (.slice ao (min N (c - x)) cap) ∧ Prr w.heap.size w' [] ao (min N (c - x)) cap (rcut R x (min N (c - x))) ∧ Below w.heap.size w w' := by
  have CH := Lib.hid (holds_c hR h x)
  rw [decide_eq_true hx] at CH
  have HC := Lib.hid h
  have hlt := h.lt
  have c1 := run_ldO ty_u64 h 513 (hcs_c hR f c m)
  have wn : IntKind.i64.wrap n = n := Go.IntWalk.i64_in _ ⟨h1, by omega⟩
  have wn2 : wrap64 n = n := by rw [← Go.IntWalk.i64_left]; exact wn
  have wN : IntKind.u64.wrap (N : Int) = N := u64_id _ (by omega) (by omega)
  have e1 : IntKind.u64.wrap ((c : Int) - x) = ((c - x : Nat) : Int) := by rw [show (c : Int) - x = ((c - x : Nat) : Int) by omega]; exact u64_id _ (by omega) (by omega)
  have wd : IntKind.u64.wrap ((c - x : Nat) : Int) = ((c - x : Nat) : Int) := u64_id _ (by omega) (by omega)
  have hxk := Lib.hid (show x + (c - x) = c by omega)
  have hcc := Lib.hid hc
  generalize c - x = d at *
  obtain ⟨k, hk⟩ : ∃ k, min N d = k := ⟨_, rfl⟩
  rw [hk]
  have hmn : min (N : Int) (d : Int) = k := by omega
  have hkd := Lib.hid (show k ≤ d ∧ k ≤ 256 by omega)
  clear h hx hk h1 h2 hcx hc
  go_enter Tryd.func21, Tryd.ntmps21
  go_wp2_with fail
  refine CH.out.mono ?_
  rintro E w2 ⟨rfl, rfl⟩
  clear CH
  go_wp2
  go_loopw [23, 7] (fun t v wr => ∃ (i cap : Nat) (ao : Option Addr), i ≤ k ∧ t = .int .u64 i ∧ v = .slice ao i cap ∧ Hid (Prr w.heap.size wr [] ao i cap (rcut R x i)) ∧ Hid (Below w.heap.size w wr)) (fun t _ _ => k - (intOf t).toNat)
  case atStart => exact ⟨0, 0, none, by omega, rfl, rfl, Prr.none _ _ _ (fun b hb => by cases hb), Below.refl _ _⟩
  case round =>
    obtain ⟨i, cap, ao, hi, rfl, rfl, HP, HB⟩ := hrel
    by_cases hik : i < k
    · have hik2 : (i : Int) < k := by omega
      have e2 : IntKind.u64.wrap ((x : Int) + i) = ((x + i : Nat) : Int) := u64_id _ (by omega) (by have := hxk.out; have := hkd.out; have := hcc.out; omega)
      have HPL := Lib.hid (fun W => place_c (x + i) W)
      have e3 : IntKind.u64.wrap ((i : Int) + 1) = ((i + 1 : Nat) : Int) := u64_id _ (by omega) (by have := hkd.out; omega)
      have HK := Lib.hid (show (x + i) % 256 < 256 from Nat.mod_lt _ (by decide))
      have HNX := Lib.hid (fun p => rcut_next R x i (p := p))
      generalize (x + i) % 256 = j at *
      generalize x + i = y at *
      obtain ⟨⟨p, q⟩, hpq⟩ : ∃ p, R[j]? = some p := ⟨_, List.getElem?_eq_getElem (by rw [hR]; exact HK.out)⟩
      have hnx := Lib.hid (HNX.out _ hpq)
      obtain ⟨hjl, hpj⟩ := List.getElem?_eq_some_iff.1 hpq
      have HB1 := Lib.hid HB.out.drew
      have HP1 := Lib.hid (HP.out.to (Below.refl _ _).drew)
      have HL1 : Hid (Loc w.heap.size w wr.drew []) := (Loc.nil (Nat.le_refl _)).to HB1.out
      have l1 : ∀ W, Below w.heap.size w W → (ldT 47 (.pointer (some ⟨g, j * 2, none⟩))).run Tryd.prog W = .ok (.agg #[.int .u8 (p : Int), .int .u8 (q : Int)]) W := fun W hW => by
        rw [← hcs_pair hR f c m j HK.out hpj]; exact run_ldA ty_pair (HC.out.below hW HC.out.lt) (j * 2) (by rw [hcs_size hR]; have := HK.out; omega)
      have hj256 : (j : Int) < 256 := by have := HK.out; omega
      have hm8 : i ≤ 1000000 := by have := hkd.out; omega
      have oA := Lib.hid (HB1.out.alloc HB1.out.size (.cells #[.int .u8 (p : Int), .int .u8 (q : Int)] 47))
      have o0 := HB1.out
      replace oA := oA.out
      clear hpq hpj hjl HNX HP HB HK
      go_upto_region 7 with fail
      refine wp_region_till (S := fun w' => Below w.heap.size w w') (by kernel_rfl) ?_
      refine wpTill_take (i := 0) (v := ?vg0) rfl (by kernel_rfl) (fun _ _ _ h => h) (Or.inl ⟨by rfl, ?hyg0⟩) o0 ?restg0
      case hyg0 => (intro W hW; (try dsimp only at hW); go_simp; try with_reducible rfl)
      simp only [Act.put, List.setIfInBounds_toArray, List.set_cons_zero, List.set_cons_succ]
      refine wpTill_take (i := 1) (v := ?vg1) rfl (by kernel_rfl) (fun _ _ _ h => h) (Or.inl ⟨by rfl, ?hyg1⟩) o0 ?restg1
      case hyg1 => (intro W hW; (try dsimp only at hW); go_simp; try with_reducible rfl)
      simp only [Act.put, List.setIfInBounds_toArray, List.set_cons_zero, List.set_cons_succ]
      refine wpTill_take (i := 2) (v := ?vg2) rfl (by kernel_rfl) (fun _ _ _ h => h) (Or.inl ⟨by rfl, ?hyg2⟩) o0 ?restg2
      case hyg2 => (intro W hW; (try dsimp only at hW); go_simp; try with_reducible rfl)
      simp only [Act.put, List.setIfInBounds_toArray, List.set_cons_zero, List.set_cons_succ]
      refine wpTill_take (i := 3) (v := ?vg3) rfl (by kernel_rfl) (fun _ _ _ h => h) (Or.inl ⟨by rfl, ?hyg3⟩) o0 ?restg3
      case hyg3 => (intro W hW; (try dsimp only at hW); go_simp; try with_reducible rfl)
      simp only [Act.put, List.setIfInBounds_toArray, List.set_cons_zero, List.set_cons_succ]
      refine wpTill_take (i := 4) (v := ?vg4) rfl (by kernel_rfl) (fun _ _ _ h => h) (Or.inl ⟨by rfl, ?hyg4⟩) o0 ?restg4
      case hyg4 => (intro W hW; (try dsimp only at hW); go_simp; try with_reducible rfl)
      simp only [Act.put, List.setIfInBounds_toArray, List.set_cons_zero, List.set_cons_succ]
      refine wpTill_take (i := 6) (v := ?vg6) rfl (by kernel_rfl) (fun _ _ _ h => h) (Or.inl ⟨by rfl, ?hyg6⟩) o0 ?restg6
      case hyg6 => (intro W hW; (try dsimp only at hW); go_simp; try with_reducible rfl)
      simp only [Act.put, List.setIfInBounds_toArray, List.set_cons_zero, List.set_cons_succ]
      refine wpTill_take (i := 7) (v := ?vg7) rfl (by kernel_rfl) (fun _ _ _ h => h) (Or.inl ⟨by rfl, ?hyg7⟩) o0 ?restg7
      case hyg7 => (intro W hW; (try dsimp only at hW); go_simp; try with_reducible rfl)
      simp only [Act.put, List.setIfInBounds_toArray, List.set_cons_zero, List.set_cons_succ]
      refine wpTill_run (i := 5) (by kernel_rfl) rfl o0 (fun K hK => ?_)
      go_simp
      go_at_call 35
      refine (HPL.out _).mono ?_
      rintro E w3 ⟨rfl, rfl⟩
      refine hK _ _ ?_
      clear hK K
      refine wpTill_take (i := 8) (v := ?vg8) rfl (by kernel_rfl) (fun _ _ _ h => h) (Or.inl ⟨by rfl, ?hyg8⟩) o0 ?restg8
      case hyg8 => (intro W hW; (try dsimp only at hW); go_simp; try with_reducible rfl)
      simp only [Act.put, List.setIfInBounds_toArray, List.set_cons_zero, List.set_cons_succ]
      refine wpTill_take (i := 9) (v := ?vg9) rfl (by kernel_rfl) (fun _ _ _ h => h) (Or.inl ⟨by rfl, ?hyg9⟩) o0 ?restg9
      case hyg9 => (intro W hW; (try dsimp only at hW); go_simp; try with_reducible rfl)
      simp only [Act.put, List.setIfInBounds_toArray, List.set_cons_zero, List.set_cons_succ]
      refine wpTill_run (i := 10) (by kernel_rfl) rfl o0 (fun K hK => ?_)
      go_simp
      refine hK _ _ ?_
      clear hK K
      refine wpTill_run (i := 11) (by kernel_rfl) rfl oA (fun K hK => ?_)
      refine step_append_pi rfl _ _ rfl (by simp [Act.eval]) (p, q) _ rfl (by simp [Act.eval]) HP1.out HL1.out (by simp) hm8 ?_
      intro r5 cap5 w7 hR7 hL7
      have HR7 := Lib.hid hR7
      have HL7 := Lib.hid hL7.be
      have o7 := hL7.be
      clear hR7 hL7
      refine hK _ _ ?_
      clear hK K
      refine wpTill_run (i := 12) (by kernel_rfl) rfl o7 (fun K hK => ?_)
      go_simp
      refine hK _ _ ?_
      clear hK K
      refine wpTill_done (by kernel_rfl) ?_
      clear o0 oA o7 l1
      go_wp2
      go_roundw
      case rel => exact ⟨i + 1, cap5, some ⟨r5, 0, none⟩, by omega, by go_num, rfl, by show Prr _ _ _ _ _ _ _; rw [← hnx.out]; exact HR7.out, HL7.out⟩
      case measure => simp [intOf]; omega
    · obtain rfl : i = k := by omega
      go_wp2
      go_ret
      exact ⟨_, _, rfl, HP.out, HB.out⟩
end Go.Proofs.YtgmbdadkahcpcaaDoor
