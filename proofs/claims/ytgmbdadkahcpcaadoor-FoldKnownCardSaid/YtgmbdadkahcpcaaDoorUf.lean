/- The program's frame: the table of ways; where one looks: contract. -/
import Derived.Test.YtgmbdadkahcpcaaDoorUe
import Derived.BigQuiet
namespace Go.Proofs.YtgmbdadkahcpcaaDoor
open Go.RowKit
set_option linter.unusedVariables false
set_option linter.unusedSimpArgs false
set_option maxRecDepth 20000

/-- The table of ways, as its numbers. -/
def fcs : List Int := [1, 0, (-1), 0, 0, (-1), 0, 1]
/-- The table of ways lies in the listed variable of this name. -/
def Fac (w : World) : Prop := 1 < w.heap.size ∧ ∀ i : Nat, i < 8 → w.cell? ⟨1, i, none⟩ = some (.int .i32 (fcs.getD i 0))
theorem fac_below {w w' : World} {B : Nat} (h : Fac w) (hb : Below B w w') (hB : 1 < B) : Fac w' := ⟨Nat.lt_of_lt_of_le h.1 hb.size, fun i hi => (hb.cell (p := ⟨1, i, none⟩) hB).trans (h.2 i hi)⟩
theorem fac_to {w w' : World} (h : Fac w) (hb : Below w.heap.size w w') : Fac w' := fac_below h hb h.1
theorem run_ldC {T : TypeId} {n : Nat} (ty : TyA T n) {w : World} {g o : Nat} (vs : List Value) (hn : vs.length = n) (h : ∀ j v, vs[j]? = some v → w.cell? ⟨g, o + j, none⟩ = some v) :
    (ldT T (.pointer (some ⟨g, o, none⟩))).run Tryd.prog w = .ok (.agg vs.toArray) w := by
  have hl := run_loadCells_list (P := Tryd.prog) w ⟨g, o, none⟩ vs (fun j v hv => by
    have hadd : (⟨g, o, none⟩ : Addr).add j = ⟨g, o + j, none⟩ := by unfold Addr.add; split <;> simp_all
    rw [hadd]; exact h j v hv)
  rw [hn] at hl
  obtain ⟨i, hi, hs⟩ := Option.map_eq_some_iff.1 ty.info
  simp [ldT, Instr.loadAt, Instr.sureAddr, loadVar, ty.agg w, sizeOf, typeInfo, hi, hs, hl]
theorem fac_at {w : World} (h : Fac w) (k : Nat) (hk : k < 4) : (ldT 89 (.pointer (some ⟨1, 2 * k, none⟩))).run Tryd.prog w = .ok (.agg #[.int .i32 (fcs.getD (2 * k) 0), .int .i32 (fcs.getD (2 * k + 1) 0)]) w := by
  refine run_ldC ty_way [.int .i32 (fcs.getD (2 * k) 0), .int .i32 (fcs.getD (2 * k + 1) 0)] rfl (fun j v hv => ?_)
  match j, hv with
  | 0, hv => rw [Nat.add_zero, h.2 _ (by omega)]; exact hv
  | 1, hv => rw [h.2 _ (by omega)]; exact hv
theorem way_eql (a b c d : Int) (w : World) : (binOp .eql 89 (.agg #[.int .i32 a, .int .i32 b]) (.agg #[.int .i32 c, .int .i32 d])).run Tryd.prog w = .ok (.bool ((a == c) && (b == d))) w := by
  cases h0 : (a == c) <;> cases h1 : (b == d) <;> simp [go_sem, h0, h1]
attribute [local go_sem ↓] ld_i32 ld_way st_i32 way_eql
theorem faced_r (f : Nat) (y : Int) (w : World) (hF : Fac w) :
    Calls Tryd.prog 55 #[.int .u8 (f : Int), .agg #[.int .i32 1, .int .i32 y]] w fun E w' => E = .returned (.int .u8 0) ∧ Below w.heap.size w w' := by
  have H0 := Lib.hid (Loc.one w 89 #[.int .i32 1, .int .i32 y])
  have HF : Hid (Fac (w.alloc (.cells #[.int .i32 1, .int .i32 y] 89))) := fac_to hF H0.out.be
  have hF0 : 1 < w.heap.size := hF.1
  clear hF
  go_enter Tryd.func55, Tryd.ntmps55
  go_upto_region 1 with fail
  generalize w.alloc (.cells #[.int .i32 1, .int .i32 y] 89) = wa at *
  have la1 := H0.out.ldO ty_i32 0 rfl 0 (v := .int .i32 1) rfl
  obtain ⟨wa2, sa3, Ha4, hg⟩ := H0.out.stO ty_i32 0 rfl 1 (.int .i32 0) (cs' := #[.int .i32 1, .int .i32 0]) rfl (L' := [(w.heap.size, 89, #[.int .i32 1, .int .i32 0])]) rfl (Nat.le_of_ble_eq_true rfl) rfl rfl
  have HFb : Hid (Fac wa2) := fac_below HF.out (grown_nb hg (fun q e => by cases e; exact Nat.le_refl _) (Nat.le_trans (Nat.le_refl _) H0.out.size)) hF0
  go_upto_region 4 with fail
  go_loopw [10] (fun v wr => ∃ k : Nat, k ≤ 0 ∧ v = .int .i64 k ∧ Hid (Loc w.heap.size w wr [(w.heap.size, 89, #[.int .i32 1, .int .i32 0])]) ∧ Hid (Fac wr)) (fun v _ => 0 - (intOf v).toNat)
  case atStart => exact ⟨0, by omega, rfl, Ha4, HFb⟩
  case round =>
    clear sa3 la1 hg HFb HF Ha4 H0
    obtain ⟨k, hk, rfl, HR, HRF⟩ := hrel
    match k, hk with
    | 0, _ =>
      rw [show ((0 : Nat) : Int) = 0 from rfl]
      have dr01 := fun n => (HR.out.to (below_drewN (Below.refl _ _) n)).ldA ty_way 0 rfl 0 (vs := #[.int .i32 1, .int .i32 0]) rfl (Nat.le_of_ble_eq_true rfl)
      have lf : ∀ n, (ldT 89 (.pointer (some ⟨1, 0, none⟩))).run Tryd.prog (wr.drewN n) = .ok (.agg #[.int .i32 1, .int .i32 0]) (wr.drewN n) := fun n => fac_at (fac_to HRF.out (below_drewN (Below.refl _ _) n)) 0 (by decide)
      have e1 : ((1 : Int) == 1) = true := by decide
      have e2 : ((0 : Int) == 0) = true := by decide
      go_upto_region 6 with fail
      go_quiet (fail)
      go_wp2
      go_ret
      exact ⟨rfl, (HR.out.to (below_drewN (Below.refl _ _) _)).be⟩
theorem faced_l (f : Nat) (y : Int) (w : World) (hF : Fac w) :
    Calls Tryd.prog 55 #[.int .u8 (f : Int), .agg #[.int .i32 (-1), .int .i32 y]] w fun E w' => E = .returned (.int .u8 1) ∧ Below w.heap.size w w' := by
  have H0 := Lib.hid (Loc.one w 89 #[.int .i32 (-1), .int .i32 y])
  have HF : Hid (Fac (w.alloc (.cells #[.int .i32 (-1), .int .i32 y] 89))) := fac_to hF H0.out.be
  have hF0 : 1 < w.heap.size := hF.1
  clear hF
  go_enter Tryd.func55, Tryd.ntmps55
  go_upto_region 1 with fail
  generalize w.alloc (.cells #[.int .i32 (-1), .int .i32 y] 89) = wa at *
  have la1 := H0.out.ldO ty_i32 0 rfl 0 (v := .int .i32 (-1)) rfl
  obtain ⟨wa2, sa3, Ha4, hg⟩ := H0.out.stO ty_i32 0 rfl 1 (.int .i32 0) (cs' := #[.int .i32 (-1), .int .i32 0]) rfl (L' := [(w.heap.size, 89, #[.int .i32 (-1), .int .i32 0])]) rfl (Nat.le_of_ble_eq_true rfl) rfl rfl
  have HFb : Hid (Fac wa2) := fac_below HF.out (grown_nb hg (fun q e => by cases e; exact Nat.le_refl _) (Nat.le_trans (Nat.le_refl _) H0.out.size)) hF0
  go_upto_region 4 with fail
  go_loopw [10] (fun v wr => ∃ k : Nat, k ≤ 1 ∧ v = .int .i64 k ∧ Hid (Loc w.heap.size w wr [(w.heap.size, 89, #[.int .i32 (-1), .int .i32 0])]) ∧ Hid (Fac wr)) (fun v _ => 1 - (intOf v).toNat)
  case atStart => exact ⟨0, by omega, rfl, Ha4, HFb⟩
  case round =>
    clear sa3 la1 hg HFb HF Ha4 H0
    obtain ⟨k, hk, rfl, HR, HRF⟩ := hrel
    match k, hk with
    | 0, _ =>
      rw [show ((0 : Nat) : Int) = 0 from rfl]
      have dr01 := fun n => (HR.out.to (below_drewN (Below.refl _ _) n)).ldA ty_way 0 rfl 0 (vs := #[.int .i32 (-1), .int .i32 0]) rfl (Nat.le_of_ble_eq_true rfl)
      have lf : ∀ n, (ldT 89 (.pointer (some ⟨1, 0, none⟩))).run Tryd.prog (wr.drewN n) = .ok (.agg #[.int .i32 1, .int .i32 0]) (wr.drewN n) := fun n => fac_at (fac_to HRF.out (below_drewN (Below.refl _ _) n)) 0 (by decide)
      have e1 : ((1 : Int) == (-1)) = false := by decide
      have e2 : ((0 : Int) == 0) = true := by decide
      go_upto_region 6 with fail
      go_quiet (fail)
      go_wp2
      go_roundw
      case rel => exact ⟨1, by omega, by go_num, HR.out.to (below_drewN (Below.refl _ _) _), fac_to HRF.out (below_drewN (Below.refl _ _) _)⟩
      case measure => simp [intOf]
    | 1, _ =>
      rw [show ((1 : Nat) : Int) = 1 from rfl]
      have dr11 := fun n => (HR.out.to (below_drewN (Below.refl _ _) n)).ldA ty_way 0 rfl 0 (vs := #[.int .i32 (-1), .int .i32 0]) rfl (Nat.le_of_ble_eq_true rfl)
      have lf : ∀ n, (ldT 89 (.pointer (some ⟨1, 2, none⟩))).run Tryd.prog (wr.drewN n) = .ok (.agg #[.int .i32 (-1), .int .i32 0]) (wr.drewN n) := fun n => fac_at (fac_to HRF.out (below_drewN (Below.refl _ _) n)) 1 (by decide)
      have e1 : (((-1) : Int) == (-1)) = true := by decide
      have e2 : ((0 : Int) == 0) = true := by decide
      go_upto_region 6 with fail
      go_quiet (fail)
      go_wp2
      go_ret
      exact ⟨rfl, (HR.out.to (below_drewN (Below.refl _ _) _)).be⟩
theorem faced_u (f : Nat) (w : World) (hF : Fac w) :
    Calls Tryd.prog 55 #[.int .u8 (f : Int), .agg #[.int .i32 0, .int .i32 (-1)]] w fun E w' => E = .returned (.int .u8 2) ∧ Below w.heap.size w w' := by
  have H0 := Lib.hid (Loc.one w 89 #[.int .i32 0, .int .i32 (-1)])
  have HF : Hid (Fac (w.alloc (.cells #[.int .i32 0, .int .i32 (-1)] 89))) := fac_to hF H0.out.be
  have hF0 : 1 < w.heap.size := hF.1
  clear hF
  go_enter Tryd.func55, Tryd.ntmps55
  go_upto_region 1 with fail
  generalize w.alloc (.cells #[.int .i32 0, .int .i32 (-1)] 89) = wa at *
  have la1 := H0.out.ldO ty_i32 0 rfl 0 (v := .int .i32 0) rfl
  go_upto_region 4 with fail
  go_loopw [10] (fun v wr => ∃ k : Nat, k ≤ 2 ∧ v = .int .i64 k ∧ Hid (Loc w.heap.size w wr [(w.heap.size, 89, #[.int .i32 0, .int .i32 (-1)])]) ∧ Hid (Fac wr)) (fun v _ => 2 - (intOf v).toNat)
  case atStart => exact ⟨0, by omega, rfl, H0.out, HF⟩
  case round =>
    clear la1 HF H0
    obtain ⟨k, hk, rfl, HR, HRF⟩ := hrel
    match k, hk with
    | 0, _ =>
      rw [show ((0 : Nat) : Int) = 0 from rfl]
      have dr01 := fun n => (HR.out.to (below_drewN (Below.refl _ _) n)).ldA ty_way 0 rfl 0 (vs := #[.int .i32 0, .int .i32 (-1)]) rfl (Nat.le_of_ble_eq_true rfl)
      have lf : ∀ n, (ldT 89 (.pointer (some ⟨1, 0, none⟩))).run Tryd.prog (wr.drewN n) = .ok (.agg #[.int .i32 1, .int .i32 0]) (wr.drewN n) := fun n => fac_at (fac_to HRF.out (below_drewN (Below.refl _ _) n)) 0 (by decide)
      have e1 : ((1 : Int) == 0) = false := by decide
      have e2 : ((0 : Int) == (-1)) = false := by decide
      go_upto_region 6 with fail
      go_quiet (fail)
      go_wp2
      go_roundw
      case rel => exact ⟨1, by omega, by go_num, HR.out.to (below_drewN (Below.refl _ _) _), fac_to HRF.out (below_drewN (Below.refl _ _) _)⟩
      case measure => simp [intOf]
    | 1, _ =>
      rw [show ((1 : Nat) : Int) = 1 from rfl]
      have dr11 := fun n => (HR.out.to (below_drewN (Below.refl _ _) n)).ldA ty_way 0 rfl 0 (vs := #[.int .i32 0, .int .i32 (-1)]) rfl (Nat.le_of_ble_eq_true rfl)
      have lf : ∀ n, (ldT 89 (.pointer (some ⟨1, 2, none⟩))).run Tryd.prog (wr.drewN n) = .ok (.agg #[.int .i32 (-1), .int .i32 0]) (wr.drewN n) := fun n => fac_at (fac_to HRF.out (below_drewN (Below.refl _ _) n)) 1 (by decide)
      have e1 : (((-1) : Int) == 0) = false := by decide
      have e2 : ((0 : Int) == (-1)) = false := by decide
      go_upto_region 6 with fail
      go_quiet (fail)
      go_wp2
      go_roundw
      case rel => exact ⟨2, by omega, by go_num, HR.out.to (below_drewN (Below.refl _ _) _), fac_to HRF.out (below_drewN (Below.refl _ _) _)⟩
      case measure => simp [intOf]
    | 2, _ =>
      rw [show ((2 : Nat) : Int) = 2 from rfl]
      have dr21 := fun n => (HR.out.to (below_drewN (Below.refl _ _) n)).ldA ty_way 0 rfl 0 (vs := #[.int .i32 0, .int .i32 (-1)]) rfl (Nat.le_of_ble_eq_true rfl)
      have lf : ∀ n, (ldT 89 (.pointer (some ⟨1, 4, none⟩))).run Tryd.prog (wr.drewN n) = .ok (.agg #[.int .i32 0, .int .i32 (-1)]) (wr.drewN n) := fun n => fac_at (fac_to HRF.out (below_drewN (Below.refl _ _) n)) 2 (by decide)
      have e1 : ((0 : Int) == 0) = true := by decide
      have e2 : (((-1) : Int) == (-1)) = true := by decide
      go_upto_region 6 with fail
      go_quiet (fail)
      go_wp2
      go_ret
      exact ⟨rfl, (HR.out.to (below_drewN (Below.refl _ _) _)).be⟩
theorem faced_d (f : Nat) (w : World) (hF : Fac w) :
    Calls Tryd.prog 55 #[.int .u8 (f : Int), .agg #[.int .i32 0, .int .i32 1]] w fun E w' => E = .returned (.int .u8 3) ∧ Below w.heap.size w w' := by
  have H0 := Lib.hid (Loc.one w 89 #[.int .i32 0, .int .i32 1])
  have HF : Hid (Fac (w.alloc (.cells #[.int .i32 0, .int .i32 1] 89))) := fac_to hF H0.out.be
  have hF0 : 1 < w.heap.size := hF.1
  clear hF
  go_enter Tryd.func55, Tryd.ntmps55
  go_upto_region 1 with fail
  generalize w.alloc (.cells #[.int .i32 0, .int .i32 1] 89) = wa at *
  have la1 := H0.out.ldO ty_i32 0 rfl 0 (v := .int .i32 0) rfl
  go_upto_region 4 with fail
  go_loopw [10] (fun v wr => ∃ k : Nat, k ≤ 3 ∧ v = .int .i64 k ∧ Hid (Loc w.heap.size w wr [(w.heap.size, 89, #[.int .i32 0, .int .i32 1])]) ∧ Hid (Fac wr)) (fun v _ => 3 - (intOf v).toNat)
  case atStart => exact ⟨0, by omega, rfl, H0.out, HF⟩
  case round =>
    clear la1 HF H0
    obtain ⟨k, hk, rfl, HR, HRF⟩ := hrel
    match k, hk with
    | 0, _ =>
      rw [show ((0 : Nat) : Int) = 0 from rfl]
      have dr01 := fun n => (HR.out.to (below_drewN (Below.refl _ _) n)).ldA ty_way 0 rfl 0 (vs := #[.int .i32 0, .int .i32 1]) rfl (Nat.le_of_ble_eq_true rfl)
      have lf : ∀ n, (ldT 89 (.pointer (some ⟨1, 0, none⟩))).run Tryd.prog (wr.drewN n) = .ok (.agg #[.int .i32 1, .int .i32 0]) (wr.drewN n) := fun n => fac_at (fac_to HRF.out (below_drewN (Below.refl _ _) n)) 0 (by decide)
      have e1 : ((1 : Int) == 0) = false := by decide
      have e2 : ((0 : Int) == 1) = false := by decide
      go_upto_region 6 with fail
      go_quiet (fail)
      go_wp2
      go_roundw
      case rel => exact ⟨1, by omega, by go_num, HR.out.to (below_drewN (Below.refl _ _) _), fac_to HRF.out (below_drewN (Below.refl _ _) _)⟩
      case measure => simp [intOf]
    | 1, _ =>
      rw [show ((1 : Nat) : Int) = 1 from rfl]
      have dr11 := fun n => (HR.out.to (below_drewN (Below.refl _ _) n)).ldA ty_way 0 rfl 0 (vs := #[.int .i32 0, .int .i32 1]) rfl (Nat.le_of_ble_eq_true rfl)
      have lf : ∀ n, (ldT 89 (.pointer (some ⟨1, 2, none⟩))).run Tryd.prog (wr.drewN n) = .ok (.agg #[.int .i32 (-1), .int .i32 0]) (wr.drewN n) := fun n => fac_at (fac_to HRF.out (below_drewN (Below.refl _ _) n)) 1 (by decide)
      have e1 : (((-1) : Int) == 0) = false := by decide
      have e2 : ((0 : Int) == 1) = false := by decide
      go_upto_region 6 with fail
      go_quiet (fail)
      go_wp2
      go_roundw
      case rel => exact ⟨2, by omega, by go_num, HR.out.to (below_drewN (Below.refl _ _) _), fac_to HRF.out (below_drewN (Below.refl _ _) _)⟩
      case measure => simp [intOf]
    | 2, _ =>
      rw [show ((2 : Nat) : Int) = 2 from rfl]
      have dr21 := fun n => (HR.out.to (below_drewN (Below.refl _ _) n)).ldA ty_way 0 rfl 0 (vs := #[.int .i32 0, .int .i32 1]) rfl (Nat.le_of_ble_eq_true rfl)
      have lf : ∀ n, (ldT 89 (.pointer (some ⟨1, 4, none⟩))).run Tryd.prog (wr.drewN n) = .ok (.agg #[.int .i32 0, .int .i32 (-1)]) (wr.drewN n) := fun n => fac_at (fac_to HRF.out (below_drewN (Below.refl _ _) n)) 2 (by decide)
      have e1 : ((0 : Int) == 0) = true := by decide
      have e2 : (((-1) : Int) == 1) = false := by decide
      go_upto_region 6 with fail
      go_quiet (fail)
      go_wp2
      go_roundw
      case rel => exact ⟨3, by omega, by go_num, HR.out.to (below_drewN (Below.refl _ _) _), fac_to HRF.out (below_drewN (Below.refl _ _) _)⟩
      case measure => simp [intOf]
    | 3, _ =>
      rw [show ((3 : Nat) : Int) = 3 from rfl]
      have dr31 := fun n => (HR.out.to (below_drewN (Below.refl _ _) n)).ldA ty_way 0 rfl 0 (vs := #[.int .i32 0, .int .i32 1]) rfl (Nat.le_of_ble_eq_true rfl)
      have lf : ∀ n, (ldT 89 (.pointer (some ⟨1, 6, none⟩))).run Tryd.prog (wr.drewN n) = .ok (.agg #[.int .i32 0, .int .i32 1]) (wr.drewN n) := fun n => fac_at (fac_to HRF.out (below_drewN (Below.refl _ _) n)) 3 (by decide)
      have e1 : ((0 : Int) == 0) = true := by decide
      have e2 : ((1 : Int) == 1) = true := by decide
      go_upto_region 6 with fail
      go_quiet (fail)
      go_wp2
      go_ret
      exact ⟨rfl, (HR.out.to (below_drewN (Below.refl _ _) _)).be⟩
theorem faced_o (f : Nat) (w : World) (hF : Fac w) :
    Calls Tryd.prog 55 #[.int .u8 (f : Int), .agg #[.int .i32 0, .int .i32 0]] w fun E w' => E = .returned (.int .u8 (f : Int)) ∧ Below w.heap.size w w' := by
  have H0 := Lib.hid (Loc.one w 89 #[.int .i32 0, .int .i32 0])
  have HF : Hid (Fac (w.alloc (.cells #[.int .i32 0, .int .i32 0] 89))) := fac_to hF H0.out.be
  have hF0 : 1 < w.heap.size := hF.1
  clear hF
  go_enter Tryd.func55, Tryd.ntmps55
  go_upto_region 1 with fail
  generalize w.alloc (.cells #[.int .i32 0, .int .i32 0] 89) = wa at *
  have la1 := H0.out.ldO ty_i32 0 rfl 0 (v := .int .i32 0) rfl
  go_upto_region 4 with fail
  go_loopw [10] (fun v wr => ∃ k : Nat, k ≤ 4 ∧ v = .int .i64 k ∧ Hid (Loc w.heap.size w wr [(w.heap.size, 89, #[.int .i32 0, .int .i32 0])]) ∧ Hid (Fac wr)) (fun v _ => 4 - (intOf v).toNat)
  case atStart => exact ⟨0, by omega, rfl, H0.out, HF⟩
  case round =>
    clear la1 HF H0
    obtain ⟨k, hk, rfl, HR, HRF⟩ := hrel
    match k, hk with
    | 0, _ =>
      rw [show ((0 : Nat) : Int) = 0 from rfl]
      have dr01 := fun n => (HR.out.to (below_drewN (Below.refl _ _) n)).ldA ty_way 0 rfl 0 (vs := #[.int .i32 0, .int .i32 0]) rfl (Nat.le_of_ble_eq_true rfl)
      have lf : ∀ n, (ldT 89 (.pointer (some ⟨1, 0, none⟩))).run Tryd.prog (wr.drewN n) = .ok (.agg #[.int .i32 1, .int .i32 0]) (wr.drewN n) := fun n => fac_at (fac_to HRF.out (below_drewN (Below.refl _ _) n)) 0 (by decide)
      have e1 : ((1 : Int) == 0) = false := by decide
      have e2 : ((0 : Int) == 0) = true := by decide
      go_upto_region 6 with fail
      go_quiet (fail)
      go_wp2
      go_roundw
      case rel => exact ⟨1, by omega, by go_num, HR.out.to (below_drewN (Below.refl _ _) _), fac_to HRF.out (below_drewN (Below.refl _ _) _)⟩
      case measure => simp [intOf]
    | 1, _ =>
      rw [show ((1 : Nat) : Int) = 1 from rfl]
      have dr11 := fun n => (HR.out.to (below_drewN (Below.refl _ _) n)).ldA ty_way 0 rfl 0 (vs := #[.int .i32 0, .int .i32 0]) rfl (Nat.le_of_ble_eq_true rfl)
      have lf : ∀ n, (ldT 89 (.pointer (some ⟨1, 2, none⟩))).run Tryd.prog (wr.drewN n) = .ok (.agg #[.int .i32 (-1), .int .i32 0]) (wr.drewN n) := fun n => fac_at (fac_to HRF.out (below_drewN (Below.refl _ _) n)) 1 (by decide)
      have e1 : (((-1) : Int) == 0) = false := by decide
      have e2 : ((0 : Int) == 0) = true := by decide
      go_upto_region 6 with fail
      go_quiet (fail)
      go_wp2
      go_roundw
      case rel => exact ⟨2, by omega, by go_num, HR.out.to (below_drewN (Below.refl _ _) _), fac_to HRF.out (below_drewN (Below.refl _ _) _)⟩
      case measure => simp [intOf]
    | 2, _ =>
      rw [show ((2 : Nat) : Int) = 2 from rfl]
      have dr21 := fun n => (HR.out.to (below_drewN (Below.refl _ _) n)).ldA ty_way 0 rfl 0 (vs := #[.int .i32 0, .int .i32 0]) rfl (Nat.le_of_ble_eq_true rfl)
      have lf : ∀ n, (ldT 89 (.pointer (some ⟨1, 4, none⟩))).run Tryd.prog (wr.drewN n) = .ok (.agg #[.int .i32 0, .int .i32 (-1)]) (wr.drewN n) := fun n => fac_at (fac_to HRF.out (below_drewN (Below.refl _ _) n)) 2 (by decide)
      have e1 : ((0 : Int) == 0) = true := by decide
      have e2 : (((-1) : Int) == 0) = false := by decide
      go_upto_region 6 with fail
      go_quiet (fail)
      go_wp2
      go_roundw
      case rel => exact ⟨3, by omega, by go_num, HR.out.to (below_drewN (Below.refl _ _) _), fac_to HRF.out (below_drewN (Below.refl _ _) _)⟩
      case measure => simp [intOf]
    | 3, _ =>
      rw [show ((3 : Nat) : Int) = 3 from rfl]
      have dr31 := fun n => (HR.out.to (below_drewN (Below.refl _ _) n)).ldA ty_way 0 rfl 0 (vs := #[.int .i32 0, .int .i32 0]) rfl (Nat.le_of_ble_eq_true rfl)
      have lf : ∀ n, (ldT 89 (.pointer (some ⟨1, 6, none⟩))).run Tryd.prog (wr.drewN n) = .ok (.agg #[.int .i32 0, .int .i32 1]) (wr.drewN n) := fun n => fac_at (fac_to HRF.out (below_drewN (Below.refl _ _) n)) 3 (by decide)
      have e1 : ((0 : Int) == 0) = true := by decide
      have e2 : ((1 : Int) == 0) = false := by decide
      go_upto_region 6 with fail
      go_quiet (fail)
      go_wp2
      go_roundw
      case rel => exact ⟨4, by omega, by go_num, HR.out.to (below_drewN (Below.refl _ _) _), fac_to HRF.out (below_drewN (Below.refl _ _) _)⟩
      case measure => simp [intOf]
    | 4, _ =>
      rw [show ((4 : Nat) : Int) = 4 from rfl]
      go_wp2
      go_ret
      exact ⟨rfl, HR.out.be⟩
theorem faced_c (f : Nat) (i : Inp) (hi : i.ok) (w : World) (hF : Fac w) :
    Calls Tryd.prog 55 #[.int .u8 (f : Int), .agg #[.int .i32 i.x, .int .i32 i.y]] w fun E w' => E = .returned (.int .u8 (faceOf i f : Int)) ∧ Below w.heap.size w w' := by
  obtain ⟨x, y, fi, d⟩ := i
  obtain ⟨⟨x1, x2⟩, y1, y2⟩ := hi
  dsimp only at x1 x2 y1 y2 ⊢
  have hx : x = 1 ∨ x = -1 ∨ x = 0 := by omega
  rcases hx with rfl | rfl | rfl
  · exact faced_r f y w hF
  · exact faced_l f y w hF
  · have hy : y = -1 ∨ y = 1 ∨ y = 0 := by omega
    rcases hy with rfl | rfl | rfl
    · exact faced_u f w hF
    · exact faced_d f w hF
    · exact faced_o f w hF
end Go.Proofs.YtgmbdadkahcpcaaDoor
