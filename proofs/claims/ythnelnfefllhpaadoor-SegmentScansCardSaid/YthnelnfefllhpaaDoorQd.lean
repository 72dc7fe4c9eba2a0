/- What a record's encoding consists of: gone through by a reader. One contract a kind. -/
import Derived.Test.YthnelnfefllhpaaDoorQc
namespace Go.Proofs.YthnelnfefllhpaaDoor
open Go.RowKit
set_option linter.unusedVariables false
set_option linter.unusedSimpArgs false
set_option maxRecDepth 20000

attribute [local go_sem] na_wkind na_wnumber na_winput na_wplayer na_rkind na_rnumber na_rinput na_rplayer me_wkind me_wnumber me_winput me_wplayer me_rkind me_rnumber me_rinput me_rplayer
theorem rrTo_dr {w w1 : World} {g gr : Nat} {l : List UInt8} {e : Int} {cs : Array Value} (h : RrTo w g gr l e cs w1) : RrTo w g gr l e cs w1.drew := ⟨h.1, h.2.os, h.2.tape, h.2.output, h.2.size, h.2.block⟩
set_option maxHeartbeats 1000000 in
theorem encR0 (g gr : Nat) (l : List UInt8) (w : World) (h : Rr w g gr l 0 (rcs rz)) (h1 : (num 1 l).val ≠ 1) (h2 : (num 1 l).val ≠ 2) (h3 : (num 1 l).val ≠ 3) :
    Calls Tryd.prog 32 #[.iface 103 (.agg #[.pointer (some ⟨g, 0, none⟩)]), .pointer (some ⟨gr, 0, none⟩)] w fun E w' => E = .returned (.bool (rdE l).known) ∧ RrTo w g gr (rdE l).rest (rdE l).err (rcs (rdE l).val) w' := by
  have HE : Hid (rdE l = ⟨false, (num 1 l).err, (num 1 l).rest, ⟨((num 1 l).val : Int), 0, 0, 0, 0, 0, 0, 0, 0⟩⟩) := by
    show _ = _
    unfold rdE
    simp only []
    rw [if_neg h1, if_neg h2, if_neg h3]
  obtain ⟨k, hk⟩ : ∃ k, k = (num 1 l).val := ⟨_, rfl⟩
  rw [← hk] at h1 h2 h3
  have HKK := Lib.hid hk
  clear hk
  have b1 : ((k : Int) == 1) = false := by simp; omega
  have b2 : ((k : Int) == 2) = false := by simp; omega
  have b3 : ((k : Int) == 3) = false := by simp; omega
  clear h1 h2 h3
  rw [HE.out]
  have DR : ∀ {w1 : World} {m : List UInt8} {e : Int} {cs : Array Value}, RrTo w g gr m e cs w1 → RrTo w g gr m e cs w1.drew := fun h => rrTo_dr h
  have HW0 := Lib.hid (rr_to h)
  clear h
  go_enter Tryd.func32, Tryd.ntmps32
  go_upto_region 1 with fail
  obtain ⟨d1, hwd⟩ : ∃ wd, ({ w with drawn := w.drawn + 1 } : World) = wd := ⟨_, rfl⟩
  have W1 : Hid (RrTo w g gr l 0 (rcs rz) d1) := by show RrTo w g gr l 0 (rcs rz) d1; rw [← hwd]; exact DR (HW0).out
  refine wp_region_still_tail 7 (by kernel_rfl) (by kernel_rfl) ?_
  simp only [List.take_succ_cons, List.take_zero, List.drop_succ_cons, List.drop_zero]
  rw [hwd]
  clear hwd
  repeat still_step
  refine wpStill_nil ?_
  go_wp2_with fail
  refine (rKind g gr 0 l 0 (rcs rz) #[.int .i64 (k : Int), .int .u64 0, .int .u8 0, .int .u8 0, .int .u8 0, .int .u64 0, .int .u64 0, .int .u64 0, .int .u8 0] _ _ W1.out.1 rfl (by rw [← HKK.out]; rfl)).mono ?_
  rintro E w1 ⟨rfl, hw1⟩
  have HW1 := Lib.hid (rrTo_trans W1.out hw1)
  clear hw1 W1
  have c1 : w1.cell? ⟨gr, 0, none⟩ = some (.int .i64 (k : Int)) := by rw [HW1.out.1.2.1.cell]; rfl
  go_wp2
  go_ret
  exact ⟨rfl, by have := HW1.out; simp only [fin_of] at this; rw [← HKK.out]; exact this⟩
set_option maxHeartbeats 1000000 in
theorem encR1 (g gr : Nat) (l : List UInt8) (w : World) (h : Rr w g gr l 0 (rcs rz)) (hk : (num 1 l).val = 1) :
    Calls Tryd.prog 32 #[.iface 103 (.agg #[.pointer (some ⟨g, 0, none⟩)]), .pointer (some ⟨gr, 0, none⟩)] w fun E w' => E = .returned (.bool (rdE l).known) ∧ RrTo w g gr (rdE l).rest (rdE l).err (rcs (rdE l).val) w' := by
  have HE : Hid (rdE l = ⟨true, fin (fin ((num 1 l).err) (num 8 (num 1 l).rest).err) (num 1 (num 8 (num 1 l).rest).rest).err, (num 1 (num 8 (num 1 l).rest).rest).rest, ⟨1, (num 8 (num 1 l).rest).val, (num 1 (num 8 (num 1 l).rest).rest).val, 0, 0, 0, 0, 0, 0⟩⟩) := by
    show _ = _
    unfold rdE
    simp only []
    rw [if_pos hk]
  have HKK := Lib.hid hk
  clear hk
  rw [HE.out]
  have DR : ∀ {w1 : World} {m : List UInt8} {e : Int} {cs : Array Value}, RrTo w g gr m e cs w1 → RrTo w g gr m e cs w1.drew := fun h => rrTo_dr h
  have HW0 := Lib.hid (rr_to h)
  clear h
  go_enter Tryd.func32, Tryd.ntmps32
  go_upto_region 1 with fail
  obtain ⟨d1, hwd⟩ : ∃ wd, ({ w with drawn := w.drawn + 1 } : World) = wd := ⟨_, rfl⟩
  have W1 : Hid (RrTo w g gr l 0 (rcs rz) d1) := by show RrTo w g gr l 0 (rcs rz) d1; rw [← hwd]; exact DR (HW0).out
  refine wp_region_still_tail 7 (by kernel_rfl) (by kernel_rfl) ?_
  simp only [List.take_succ_cons, List.take_zero, List.drop_succ_cons, List.drop_zero]
  rw [hwd]
  clear hwd
  repeat still_step
  refine wpStill_nil ?_
  go_wp2_with fail
  refine (rKind g gr 0 l 0 (rcs rz) #[.int .i64 1, .int .u64 0, .int .u8 0, .int .u8 0, .int .u8 0, .int .u64 0, .int .u64 0, .int .u64 0, .int .u8 0] _ _ W1.out.1 rfl (by rw [HKK.out]; rfl)).mono ?_
  rintro E w1 ⟨rfl, hw1⟩
  have HW1 := Lib.hid (rrTo_trans W1.out hw1)
  clear hw1 W1
  have c1 : w1.cell? ⟨gr, 0, none⟩ = some (.int .i64 1) := by rw [HW1.out.1.2.1.cell]; rfl
  go_upto_region 5 with fail
  obtain ⟨d2, hwd⟩ : ∃ wd, ({ w1 with drawn := w1.drawn + 1 } : World) = wd := ⟨_, rfl⟩
  have W2 : Hid (RrTo w g gr (num 1 l).rest (fin 0 (num 1 l).err) #[.int .i64 1, .int .u64 0, .int .u8 0, .int .u8 0, .int .u8 0, .int .u64 0, .int .u64 0, .int .u64 0, .int .u8 0] d2) := by show RrTo w g gr (num 1 l).rest (fin 0 (num 1 l).err) #[.int .i64 1, .int .u64 0, .int .u8 0, .int .u8 0, .int .u8 0, .int .u64 0, .int .u64 0, .int .u64 0, .int .u8 0] d2; rw [← hwd]; exact DR (HW1).out
  refine wp_region_still_tail 7 (by kernel_rfl) (by kernel_rfl) ?_
  simp only [List.take_succ_cons, List.take_zero, List.drop_succ_cons, List.drop_zero]
  rw [hwd]
  clear hwd
  repeat still_step
  refine wpStill_nil ?_
  go_wp2_with fail
  clear c1
  refine (rNumber g gr 1 (num 1 l).rest (fin 0 (num 1 l).err) #[.int .i64 1, .int .u64 0, .int .u8 0, .int .u8 0, .int .u8 0, .int .u64 0, .int .u64 0, .int .u64 0, .int .u8 0] #[.int .i64 1, .int .u64 ((num 8 (num 1 l).rest).val : Int), .int .u8 0, .int .u8 0, .int .u8 0, .int .u64 0, .int .u64 0, .int .u64 0, .int .u8 0] _ _ W2.out.1 rfl rfl).mono ?_
  rintro E w2 ⟨rfl, hw2⟩
  have HW2 := Lib.hid (rrTo_trans W2.out hw2)
  clear hw2 W2
  go_upto_region 6 with fail
  obtain ⟨d3, hwd⟩ : ∃ wd, ({ w2 with drawn := w2.drawn + 1 } : World) = wd := ⟨_, rfl⟩
  have W3 : Hid (RrTo w g gr (num 8 (num 1 l).rest).rest (fin (fin 0 (num 1 l).err) (num 8 (num 1 l).rest).err) #[.int .i64 1, .int .u64 ((num 8 (num 1 l).rest).val : Int), .int .u8 0, .int .u8 0, .int .u8 0, .int .u64 0, .int .u64 0, .int .u64 0, .int .u8 0] d3) := by show RrTo w g gr (num 8 (num 1 l).rest).rest (fin (fin 0 (num 1 l).err) (num 8 (num 1 l).rest).err) #[.int .i64 1, .int .u64 ((num 8 (num 1 l).rest).val : Int), .int .u8 0, .int .u8 0, .int .u8 0, .int .u64 0, .int .u64 0, .int .u64 0, .int .u8 0] d3; rw [← hwd]; exact DR (HW2).out
  refine wp_region_still_tail 7 (by kernel_rfl) (by kernel_rfl) ?_
  simp only [List.take_succ_cons, List.take_zero, List.drop_succ_cons, List.drop_zero]
  rw [hwd]
  clear hwd
  repeat still_step
  refine wpStill_nil ?_
  go_wp2_with fail
  refine (rInput g gr 2 (num 8 (num 1 l).rest).rest (fin (fin 0 (num 1 l).err) (num 8 (num 1 l).rest).err) #[.int .i64 1, .int .u64 ((num 8 (num 1 l).rest).val : Int), .int .u8 0, .int .u8 0, .int .u8 0, .int .u64 0, .int .u64 0, .int .u64 0, .int .u8 0] #[.int .i64 1, .int .u64 ((num 8 (num 1 l).rest).val : Int), .int .u8 ((num 1 (num 8 (num 1 l).rest).rest).val : Int), .int .u8 0, .int .u8 0, .int .u64 0, .int .u64 0, .int .u64 0, .int .u8 0] _ _ W3.out.1 rfl rfl).mono ?_
  rintro E w3 ⟨rfl, hw3⟩
  have HW3 := Lib.hid (rrTo_trans W3.out hw3)
  clear hw3 W3
  go_wp2
  go_ret
  exact ⟨rfl, by have := HW3.out; simp only [fin_of] at this; exact this⟩
set_option maxHeartbeats 1000000 in
theorem encR2 (g gr : Nat) (l : List UInt8) (w : World) (h : Rr w g gr l 0 (rcs rz)) (hk : (num 1 l).val = 2) :
    Calls Tryd.prog 32 #[.iface 103 (.agg #[.pointer (some ⟨g, 0, none⟩)]), .pointer (some ⟨gr, 0, none⟩)] w fun E w' => E = .returned (.bool (rdE l).known) ∧ RrTo w g gr (rdE l).rest (rdE l).err (rcs (rdE l).val) w' := by
  have HE : Hid (rdE l = ⟨true, fin (fin (fin ((num 1 l).err) (num 8 (num 1 l).rest).err) (num 1 (num 8 (num 1 l).rest).rest).err) (num 1 (num 1 (num 8 (num 1 l).rest).rest).rest).err, (num 1 (num 1 (num 8 (num 1 l).rest).rest).rest).rest, ⟨2, (num 8 (num 1 l).rest).val, 0, (num 1 (num 8 (num 1 l).rest).rest).val, (num 1 (num 1 (num 8 (num 1 l).rest).rest).rest).val, 0, 0, 0, 0⟩⟩) := by
    show _ = _
    unfold rdE
    simp only []
    rw [if_neg (by omega), if_pos hk]
  have HKK := Lib.hid hk
  clear hk
  rw [HE.out]
  have DR : ∀ {w1 : World} {m : List UInt8} {e : Int} {cs : Array Value}, RrTo w g gr m e cs w1 → RrTo w g gr m e cs w1.drew := fun h => rrTo_dr h
  have HW0 := Lib.hid (rr_to h)
  clear h
  go_enter Tryd.func32, Tryd.ntmps32
  go_upto_region 1 with fail
  obtain ⟨d1, hwd⟩ : ∃ wd, ({ w with drawn := w.drawn + 1 } : World) = wd := ⟨_, rfl⟩
  have W1 : Hid (RrTo w g gr l 0 (rcs rz) d1) := by show RrTo w g gr l 0 (rcs rz) d1; rw [← hwd]; exact DR (HW0).out
  refine wp_region_still_tail 7 (by kernel_rfl) (by kernel_rfl) ?_
  simp only [List.take_succ_cons, List.take_zero, List.drop_succ_cons, List.drop_zero]
  rw [hwd]
  clear hwd
  repeat still_step
  refine wpStill_nil ?_
  go_wp2_with fail
  refine (rKind g gr 0 l 0 (rcs rz) #[.int .i64 2, .int .u64 0, .int .u8 0, .int .u8 0, .int .u8 0, .int .u64 0, .int .u64 0, .int .u64 0, .int .u8 0] _ _ W1.out.1 rfl (by rw [HKK.out]; rfl)).mono ?_
  rintro E w1 ⟨rfl, hw1⟩
  have HW1 := Lib.hid (rrTo_trans W1.out hw1)
  clear hw1 W1
  have c1 : w1.cell? ⟨gr, 0, none⟩ = some (.int .i64 2) := by rw [HW1.out.1.2.1.cell]; rfl
  go_upto_region 8 with fail
  obtain ⟨d2, hwd⟩ : ∃ wd, ({ w1 with drawn := w1.drawn + 1 } : World) = wd := ⟨_, rfl⟩
  have W2 : Hid (RrTo w g gr (num 1 l).rest (fin 0 (num 1 l).err) #[.int .i64 2, .int .u64 0, .int .u8 0, .int .u8 0, .int .u8 0, .int .u64 0, .int .u64 0, .int .u64 0, .int .u8 0] d2) := by show RrTo w g gr (num 1 l).rest (fin 0 (num 1 l).err) #[.int .i64 2, .int .u64 0, .int .u8 0, .int .u8 0, .int .u8 0, .int .u64 0, .int .u64 0, .int .u64 0, .int .u8 0] d2; rw [← hwd]; exact DR (HW1).out
  refine wp_region_still_tail 7 (by kernel_rfl) (by kernel_rfl) ?_
  simp only [List.take_succ_cons, List.take_zero, List.drop_succ_cons, List.drop_zero]
  rw [hwd]
  clear hwd
  repeat still_step
  refine wpStill_nil ?_
  go_wp2_with fail
  clear c1
  refine (rNumber g gr 1 (num 1 l).rest (fin 0 (num 1 l).err) #[.int .i64 2, .int .u64 0, .int .u8 0, .int .u8 0, .int .u8 0, .int .u64 0, .int .u64 0, .int .u64 0, .int .u8 0] #[.int .i64 2, .int .u64 ((num 8 (num 1 l).rest).val : Int), .int .u8 0, .int .u8 0, .int .u8 0, .int .u64 0, .int .u64 0, .int .u64 0, .int .u8 0] _ _ W2.out.1 rfl rfl).mono ?_
  rintro E w2 ⟨rfl, hw2⟩
  have HW2 := Lib.hid (rrTo_trans W2.out hw2)
  clear hw2 W2
  go_upto_region 9 with fail
  obtain ⟨d3, hwd⟩ : ∃ wd, ({ w2 with drawn := w2.drawn + 1 } : World) = wd := ⟨_, rfl⟩
  have W3 : Hid (RrTo w g gr (num 8 (num 1 l).rest).rest (fin (fin 0 (num 1 l).err) (num 8 (num 1 l).rest).err) #[.int .i64 2, .int .u64 ((num 8 (num 1 l).rest).val : Int), .int .u8 0, .int .u8 0, .int .u8 0, .int .u64 0, .int .u64 0, .int .u64 0, .int .u8 0] d3) := by show RrTo w g gr (num 8 (num 1 l).rest).rest (fin (fin 0 (num 1 l).err) (num 8 (num 1 l).rest).err) #[.int .i64 2, .int .u64 ((num 8 (num 1 l).rest).val : Int), .int .u8 0, .int .u8 0, .int .u8 0, .int .u64 0, .int .u64 0, .int .u64 0, .int .u8 0] d3; rw [← hwd]; exact DR (HW2).out
  refine wp_region_still_tail 8 (by kernel_rfl) (by kernel_rfl) ?_
  simp only [List.take_succ_cons, List.take_zero, List.drop_succ_cons, List.drop_zero]
  rw [hwd]
  clear hwd
  repeat still_step
  refine wpStill_nil ?_
  go_wp2_with fail
  refine (rInput g gr 3 (num 8 (num 1 l).rest).rest (fin (fin 0 (num 1 l).err) (num 8 (num 1 l).rest).err) #[.int .i64 2, .int .u64 ((num 8 (num 1 l).rest).val : Int), .int .u8 0, .int .u8 0, .int .u8 0, .int .u64 0, .int .u64 0, .int .u64 0, .int .u8 0] #[.int .i64 2, .int .u64 ((num 8 (num 1 l).rest).val : Int), .int .u8 0, .int .u8 ((num 1 (num 8 (num 1 l).rest).rest).val : Int), .int .u8 0, .int .u64 0, .int .u64 0, .int .u64 0, .int .u8 0] _ _ W3.out.1 rfl rfl).mono ?_
  rintro E w3 ⟨rfl, hw3⟩
  have HW3 := Lib.hid (rrTo_trans W3.out hw3)
  clear hw3 W3
  go_upto_region 10 with fail
  obtain ⟨d4, hwd⟩ : ∃ wd, ({ w3 with drawn := w3.drawn + 1 } : World) = wd := ⟨_, rfl⟩
  have W4 : Hid (RrTo w g gr (num 1 (num 8 (num 1 l).rest).rest).rest (fin (fin (fin 0 (num 1 l).err) (num 8 (num 1 l).rest).err) (num 1 (num 8 (num 1 l).rest).rest).err) #[.int .i64 2, .int .u64 ((num 8 (num 1 l).rest).val : Int), .int .u8 0, .int .u8 ((num 1 (num 8 (num 1 l).rest).rest).val : Int), .int .u8 0, .int .u64 0, .int .u64 0, .int .u64 0, .int .u8 0] d4) := by show RrTo w g gr (num 1 (num 8 (num 1 l).rest).rest).rest (fin (fin (fin 0 (num 1 l).err) (num 8 (num 1 l).rest).err) (num 1 (num 8 (num 1 l).rest).rest).err) #[.int .i64 2, .int .u64 ((num 8 (num 1 l).rest).val : Int), .int .u8 0, .int .u8 ((num 1 (num 8 (num 1 l).rest).rest).val : Int), .int .u8 0, .int .u64 0, .int .u64 0, .int .u64 0, .int .u8 0] d4; rw [← hwd]; exact DR (HW3).out
  refine wp_region_still_tail 8 (by kernel_rfl) (by kernel_rfl) ?_
  simp only [List.take_succ_cons, List.take_zero, List.drop_succ_cons, List.drop_zero]
  rw [hwd]
  clear hwd
  repeat still_step
  refine wpStill_nil ?_
  go_wp2_with fail
  refine (rInput g gr 4 (num 1 (num 8 (num 1 l).rest).rest).rest (fin (fin (fin 0 (num 1 l).err) (num 8 (num 1 l).rest).err) (num 1 (num 8 (num 1 l).rest).rest).err) #[.int .i64 2, .int .u64 ((num 8 (num 1 l).rest).val : Int), .int .u8 0, .int .u8 ((num 1 (num 8 (num 1 l).rest).rest).val : Int), .int .u8 0, .int .u64 0, .int .u64 0, .int .u64 0, .int .u8 0] #[.int .i64 2, .int .u64 ((num 8 (num 1 l).rest).val : Int), .int .u8 0, .int .u8 ((num 1 (num 8 (num 1 l).rest).rest).val : Int), .int .u8 ((num 1 (num 1 (num 8 (num 1 l).rest).rest).rest).val : Int), .int .u64 0, .int .u64 0, .int .u64 0, .int .u8 0] _ _ W4.out.1 rfl rfl).mono ?_
  rintro E w4 ⟨rfl, hw4⟩
  have HW4 := Lib.hid (rrTo_trans W4.out hw4)
  clear hw4 W4
  go_wp2
  go_ret
  exact ⟨rfl, by have := HW4.out; simp only [fin_of] at this; exact this⟩
set_option maxHeartbeats 1000000 in
theorem encR3 (g gr : Nat) (l : List UInt8) (w : World) (h : Rr w g gr l 0 (rcs rz)) (hk : (num 1 l).val = 3) :
    Calls Tryd.prog 32 #[.iface 103 (.agg #[.pointer (some ⟨g, 0, none⟩)]), .pointer (some ⟨gr, 0, none⟩)] w fun E w' => E = .returned (.bool (rdE l).known) ∧ RrTo w g gr (rdE l).rest (rdE l).err (rcs (rdE l).val) w' := by
  have HE : Hid (rdE l = ⟨true, fin (fin (fin (fin ((num 1 l).err) (num 8 (num 1 l).rest).err) (num 8 (num 8 (num 1 l).rest).rest).err) (num 8 (num 8 (num 8 (num 1 l).rest).rest).rest).err) (num 1 (num 8 (num 8 (num 8 (num 1 l).rest).rest).rest).rest).err, (num 1 (num 8 (num 8 (num 8 (num 1 l).rest).rest).rest).rest).rest, ⟨3, 0, 0, 0, 0, (num 8 (num 1 l).rest).val, (num 8 (num 8 (num 1 l).rest).rest).val, (num 8 (num 8 (num 8 (num 1 l).rest).rest).rest).val, (num 1 (num 8 (num 8 (num 8 (num 1 l).rest).rest).rest).rest).val⟩⟩) := by
    show _ = _
    unfold rdE
    simp only []
    rw [if_neg (by omega), if_neg (by omega), if_pos hk]
  have HKK := Lib.hid hk
  clear hk
  rw [HE.out]
  have DR : ∀ {w1 : World} {m : List UInt8} {e : Int} {cs : Array Value}, RrTo w g gr m e cs w1 → RrTo w g gr m e cs w1.drew := fun h => rrTo_dr h
  have HW0 := Lib.hid (rr_to h)
  clear h
  go_enter Tryd.func32, Tryd.ntmps32
  go_upto_region 1 with fail
  obtain ⟨d1, hwd⟩ : ∃ wd, ({ w with drawn := w.drawn + 1 } : World) = wd := ⟨_, rfl⟩
  have W1 : Hid (RrTo w g gr l 0 (rcs rz) d1) := by show RrTo w g gr l 0 (rcs rz) d1; rw [← hwd]; exact DR (HW0).out
  refine wp_region_still_tail 7 (by kernel_rfl) (by kernel_rfl) ?_
  simp only [List.take_succ_cons, List.take_zero, List.drop_succ_cons, List.drop_zero]
  rw [hwd]
  clear hwd
  repeat still_step
  refine wpStill_nil ?_
  go_wp2_with fail
  refine (rKind g gr 0 l 0 (rcs rz) #[.int .i64 3, .int .u64 0, .int .u8 0, .int .u8 0, .int .u8 0, .int .u64 0, .int .u64 0, .int .u64 0, .int .u8 0] _ _ W1.out.1 rfl (by rw [HKK.out]; rfl)).mono ?_
  rintro E w1 ⟨rfl, hw1⟩
  have HW1 := Lib.hid (rrTo_trans W1.out hw1)
  clear hw1 W1
  have c1 : w1.cell? ⟨gr, 0, none⟩ = some (.int .i64 3) := by rw [HW1.out.1.2.1.cell]; rfl
  go_upto_region 12 with fail
  obtain ⟨d2, hwd⟩ : ∃ wd, ({ w1 with drawn := w1.drawn + 1 } : World) = wd := ⟨_, rfl⟩
  have W2 : Hid (RrTo w g gr (num 1 l).rest (fin 0 (num 1 l).err) #[.int .i64 3, .int .u64 0, .int .u8 0, .int .u8 0, .int .u8 0, .int .u64 0, .int .u64 0, .int .u64 0, .int .u8 0] d2) := by show RrTo w g gr (num 1 l).rest (fin 0 (num 1 l).err) #[.int .i64 3, .int .u64 0, .int .u8 0, .int .u8 0, .int .u8 0, .int .u64 0, .int .u64 0, .int .u64 0, .int .u8 0] d2; rw [← hwd]; exact DR (HW1).out
  refine wp_region_still_tail 7 (by kernel_rfl) (by kernel_rfl) ?_
  simp only [List.take_succ_cons, List.take_zero, List.drop_succ_cons, List.drop_zero]
  rw [hwd]
  clear hwd
  repeat still_step
  refine wpStill_nil ?_
  go_wp2_with fail
  clear c1
  refine (rNumber g gr 5 (num 1 l).rest (fin 0 (num 1 l).err) #[.int .i64 3, .int .u64 0, .int .u8 0, .int .u8 0, .int .u8 0, .int .u64 0, .int .u64 0, .int .u64 0, .int .u8 0] #[.int .i64 3, .int .u64 0, .int .u8 0, .int .u8 0, .int .u8 0, .int .u64 ((num 8 (num 1 l).rest).val : Int), .int .u64 0, .int .u64 0, .int .u8 0] _ _ W2.out.1 rfl rfl).mono ?_
  rintro E w2 ⟨rfl, hw2⟩
  have HW2 := Lib.hid (rrTo_trans W2.out hw2)
  clear hw2 W2
  go_upto_region 13 with fail
  obtain ⟨d3, hwd⟩ : ∃ wd, ({ w2 with drawn := w2.drawn + 1 } : World) = wd := ⟨_, rfl⟩
  have W3 : Hid (RrTo w g gr (num 8 (num 1 l).rest).rest (fin (fin 0 (num 1 l).err) (num 8 (num 1 l).rest).err) #[.int .i64 3, .int .u64 0, .int .u8 0, .int .u8 0, .int .u8 0, .int .u64 ((num 8 (num 1 l).rest).val : Int), .int .u64 0, .int .u64 0, .int .u8 0] d3) := by show RrTo w g gr (num 8 (num 1 l).rest).rest (fin (fin 0 (num 1 l).err) (num 8 (num 1 l).rest).err) #[.int .i64 3, .int .u64 0, .int .u8 0, .int .u8 0, .int .u8 0, .int .u64 ((num 8 (num 1 l).rest).val : Int), .int .u64 0, .int .u64 0, .int .u8 0] d3; rw [← hwd]; exact DR (HW2).out
  refine wp_region_still_tail 7 (by kernel_rfl) (by kernel_rfl) ?_
  simp only [List.take_succ_cons, List.take_zero, List.drop_succ_cons, List.drop_zero]
  rw [hwd]
  clear hwd
  repeat still_step
  refine wpStill_nil ?_
  go_wp2_with fail
  refine (rNumber g gr 6 (num 8 (num 1 l).rest).rest (fin (fin 0 (num 1 l).err) (num 8 (num 1 l).rest).err) #[.int .i64 3, .int .u64 0, .int .u8 0, .int .u8 0, .int .u8 0, .int .u64 ((num 8 (num 1 l).rest).val : Int), .int .u64 0, .int .u64 0, .int .u8 0] #[.int .i64 3, .int .u64 0, .int .u8 0, .int .u8 0, .int .u8 0, .int .u64 ((num 8 (num 1 l).rest).val : Int), .int .u64 ((num 8 (num 8 (num 1 l).rest).rest).val : Int), .int .u64 0, .int .u8 0] _ _ W3.out.1 rfl rfl).mono ?_
  rintro E w3 ⟨rfl, hw3⟩
  have HW3 := Lib.hid (rrTo_trans W3.out hw3)
  clear hw3 W3
  go_upto_region 14 with fail
  obtain ⟨d4, hwd⟩ : ∃ wd, ({ w3 with drawn := w3.drawn + 1 } : World) = wd := ⟨_, rfl⟩
  have W4 : Hid (RrTo w g gr (num 8 (num 8 (num 1 l).rest).rest).rest (fin (fin (fin 0 (num 1 l).err) (num 8 (num 1 l).rest).err) (num 8 (num 8 (num 1 l).rest).rest).err) #[.int .i64 3, .int .u64 0, .int .u8 0, .int .u8 0, .int .u8 0, .int .u64 ((num 8 (num 1 l).rest).val : Int), .int .u64 ((num 8 (num 8 (num 1 l).rest).rest).val : Int), .int .u64 0, .int .u8 0] d4) := by show RrTo w g gr (num 8 (num 8 (num 1 l).rest).rest).rest (fin (fin (fin 0 (num 1 l).err) (num 8 (num 1 l).rest).err) (num 8 (num 8 (num 1 l).rest).rest).err) #[.int .i64 3, .int .u64 0, .int .u8 0, .int .u8 0, .int .u8 0, .int .u64 ((num 8 (num 1 l).rest).val : Int), .int .u64 ((num 8 (num 8 (num 1 l).rest).rest).val : Int), .int .u64 0, .int .u8 0] d4; rw [← hwd]; exact DR (HW3).out
  refine wp_region_still_tail 7 (by kernel_rfl) (by kernel_rfl) ?_
  simp only [List.take_succ_cons, List.take_zero, List.drop_succ_cons, List.drop_zero]
  rw [hwd]
  clear hwd
  repeat still_step
  refine wpStill_nil ?_
  go_wp2_with fail
  refine (rNumber g gr 7 (num 8 (num 8 (num 1 l).rest).rest).rest (fin (fin (fin 0 (num 1 l).err) (num 8 (num 1 l).rest).err) (num 8 (num 8 (num 1 l).rest).rest).err) #[.int .i64 3, .int .u64 0, .int .u8 0, .int .u8 0, .int .u8 0, .int .u64 ((num 8 (num 1 l).rest).val : Int), .int .u64 ((num 8 (num 8 (num 1 l).rest).rest).val : Int), .int .u64 0, .int .u8 0] #[.int .i64 3, .int .u64 0, .int .u8 0, .int .u8 0, .int .u8 0, .int .u64 ((num 8 (num 1 l).rest).val : Int), .int .u64 ((num 8 (num 8 (num 1 l).rest).rest).val : Int), .int .u64 ((num 8 (num 8 (num 8 (num 1 l).rest).rest).rest).val : Int), .int .u8 0] _ _ W4.out.1 rfl rfl).mono ?_
  rintro E w4 ⟨rfl, hw4⟩
  have HW4 := Lib.hid (rrTo_trans W4.out hw4)
  clear hw4 W4
  go_upto_region 15 with fail
  obtain ⟨d5, hwd⟩ : ∃ wd, ({ w4 with drawn := w4.drawn + 1 } : World) = wd := ⟨_, rfl⟩
  have W5 : Hid (RrTo w g gr (num 8 (num 8 (num 8 (num 1 l).rest).rest).rest).rest (fin (fin (fin (fin 0 (num 1 l).err) (num 8 (num 1 l).rest).err) (num 8 (num 8 (num 1 l).rest).rest).err) (num 8 (num 8 (num 8 (num 1 l).rest).rest).rest).err) #[.int .i64 3, .int .u64 0, .int .u8 0, .int .u8 0, .int .u8 0, .int .u64 ((num 8 (num 1 l).rest).val : Int), .int .u64 ((num 8 (num 8 (num 1 l).rest).rest).val : Int), .int .u64 ((num 8 (num 8 (num 8 (num 1 l).rest).rest).rest).val : Int), .int .u8 0] d5) := by show RrTo w g gr (num 8 (num 8 (num 8 (num 1 l).rest).rest).rest).rest (fin (fin (fin (fin 0 (num 1 l).err) (num 8 (num 1 l).rest).err) (num 8 (num 8 (num 1 l).rest).rest).err) (num 8 (num 8 (num 8 (num 1 l).rest).rest).rest).err) #[.int .i64 3, .int .u64 0, .int .u8 0, .int .u8 0, .int .u8 0, .int .u64 ((num 8 (num 1 l).rest).val : Int), .int .u64 ((num 8 (num 8 (num 1 l).rest).rest).val : Int), .int .u64 ((num 8 (num 8 (num 8 (num 1 l).rest).rest).rest).val : Int), .int .u8 0] d5; rw [← hwd]; exact DR (HW4).out
  refine wp_region_still_tail 7 (by kernel_rfl) (by kernel_rfl) ?_
  simp only [List.take_succ_cons, List.take_zero, List.drop_succ_cons, List.drop_zero]
  rw [hwd]
  clear hwd
  repeat still_step
  refine wpStill_nil ?_
  go_wp2_with fail
  refine (rPlayer g gr 8 (num 8 (num 8 (num 8 (num 1 l).rest).rest).rest).rest (fin (fin (fin (fin 0 (num 1 l).err) (num 8 (num 1 l).rest).err) (num 8 (num 8 (num 1 l).rest).rest).err) (num 8 (num 8 (num 8 (num 1 l).rest).rest).rest).err) #[.int .i64 3, .int .u64 0, .int .u8 0, .int .u8 0, .int .u8 0, .int .u64 ((num 8 (num 1 l).rest).val : Int), .int .u64 ((num 8 (num 8 (num 1 l).rest).rest).val : Int), .int .u64 ((num 8 (num 8 (num 8 (num 1 l).rest).rest).rest).val : Int), .int .u8 0] #[.int .i64 3, .int .u64 0, .int .u8 0, .int .u8 0, .int .u8 0, .int .u64 ((num 8 (num 1 l).rest).val : Int), .int .u64 ((num 8 (num 8 (num 1 l).rest).rest).val : Int), .int .u64 ((num 8 (num 8 (num 8 (num 1 l).rest).rest).rest).val : Int), .int .u8 ((num 1 (num 8 (num 8 (num 8 (num 1 l).rest).rest).rest).rest).val : Int)] _ _ W5.out.1 rfl rfl).mono ?_
  rintro E w5 ⟨rfl, hw5⟩
  have HW5 := Lib.hid (rrTo_trans W5.out hw5)
  clear hw5 W5
  go_wp2
  go_ret
  exact ⟨rfl, by have := HW5.out; simp only [fin_of] at this; exact this⟩
theorem encR_c (g gr : Nat) (l : List UInt8) (w : World) (h : Rr w g gr l 0 (rcs rz)) :
    Calls Tryd.prog 32 #[.iface 103 (.agg #[.pointer (some ⟨g, 0, none⟩)]), .pointer (some ⟨gr, 0, none⟩)] w fun E w' => E = .returned (.bool (rdE l).known) ∧ RrTo w g gr (rdE l).rest (rdE l).err (rcs (rdE l).val) w' := by
  by_cases h1 : (num 1 l).val = 1
  · exact encR1 g gr l w h h1
  · by_cases h2 : (num 1 l).val = 2
    · exact encR2 g gr l w h h2
    · by_cases h3 : (num 1 l).val = 3
      · exact encR3 g gr l w h h3
      · exact encR0 g gr l w h h1 h2 h3
end Go.Proofs.YthnelnfefllhpaaDoor
