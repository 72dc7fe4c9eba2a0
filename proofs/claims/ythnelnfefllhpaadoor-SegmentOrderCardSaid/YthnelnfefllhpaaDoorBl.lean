/- What is told of bytes (is); slices of two and three records; works. Conditions: the table of four steps lies in its variable. -/
import Derived.Test.YthnelnfefllhpaaDoorBk
import Derived.Deep.RegionHeld3
namespace Go.Proofs.YthnelnfefllhpaaDoor
open Go.RowKit
set_option linter.unusedVariables false
set_option linter.unusedSimpArgs false
set_option maxRecDepth 20000

/-- Two, three records in a slice, laid new. -/
def bsK (TS : TypeId) (n : Nat) (ps : Array (Nat × Value)) : Sem Value := Instr.buildSlice TS n ps
theorem bs_m2 (ps : Array (Nat × Value)) : Instr.buildSlice 29 2 ps = bsK 29 2 ps := rfl
theorem bs_m3 (ps : Array (Nat × Value)) : Instr.buildSlice 29 3 ps = bsK 29 3 ps := rfl
theorem bs_two (a b : Rc) (w : World) : (bsK 29 2 #[(0, .agg (rcs a)), (1, .agg (rcs b))]).run Tryd.prog w = .ok (.slice (some ⟨w.heap.size, 0, none⟩) 2 2) (w.alloc (.cells (Rall [a, b]).toArray 28)) := by
  obtain ⟨i0, hi0, hz0, hz1, hz2⟩ := info_parts info_rec
  have hu := Tryd.underlying29
  have h0 : ((Array.range (2 * 9)).map fun x => (rcs rz)[x % (rcs rz).size]!) = (Rall [rz, rz]).toArray := by kernel_rfl
  simp [bsK, Instr.buildSlice, run_underlying hu, sizeOf, typeInfo, zeroValue, hi0, hz0, hz1, newRow, go_sem, Value.cells, Instr.fill] at h0 ⊢
  rw [h0]
  rw [if_neg (by simp [Rall, rcs])]
  simp [rcs, Rall, go_sem]
theorem bs_three (a b c : Rc) (w : World) : (bsK 29 3 #[(0, .agg (rcs a)), (1, .agg (rcs b)), (2, .agg (rcs c))]).run Tryd.prog w = .ok (.slice (some ⟨w.heap.size, 0, none⟩) 3 3) (w.alloc (.cells (Rall [a, b, c]).toArray 28)) := by
  obtain ⟨i0, hi0, hz0, hz1, hz2⟩ := info_parts info_rec
  have hu := Tryd.underlying29
  have h0 : ((Array.range (3 * 9)).map fun x => (rcs rz)[x % (rcs rz).size]!) = (Rall [rz, rz, rz]).toArray := by kernel_rfl
  simp [bsK, Instr.buildSlice, run_underlying hu, sizeOf, typeInfo, zeroValue, hi0, hz0, hz1, newRow, go_sem, Value.cells, Instr.fill] at h0 ⊢
  rw [h0]
  rw [if_neg (by simp [Rall, rcs])]
  simp [rcs, Rall, go_sem]
theorem rcsAt_block {w : World} {g : Nat} {T : TypeId} {cs : Array Value} {l : List Rc} (h : Cells w g T cs) (hc : cs = (Rall l).toArray) : RcsAt w (some ⟨g, 0, none⟩) l := fun k hk => ⟨g, 0, rfl, fun i v hv => by
  rw [h.cell, hc, Nat.zero_add]
  have := Rall_at l k i hk v hv
  simpa using this⟩
theorem re_eq_zero (a : Rc) (w : World) : (binOp .eql 28 (.agg (rcs a)) (.agg #[.int .i64 0, .int .u64 0, .int .u8 0, .int .u8 0, .int .u8 0, .int .u64 0, .int .u64 0, .int .u64 0, .int .u8 0])).run Tryd.prog w = .ok (.bool (reB a rz)) w := re_eql a rz _ (.inl rfl) w
theorem re_eq_rec (a b : Rc) (w : World) : (binOp .eql 28 (.agg (rcs a)) (.agg (rcs b))).run Tryd.prog w = .ok (.bool (reB a b)) w := re_eql a b _ (.inl rfl) w
attribute [local go_sem ↓] ld_rec st_rec
set_option maxHeartbeats 1000000 in
theorem is_no (s : List UInt8) (e : Int) (w : World) (hs : s.length ≤ 1048576) (h : ∃ x, scn 1 sg0 0 s = ⟨x, 0, e⟩ ∧ x.h = rz ∧ x.l = []) (ht : Tab w) :
    Calls Tryd.prog 16 #[.string (str s), .int .i64 (-1), .int .i64 e] w fun E w' => E = .returned (.bool true) ∧ Below w.heap.size w w' := by
  obtain ⟨x, hx, hh, hl⟩ := h
  have HC := scan_c s 1 w hs (by omega) ht
  rw [hx] at HC
  have HC := Lib.hid HC
  have hz := re_eq_zero rz
  have hzz := reB_self rz
  have hee : (e == e) = true := by simp
  clear ht hx
  go_enter Tryd.func16, Tryd.ntmps16
  go_wp2_with fail
  refine HC.out.mono ?_
  rintro E w1 ⟨ao, cap, rfl, _, _, _, _, _, hb⟩
  have HB := Lib.hid hb
  simp only [hh, hl, List.length_nil]
  obtain ⟨g, w2, z1, s1, h1, q1⟩ := (Loc.nil (Nat.le_refl w1.heap.size)).newA ty_rec #[.int .i64 0, .int .u64 0, .int .u8 0, .int .u8 0, .int .u8 0, .int .u64 0, .int .u64 0, .int .u64 0, .int .u8 0] (rcs rz) rfl rfl (List.all_eq_true.2 (rcs_one rz))
  have l1 := h1.ldA ty_rec 0 rfl 0 (vs := rcs rz) (by simp [rcs]) (Nat.le_of_ble_eq_true rfl)
  have HB2 := Lib.hid (HB.out.trans ((below_of_grown q1).mono HB.out.size))
  clear hb h1 q1 hh hl
  go_wp2
  go_ret
  exact ⟨rfl, HB2.out⟩
set_option maxHeartbeats 2000000 in
theorem is_yes (s : List UInt8) (m : Nat) (e : Int) (w : World) (hs : s.length ≤ 1048576) (hm : m ≤ 1000000) (h : ∃ x a, scn 1 sg0 0 s = ⟨x, a, e⟩ ∧ x.h = rH 1 5 ∧ x.l.length = m ∧ a ≤ s.length ∧ (a = s.length ↔ e = 0)) (ht : Tab w) :
    Calls Tryd.prog 16 #[.string (str s), .int .i64 (m : Int), .int .i64 e] w fun E w' => E = .returned (.bool true) ∧ Below w.heap.size w w' := by
  obtain ⟨x, a, hx, hh, hl, ha, hae⟩ := h
  have HC := scan_c s 1 w hs (by omega) ht
  rw [hx] at HC
  have HC := Lib.hid HC
  have hsz := str_size s
  have hq := re_eq_rec (rH 1 5) (rH 1 5)
  have hqq := reB_self (rH 1 5)
  obtain ⟨b, hb1⟩ : ∃ b, b = ((a : Int) == (s.length : Int)) := ⟨_, rfl⟩
  have hb2 : (e == 0) = b := by
    rw [hb1, Bool.eq_iff_iff, beq_iff_eq, beq_iff_eq, ← hae]; omega
  have hee : (e == e) = true := by simp
  have hmm : ((m : Int) == (m : Int)) = true := by simp
  have hbb : (b == b) = true := by cases b <;> rfl
  have ha2 : (a : Int) ≤ (s.length : Int) := by omega
  have hb3 := hb1.symm
  have hm0 : ¬ (m : Int) < 0 := by omega
  have HH := Lib.hid (head_c 1 5)
  have HLM := Lib.hid hl
  clear ht hx hb1 hae ha hl
  go_enter Tryd.func16, Tryd.ntmps16
  go_wp2_with fail
  refine HC.out.mono ?_
  rintro E w1 ⟨ao, cap, rfl, _, _, _, _, _, hb⟩
  have HB := Lib.hid hb
  simp only [hh, HLM.out]
  obtain ⟨g, w2, z1, s1, h1, q1⟩ := (Loc.nil (Nat.le_refl w1.heap.size)).newA ty_rec #[.int .i64 0, .int .u64 0, .int .u8 0, .int .u8 0, .int .u8 0, .int .u64 0, .int .u64 0, .int .u64 0, .int .u8 0] (rcs (rH 1 5)) rfl rfl (List.all_eq_true.2 (rcs_one (rH 1 5)))
  have HB2 := Lib.hid (HB.out.trans ((below_of_grown q1).mono HB.out.size))
  clear hb q1 hh
  go_upto_region 4 with fail
  have a1 := h1.onA ty_rec 0 rfl 0 (vs := rcs (rH 1 5)) (by simp [rcs]) (Nat.le_of_ble_eq_true rfl)
  clear s1 z1 h1
  have o0 := G.On.drew w2.heap.size w2
  go_region_held3 (fun w' => G.On w2.heap.size w2 w') (first | assumption) (first | (go_at_call 13; refine (HH.out _).mono ?_; rintro E w4 ⟨rfl, hb4⟩; have o4 := G.on_step (wd := w2) (by assumption) hb4))
  have HB4 := Lib.hid (HB2.out.trans (o4.mono HB2.out.size))
  clear o0 a1
  go_wp2
  go_ret
  exact ⟨rfl, HB4.out⟩
end Go.Proofs.YthnelnfefllhpaaDoor
