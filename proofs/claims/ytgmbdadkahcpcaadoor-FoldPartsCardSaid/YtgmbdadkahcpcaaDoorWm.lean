/- The statements' own last word: some of the chapter's answers. -/
import Derived.Test.YtgmbdadkahcpcaaDoorWk
import Derived.Test.YtgmbdadkahcpcaaDoorWl
import Derived.Test.YtgmbdadkahcpcaaDoorLaid
namespace Go.Proofs.YtgmbdadkahcpcaaDoor
open Go.RowKit
set_option linter.unusedVariables false
set_option linter.unusedSimpArgs false
set_option maxRecDepth 20000
/-- The state behind two frames in which the first one goes to the right. -/
def gone2 : St := ⟨2, 7, ⟨8384, 14336, 128, 0, 100, 0, 0⟩, ⟨53248, 14336, 0, 0, 100, 0, 1⟩, [], 0, 0⟩
theorem stps_gone : stps (start 7) [(2, 0), (2, 0)] = gone2 := by decide +kernel
theorem padd_at {w : World} {g : Nat} {h h' : Hm} (hP : PH w g h) (k : h.ok) (p q : Nat) (hp : p < 256) (hq : q < 256) {e : Nat} (he : h.code (p, q) = e) (hh : h.add (p, q) = h') : Calls Tryd.prog 19 #[.pointer (some ⟨g, 0, none⟩), .agg #[.int .u8 (p : Int), .int .u8 (q : Int)]] w fun E w' => E = .returned (.int .i64 (e : Int)) ∧ PH w' g h' ∧ w.grownBy w' (some g) := by
  rw [← he, ← hh]; exact padd_c hP k p q hp hq
theorem pat_at {w : World} {g : Nat} {h : Hm} (hP : PH w g h) (k : h.ok) (x : Nat) {p q : Nat} {b : Bool} (ha : h.at_ x = (p, q)) (hb : h.has x = b) : Calls Tryd.prog 20 #[.pointer (some ⟨g, 0, none⟩), .int .u64 (x : Int)] w fun E w' => E = .returned (.tuple #[.agg #[.int .u8 (p : Int), .int .u8 (q : Int)], .bool b]) ∧ Below w.heap.size w w' := by
  have := pat_c hP k x
  rw [ha, hb] at this; exact this
theorem below_row_at {w w1 w2 : World} {B g : Nat} (h : Below B w w1) (k : w1.grownBy w2 (some g)) (hg : B ≤ g) (hB : B ≤ w1.heap.size) : Below B w w2 := h.trans (grown_nb k (fun q e => by cases e; exact hg) hB)
abbrev hA0 : Hm := ⟨5, 2, []⟩
abbrev hA1 : Hm := ⟨5, 2, [(1, 2)]⟩
abbrev hA2 : Hm := ⟨5, 2, [(1, 2), (3, 4)]⟩
theorem okA0 : hA0.ok := ⟨by decide, by decide, by decide, by decide, by decide⟩
theorem okA1 : hA1.ok := ⟨by decide, by decide, by decide, by decide, by decide⟩
theorem okA2 : hA2.ok := ⟨by decide, by decide, by decide, by decide, by decide⟩
attribute [local go_sem ↓] ld_pair ld_state ld_i32 st_pair st_state pair_eql
set_option maxHeartbeats 4000000 in
theorem awake_c (w : World) (hL : Laid w) : Calls Tryd.prog 8 #[] w fun E w' => E = .returned (.bool true) ∧ Below w.heap.size w w' := by
  have HL := Lib.hid hL
  clear hL
  go_enter Tryd.func8, Tryd.ntmps8
  have C0 : Hid (Calls Tryd.prog 13 #[.int .u64 5, .int .i64 2] w fun E w' => ∃ g, E = .returned (.pointer (some ⟨g, 0, none⟩)) ∧ w.heap.size = g ∧ g < w'.heap.size ∧ PH w' g hA0 ∧ Below w.heap.size w w') := pnew_c 5 2 w (by decide)
  go_wp2_with fail
  refine C0.out.mono ?_
  rintro E w1 ⟨g, rfl, hg, hlt, hP0, hb1⟩
  have C1 : Hid (Calls Tryd.prog 19 #[.pointer (some ⟨g, 0, none⟩), .agg #[.int .u8 1, .int .u8 2]] w1 fun E w' => E = .returned (.int .i64 0) ∧ PH w' g hA1 ∧ w1.grownBy w' (some g)) := padd_at hP0 okA0 1 2 (by decide) (by decide) (e := 0) (by decide) rfl
  have HG := Lib.hid (show w.heap.size ≤ g by omega)
  have HB1 := Lib.hid hb1
  clear C0 hP0 hlt hb1 hg
  go_wp2_with fail
  refine C1.out.mono ?_
  rintro E w2 ⟨rfl, hP1, hg2⟩
  have HB2 := Lib.hid (below_row_at HB1.out hg2 HG.out HB1.out.size)
  have C2 : Hid (Calls Tryd.prog 19 #[.pointer (some ⟨g, 0, none⟩), .agg #[.int .u8 3, .int .u8 4]] w2 fun E w' => E = .returned (.int .i64 0) ∧ PH w' g hA2 ∧ w2.grownBy w' (some g)) := padd_at hP1 okA1 3 4 (by decide) (by decide) (e := 0) (by decide) rfl
  clear C1 hP1 HB1 hg2
  go_wp2_with fail
  refine C2.out.mono ?_
  rintro E w3 ⟨rfl, hP2, hg3⟩
  have HB3 := Lib.hid (below_row_at HB2.out hg3 HG.out HB2.out.size)
  have C3 : Hid (Calls Tryd.prog 19 #[.pointer (some ⟨g, 0, none⟩), .agg #[.int .u8 5, .int .u8 6]] w3 fun E w' => E = .returned (.int .i64 7) ∧ PH w' g hA2 ∧ w3.grownBy w' (some g)) := padd_at hP2 okA2 5 6 (by decide) (by decide) (e := 7) (by decide) rfl
  clear C2 hP2 HB2 hg3
  go_wp2_with fail
  refine C3.out.mono ?_
  rintro E w4 ⟨rfl, hP3, hg4⟩
  have HB4 := Lib.hid (below_row_at HB3.out hg4 HG.out HB3.out.size)
  have C4 : Hid (Calls Tryd.prog 20 #[.pointer (some ⟨g, 0, none⟩), .int .u64 6] w4 fun E w' => E = .returned (.tuple #[.agg #[.int .u8 3, .int .u8 4], .bool true]) ∧ Below w4.heap.size w4 w') := pat_at hP3 okA2 6 (p := 3) (q := 4) (b := true) (by decide) (by decide)
  clear C3 hP3 HB3 hg4
  go_wp2_with fail
  refine C4.out.mono ?_
  rintro E w5 ⟨rfl, hb5⟩
  have H5 : Loc w.heap.size w w5 [] := (Loc.nil (Nat.le_refl _)).to (HB4.out.trans (hb5.mono HB4.out.size))
  obtain ⟨g1, w6, z6, s6, H6, _⟩ := H5.newA ty_pair PZ #[.int .u8 3, .int .u8 4] rfl rfl rfl
  replace H6 : Loc _ _ _ [(g1, 47, #[.int .u8 3, .int .u8 4])] := H6
  have CS : Hid (Calls Tryd.prog 25 #[.int .u64 7] w6 fun E w' => E = .returned (.agg (stc (start 7) none 0)) ∧ w6.grownBy w' none) := start_c 7 _
  clear C4 HB4 hb5 H5
  go_wp2_with fail
  refine CS.out.mono ?_
  rintro E w7 ⟨rfl, hb7⟩
  clear CS s6 z6
  have H7 := H6.grown hb7
  obtain ⟨g2, w8, z8, s8, H8, _⟩ := H7.newA ty_state zsc (stc (start 7) none 0) rfl rfl rfl
  replace H8 : Loc _ _ _ [(g1, 47, #[.int .u8 3, .int .u8 4]), (g2, 30, #[.int .u64 0, .int .u64 7, .int .i32 8192, .int .i32 14336, .int .i32 0, .int .i32 0, .int .u8 100, .int .u8 0, .int .u8 0, .int .i32 53248, .int .i32 14336, .int .i32 0, .int .i32 0, .int .u8 100, .int .u8 0, .int .u8 1, .slice none 0 0, .int .u16 0, .int .u16 0])] := H8
  have l8 := H8.ldA ty_state 1 rfl 0 (vs := (stc (start 7) none 0)) rfl (Nat.le_of_ble_eq_true rfl)
  have H9 := H8.more 47 #[.int .u8 2, .int .u8 0, .int .u8 2, .int .u8 0]
  have CF : Hid (Calls Tryd.prog 11 #[.agg (stc (start 7) none 0), .slice (some ⟨w8.heap.size, 0, none⟩) 2 2] (w8.alloc (.cells #[.int .u8 2, .int .u8 0, .int .u8 2, .int .u8 0] 47)) (StPost (w8.alloc (.cells #[.int .u8 2, .int .u8 0, .int .u8 2, .int .u8 0] 47)).heap.size (w8.alloc (.cells #[.int .u8 2, .int .u8 0, .int .u8 2, .int .u8 0] 47)) gone2)) := by
    show Calls _ _ _ _ _
    rw [← stps_gone]
    exact fold_c (start 7) none 0 [(2, 0), (2, 0)] (some ⟨w8.heap.size, 0, none⟩) 2 _ (shs_nil _ _) (fun _ => rfl) (by decide) (fit_start (by decide)) (pis_cells (Cells.made w8 _ _) rfl (by decide)) (by decide) (HL.out.to H9.be)
  clear H7 hb7 H6
  go_wp2_with fail
  refine CF.out.mono ?_
  rintro E w10 ⟨ao, cap, rfl, hR10, hb10⟩
  clear CF l8 s8 z8
  have H10 := H9.to hb10
  replace H10 : Loc _ _ _ [(g1, 47, #[.int .u8 3, .int .u8 4]), (g2, 30, #[.int .u64 0, .int .u64 7, .int .i32 8192, .int .i32 14336, .int .i32 0, .int .i32 0, .int .u8 100, .int .u8 0, .int .u8 0, .int .i32 53248, .int .i32 14336, .int .i32 0, .int .i32 0, .int .u8 100, .int .u8 0, .int .u8 1, .slice none 0 0, .int .u16 0, .int .u16 0])] := H10.drop 2 rfl
  obtain ⟨g3, w11, z11, s11, H11, _⟩ := H10.newA ty_state zsc (stc gone2 ao cap) rfl rfl rfl
  replace H11 : Loc _ _ _ [(g1, 47, #[.int .u8 3, .int .u8 4]), (g2, 30, #[.int .u64 0, .int .u64 7, .int .i32 8192, .int .i32 14336, .int .i32 0, .int .i32 0, .int .u8 100, .int .u8 0, .int .u8 0, .int .i32 53248, .int .i32 14336, .int .i32 0, .int .i32 0, .int .u8 100, .int .u8 0, .int .u8 1, .slice none 0 0, .int .u16 0, .int .u16 0]), (g3, 30, stc gone2 ao cap)] := H11
  clear H8 H9 hR10 hb10 H10
  go_upto_region 8 with fail
  clear s11 z11
  have m0 := H11.ldA ty_pair 0 rfl 0 (vs := #[.int .u8 3, .int .u8 4]) rfl (Nat.le_of_ble_eq_true rfl)
  have m1 := H11.ldO ty_i32 2 rfl 4 (v := .int .i32 128) rfl
  have m2 := H11.ldO ty_i32 2 rfl 2 (v := .int .i32 8384) rfl
  have m3 := H11.ldO ty_i32 1 rfl 2 (v := .int .i32 8192) rfl
  go_wp2
  go_ret
  exact ⟨rfl, H11.be⟩
end Go.Proofs.YtgmbdadkahcpcaaDoor
