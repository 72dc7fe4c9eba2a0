/- The statement StateKnown: the chapter's examples hold, and those next to each bound: the Go function returns true. Conditions: the table of bounds lies in its variable. -/
import Derived.Test.YtbmkmmkebophpaaDoorSv
import Derived.Test.YtbmkmmkebophpaaDoorSx0
import Derived.Test.YtbmkmmkebophpaaDoorSj
import Derived.Deep.RegionHeld3
import Derived.Deep.DeepCutAuto
import Derived.Laws.MakeOwn
namespace Go.Proofs.YtbmkmmkebophpaaDoor
open Go.RowKit
set_option linter.unusedVariables false
set_option linter.unusedSimpArgs false

section
attribute [local go_sem ↓] loadAt_state storeAt_state
attribute [local go_sem] run_loadState rowOf_new rowOf_old rowOf_drew rowOf_drewN run_storeOk okRow_new okRow_old Value.oneCell'
set_option maxHeartbeats 1000000 in
set_option maxRecDepth 20000 in
theorem firstC (w : World) : Calls Tryd.prog 24 #[] w fun E w' => ∃ g, E = .returned (sv frst (some ⟨g, 0, none⟩) 1) ∧ w.heap.size ≤ g ∧ Cells w' g 46 #[.int .i32 5, .int .i32 6, .int .i32 (-2048), .int .i32 2048, .int .u8 1, .int .u8 40] ∧ w.grownBy w' none := by
  have HB0 : Hid (Bk (w.alloc (.cells #[.int .u64 0, .int .u64 0, .int .i32 0, .int .i32 0, .int .i32 0, .int .i32 0, .int .u8 0, .int .u8 0, .int .u8 0, .int .i32 0, .int .i32 0, .int .i32 0, .int .i32 0, .int .u8 0, .int .u8 0, .int .u8 0, .slice none 0 0, .int .u16 0, .int .u16 0] 30)) w.heap.size .zero none 0) := Cells.made w _ _
  go_enter Tryd.func24, Tryd.ntmps24
  go_upto_region 1 with fail
  go_cut [0, 1] (fun s0 s1 wx => ∃ g, s0 = .pointer (some ⟨w.heap.size, 0, none⟩) ∧ s1 = .pointer (some ⟨g, 0, none⟩) ∧ w.heap.size < g ∧ Hid (Bk wx g (start 1) none 0) ∧ Hid (Bk wx w.heap.size .zero none 0) ∧ Hid (w.grownBy wx none))
  case first =>
    go_wp2_with fail
    refine (start_c 1 _).mono ?_
    rintro E w1 ⟨rfl, hb1⟩
    have HB1 := Lib.hid (bk_grown HB0.out hb1 (by simp))
    have HG1 := Lib.hid ((grown_alloc w _).trans hb1)
    clear hb1
    go_wp2_with fail
    all_goals go_meet
    all_goals exact ⟨_, rfl, rfl, Cells.lt HB1.out, bk_setRow (Cells.made w1 _ _) (start 1) none 0, cells_far (Cells.alloc HB1.out _) (Nat.ne_of_lt (Cells.lt HB1.out)) _, grown_of_below (below_setRow ((below_of_grown HG1.out).alloc HG1.out.size _) HG1.out.size _)⟩
  case rest =>
  obtain ⟨g, rfl, rfl, hgl, HB1, HB2, HG⟩ := hcut
  have c16 := HB1.out.of 16 _ rfl
  have f16 := Cells.frozen HB1.out 16
  have hlt := Cells.lt HB1.out
  go_upto_region 3 with fail
  have HB3 : Hid (Bk ((wc.setCell ⟨g, 16, none⟩ (.slice (some ⟨wc.heap.size, 0, none⟩) 1 1)).alloc (.cells #[.int .i32 5, .int .i32 6, .int .i32 (-2048), .int .i32 2048, .int .u8 1, .int .u8 40] 46)) g frst (some ⟨wc.heap.size, 0, none⟩) 1) :=
    bk_grown (bk_set16 HB1.out [shot1] 1 rfl _ _) (grown_alloc _ _) (by simp)
  have HS3 : Hid (Cells ((wc.setCell ⟨g, 16, none⟩ (.slice (some ⟨wc.heap.size, 0, none⟩) 1 1)).alloc (.cells #[.int .i32 5, .int .i32 6, .int .i32 (-2048), .int .i32 2048, .int .u8 1, .int .u8 40] 46)) wc.heap.size 46 #[.int .i32 5, .int .i32 6, .int .i32 (-2048), .int .i32 2048, .int .u8 1, .int .u8 40]) :=
    by have := Cells.made (wc.setCell ⟨g, 16, none⟩ (.slice (some ⟨wc.heap.size, 0, none⟩) 1 1)) 46 #[.int .i32 5, .int .i32 6, .int .i32 (-2048), .int .i32 2048, .int .u8 1, .int .u8 40]; rwa [show (wc.setCell ⟨g, 16, none⟩ (.slice (some ⟨wc.heap.size, 0, none⟩) 1 1)).heap.size = wc.heap.size by simp [World.setCell]] at this
  have HZ3 : Hid (Bk ((wc.setCell ⟨g, 16, none⟩ (.slice (some ⟨wc.heap.size, 0, none⟩) 1 1)).alloc (.cells #[.int .i32 5, .int .i32 6, .int .i32 (-2048), .int .i32 2048, .int .u8 1, .int .u8 40] 46)) w.heap.size .zero none 0) :=
    Cells.alloc (Cells.far HB2.out (by show w.heap.size ≠ g; omega) _) _
  have HG3 : Hid (Below w.heap.size w ((wc.setCell ⟨g, 16, none⟩ (.slice (some ⟨wc.heap.size, 0, none⟩) 1 1)).alloc (.cells #[.int .i32 5, .int .i32 6, .int .i32 (-2048), .int .i32 2048, .int .u8 1, .int .u8 40] 46))) :=
    ((below_of_grown HG.out).setCell (by show w.heap.size ≤ g; omega) _).alloc (by have := HG.out.size; simp [World.setCell]; exact this) _
  have hws : w.heap.size < wc.heap.size := Nat.lt_trans hgl hlt
  generalize (wc.setCell ⟨g, 16, none⟩ (.slice (some ⟨wc.heap.size, 0, none⟩) 1 1)).alloc (.cells #[.int .i32 5, .int .i32 6, .int .i32 (-2048), .int .i32 2048, .int .u8 1, .int .u8 40] 46) = wx at *
  generalize hgs : wc.heap.size = gs at *
  clear c16 f16 HB1 HB2 HG hlt hgs
  have hrow : rowOf wx g = stc frst (some ⟨gs, 0, none⟩) 1 := rowOf_cells HB3.out
  have hok : okRow wx w.heap.size := okRow_bk HZ3.out
  go_wp2
  refine bodyPost_ret (v := sv frst (some ⟨gs, 0, none⟩) 1) ?_ rfl ?_
  · exact ret_state _ 0 _ Tryd.results24 (setRow_heap _ _ _ _ _ _ HZ3.out) rfl rfl
  · exact ⟨gs, rfl, Nat.le_of_lt hws, cells_far HS3.out (by omega) _, grown_of_below (below_setRow HG3.out (Nat.le_refl _) _)⟩
end
/-- The bytes of the first state of 1, two of them turned. -/
def x1 : List UInt8 := ste (start 1)
theorem x1_len : x1.length = 59 := len_start
def y3 : List UInt8 := x1.take 16 ++ [255] ++ (x1.drop 17).take 2 ++ [255] ++ x1.drop 20
def y4 : List UInt8 := x1.take 54 ++ [9]
theorem y3_len : y3.length ≤ 100 := by decide +kernel
theorem y4_len : y4.length ≤ 100 := by decide +kernel
theorem bad_turn : tst y3 = (4, .zero) := by decide +kernel
theorem bad_nine : tst y4 = (4, .zero) := by decide +kernel
/-- A state read whole, out of a longer block. -/
theorem run_loadStateAt (w : World) (g o : Nat) (cs : Array Value) (t : TypeId) (h : Cells w g t cs) (ho : o + 19 ≤ cs.size) :
    (loadState (.pointer (some ⟨g, o, none⟩))).run Tryd.prog w = .ok (.agg (cs.extract o (o + 19))) w := by
  have hl := run_loadCells_list (P := Tryd.prog) w ⟨g, o, none⟩ ((cs.toList.drop o).take 19) (fun j v hv => by
    have hadd : (⟨g, o, none⟩ : Addr).add j = ⟨g, o + j, none⟩ := by unfold Addr.add; split <;> simp_all
    rw [hadd, h.cell, ← Array.getElem?_toList]
    rw [List.getElem?_take] at hv
    split at hv
    · rwa [List.getElem?_drop] at hv
    · cases hv)
  have hlen : ((cs.toList.drop o).take 19).length = 19 := by simp; omega
  rw [hlen] at hl
  have he : ((cs.toList.drop o).take 19).toArray = cs.extract o (o + 19) := by
    apply Array.ext'
    simp
  rw [he] at hl
  have hagg : (isAgg 30).run Tryd.prog w = .ok true w := by
    unfold isAgg
    rw [Sem.run_bind, run_underlying Tryd.underlying30 w]
    simp
  cases hq : Tryd.prog.info? 30 with
  | none => have := info_StSz; rw [hq] at this; simp at this
  | some i =>
    have hi : i.size = 19 := by have := info_StSz; rw [hq] at this; simpa using this
    simp [loadState, Instr.loadAt, Instr.sureAddr, loadVar, hagg, sizeOf, typeInfo, hq, hi, hl]
theorem run_storeStateAt {w : World} {g : Nat} {t : TypeId} {old cs : Array Value} (o : Nat) (h : Cells w g t old) (ho : o + 19 ≤ old.size) (hc : cs.size = 19) (h1 : cs.toList.all Value.oneCell' = true) :
    (storeState (.pointer (some ⟨g, o, none⟩)) (.agg cs)).run Tryd.prog w = .ok () (w.setRow g (old.toList.take o ++ cs.toList ++ old.toList.drop (o + 19)).toArray) := by
  have hst := run_storeCells_at Tryd.prog g o t cs.toList 0 old w h (by simp [hc]; omega) (fun v hv => List.all_eq_true.1 h1 v hv)
  rw [Nat.add_zero, show cs.toList.length = 19 from by simpa using hc] at hst
  cases hq : Tryd.prog.info? 30 with
  | none => have := info_StSz; rw [hq] at this; simp at this
  | some i =>
    have hi : i.size = 19 := by have := info_StSz; rw [hq] at this; simpa using this
    simp [storeState, Instr.storeAt, Instr.sureAddr, storeVar, sizeOf, typeInfo, hq, hi, Value.cells, hc, hst]
/-! Nine states, the first ones as the statements' own first. -/
def zl : List Value := (#[.int .u64 0, .int .u64 0, .int .i32 0, .int .i32 0, .int .i32 0, .int .i32 0, .int .u8 0, .int .u8 0, .int .u8 0, .int .i32 0, .int .i32 0, .int .i32 0, .int .i32 0, .int .u8 0, .int .u8 0, .int .u8 0, .slice none 0 0, .int .u16 0, .int .u16 0] : Array Value).toList
def fl (g : Nat) : List Value := (stc frst (some ⟨g, 0, none⟩) 1).toList
def zs : Nat → List Value
  | 0 => []
  | m + 1 => zl ++ zs m
def fs : List Nat → List Value
  | [] => []
  | g :: l => fl g ++ fs l
theorem zl_len : zl.length = 19 := rfl
theorem fl_len (g : Nat) : (fl g).length = 19 := rfl
theorem zs_len : ∀ m, (zs m).length = m * 19
  | 0 => rfl
  | m + 1 => by rw [zs, List.length_append, zs_len m, zl_len]; omega
theorem fs_len : ∀ l : List Nat, (fs l).length = l.length * 19
  | [] => rfl
  | g :: l => by rw [fs, List.length_append, fs_len l, fl_len, List.length_cons]; omega
theorem fs_snoc : ∀ (l : List Nat) (g : Nat), fs (l ++ [g]) = fs l ++ fl g
  | [], g => by simp [fs]
  | a :: l, g => by simp [fs, fs_snoc l g]
/-- What the block of nine states holds. -/
def nine (l : List Nat) : Array Value := (fs l ++ zs (9 - l.length)).toArray
theorem nine_size (l : List Nat) (h : l.length ≤ 9) : (nine l).size = 171 := by
  simp only [nine, List.size_toArray, List.length_append, fs_len, zs_len]; omega
theorem nine_next (l : List Nat) (g k : Nat) (h : l.length = k) (hk : k < 9) :
    ((nine l).toList.take (k * 19) ++ (stc frst (some ⟨g, 0, none⟩) 1).toList ++ (nine l).toList.drop (k * 19 + 19)).toArray = nine (l ++ [g]) := by
  have e : 9 - l.length = (9 - (l ++ [g]).length) + 1 := by simp; omega
  have hf : (fs l).length = k * 19 := by rw [fs_len, h]
  simp only [nine]
  rw [e, zs, fs_snoc]
  congr 1
  have h1 : (fs l ++ (zl ++ zs (9 - (l ++ [g]).length))).take (k * 19) = fs l := by rw [← hf, List.take_left]
  have h2 : (fs l ++ (zl ++ zs (9 - (l ++ [g]).length))).drop (k * 19 + 19) = zs (9 - (l ++ [g]).length) := by
    rw [← hf, ← List.drop_drop, List.drop_left, ← zl_len, List.drop_left]
  rw [h1, h2]
  rfl
theorem nine_of {l : List Nat} (h : l.length = 9) : ∃ g0 g1 g2 g3 g4 g5 g6 g7 g8, l = [g0, g1, g2, g3, g4, g5, g6, g7, g8] := by
  match l, h with
  | [g0, g1, g2, g3, g4, g5, g6, g7, g8], _ => exact ⟨g0, g1, g2, g3, g4, g5, g6, g7, g8, rfl⟩
theorem cell_some {w : World} {g : Nat} {t : TypeId} {cs : Array Value} (h : Cells w g t cs) (i : Nat) (hi : i < cs.size) : ∃ v, w.cell? ⟨g, i, none⟩ = some v := ⟨_, by rw [h.cell, Array.getElem?_eq_getElem hi]⟩
/-- Nine shots, all zero. -/
def zsh : Array Value := (List.replicate 9 [Value.int .i32 0, .int .i32 0, .int .i32 0, .int .i32 0, .int .u8 0, .int .u8 0]).flatten.toArray
theorem shs_hall {w : World} {g : Nat} {cs : Array Value} {l : List Sh} (h : Cells w g 46 cs) (hc : cs.toList = Hall l) (hf : ∀ x ∈ l, x.fit) : Shs w (some ⟨g, 0, none⟩) l := fun k hk => by
  refine ⟨hf _ (List.getElem_mem hk), g, 0, rfl, fun i v hv => ?_⟩
  have h1 : (Hall l)[k * 6 + i]? = some v := hall_at l k hk i v hv
  rw [show 0 + k * 6 + i = k * 6 + i by omega, h.cell, ← Array.getElem?_toList, hc]
  exact h1
def plB (p : Pl) : Bool := decide (-2147483648 ≤ p.x) && decide (p.x ≤ 2147483647) && (decide (-2147483648 ≤ p.y) && decide (p.y ≤ 2147483647)) && (decide (-2147483648 ≤ p.vx) && decide (p.vx ≤ 2147483647)) && (decide (-2147483648 ≤ p.vy) && decide (p.vy ≤ 2147483647)) && (decide (p.h < 256) && decide (p.c < 256) && decide (p.f < 256))
def shB (p : Sh) : Bool := decide (-2147483648 ≤ p.x) && decide (p.x ≤ 2147483647) && (decide (-2147483648 ≤ p.y) && decide (p.y ≤ 2147483647)) && (decide (-2147483648 ≤ p.vx) && decide (p.vx ≤ 2147483647)) && (decide (-2147483648 ≤ p.vy) && decide (p.vy ≤ 2147483647)) && (decide (p.o < 256) && decide (p.l < 256))
def fitB (s : St) : Bool := decide (s.fr < 18446744073709551616) && decide (s.sd < 18446744073709551616) && (plB s.p && plB s.q) && s.ss.all shB && (decide (s.s0 < 65536) && decide (s.s1 < 65536))
theorem pl_fitB {p : Pl} (h : plB p = true) : p.fit := by
  simp only [plB, Bool.and_eq_true, decide_eq_true_eq] at h
  obtain ⟨⟨⟨⟨⟨a, b⟩, c, d⟩, e, f⟩, g, i⟩, ⟨j, k⟩, l⟩ := h
  exact ⟨⟨a, b⟩, ⟨c, d⟩, ⟨e, f⟩, ⟨g, i⟩, j, k, l⟩
theorem sh_fitB {p : Sh} (h : shB p = true) : p.fit := by
  simp only [shB, Bool.and_eq_true, decide_eq_true_eq] at h
  obtain ⟨⟨⟨⟨⟨a, b⟩, c, d⟩, e, f⟩, g, i⟩, j, k⟩ := h
  exact ⟨⟨a, b⟩, ⟨c, d⟩, ⟨e, f⟩, ⟨g, i⟩, j, k⟩
theorem fit_of {s : St} (h : fitB s = true) : s.fit := by
  simp only [fitB, Bool.and_eq_true, decide_eq_true_eq, List.all_eq_true] at h
  obtain ⟨⟨⟨⟨a, b⟩, c, d⟩, e⟩, f, g⟩ := h
  exact ⟨a, b, pl_fitB c, pl_fitB d, fun x hx => sh_fitB (e x hx), f, g⟩
def bad9 (g0 g1 g2 g3 g4 g5 g6 g7 g8 gm : Nat) : Array Value := (((((((nine [g0, g1, g2, g3, g4, g5, g6, g7, g8]).setIfInBounds 6 (.int .u8 0)).setIfInBounds 30 (.int .i32 1025)).setIfInBounds 54 (.slice (some ⟨gm, 0, none⟩) 9 9)).setIfInBounds 78 (.int .i32 61441)).setIfInBounds 98 (.int .i32 (-1))).setIfInBounds 167 (.int .u8 4))
def bs0 : St := { frst with p := { frst.p with h := 0 } }
theorem bad9_0 (g0 g1 g2 g3 g4 g5 g6 g7 g8 gm : Nat) : (bad9 g0 g1 g2 g3 g4 g5 g6 g7 g8 gm).extract (0 * 19) (0 * 19 + 19) = stc bs0 (some ⟨g0, 0, none⟩) 1 := by kernel_rfl
def bs1 : St := { frst with q := { frst.q with vx := 1025 } }
theorem bad9_1 (g0 g1 g2 g3 g4 g5 g6 g7 g8 gm : Nat) : (bad9 g0 g1 g2 g3 g4 g5 g6 g7 g8 gm).extract (1 * 19) (1 * 19 + 19) = stc bs1 (some ⟨g1, 0, none⟩) 1 := by kernel_rfl
def bs2 : St := { frst with ss := List.replicate 9 ⟨0, 0, 0, 0, 0, 0⟩ }
theorem bad9_2 (g0 g1 g2 g3 g4 g5 g6 g7 g8 gm : Nat) : (bad9 g0 g1 g2 g3 g4 g5 g6 g7 g8 gm).extract (2 * 19) (2 * 19 + 19) = stc bs2 (some ⟨gm, 0, none⟩) 9 := by kernel_rfl
def bs3 : St := { frst with ss := [{ shot1 with l := 0 }] }
theorem bad9_3 (g0 g1 g2 g3 g4 g5 g6 g7 g8 gm : Nat) : (bad9 g0 g1 g2 g3 g4 g5 g6 g7 g8 gm).extract (3 * 19) (3 * 19 + 19) = stc bs3 (some ⟨g3, 0, none⟩) 1 := by kernel_rfl
def bs4 : St := { frst with p := { frst.p with x := 61441 } }
theorem bad9_4 (g0 g1 g2 g3 g4 g5 g6 g7 g8 gm : Nat) : (bad9 g0 g1 g2 g3 g4 g5 g6 g7 g8 gm).extract (4 * 19) (4 * 19 + 19) = stc bs4 (some ⟨g4, 0, none⟩) 1 := by kernel_rfl
def bs5 : St := { frst with p := { frst.p with y := -1 } }
theorem bad9_5 (g0 g1 g2 g3 g4 g5 g6 g7 g8 gm : Nat) : (bad9 g0 g1 g2 g3 g4 g5 g6 g7 g8 gm).extract (5 * 19) (5 * 19 + 19) = stc bs5 (some ⟨g5, 0, none⟩) 1 := by kernel_rfl
def bs6 : St := { frst with ss := [{ shot1 with vy := 2049 }] }
theorem bad9_6 (g0 g1 g2 g3 g4 g5 g6 g7 g8 gm : Nat) : (bad9 g0 g1 g2 g3 g4 g5 g6 g7 g8 gm).extract (6 * 19) (6 * 19 + 19) = stc bs6 (some ⟨g6, 0, none⟩) 1 := by kernel_rfl
def bs7 : St := { frst with ss := [{ shot1 with o := 2 }] }
theorem bad9_7 (g0 g1 g2 g3 g4 g5 g6 g7 g8 gm : Nat) : (bad9 g0 g1 g2 g3 g4 g5 g6 g7 g8 gm).extract (7 * 19) (7 * 19 + 19) = stc bs7 (some ⟨g7, 0, none⟩) 1 := by kernel_rfl
def bs8 : St := { frst with q := { frst.q with f := 4 } }
theorem bad9_8 (g0 g1 g2 g3 g4 g5 g6 g7 g8 gm : Nat) : (bad9 g0 g1 g2 g3 g4 g5 g6 g7 g8 gm).extract (8 * 19) (8 * 19 + 19) = stc bs8 (some ⟨g8, 0, none⟩) 1 := by kernel_rfl
def edg : St := ⟨18446744073709551615, 1, ⟨61440, 28672, -1024, 1024, 1, 30, 3⟩, ⟨53248, 14336, 0, 0, 100, 0, 1⟩, [⟨65024, 32256, 2048, -2048, 0, 1⟩], 65535, 0⟩
theorem fit_edg : edg.fit := fit_of (by decide)
theorem good_edg : edg.good = true := by decide
theorem edg_len : (ste edg).length ≤ 1099511627776 := by
  have h1 := pe_len edg.p
  have h2 := pe_len edg.q
  have h3 := hes_len edg.ss
  have h4 := (vr_len edg.ss.length).2
  have h5 : edg.ss.length = 1 := rfl
  simp only [ste, List.length_append, le_length, h1, h2, h3]
  omega
theorem info_StI : (Tryd.prog.info? 30).map (fun i => (i.zero, i.size, i.bytes)) = some (some (.agg #[.int .u64 0, .int .u64 0, .int .i32 0, .int .i32 0, .int .i32 0, .int .i32 0, .int .u8 0, .int .u8 0, .int .u8 0, .int .i32 0, .int .i32 0, .int .i32 0, .int .i32 0, .int .u8 0, .int .u8 0, .int .u8 0, .slice none 0 0, .int .u16 0, .int .u16 0]), 19, 88) := by kernel_rfl
theorem make_nine (W : World) : (Instr.makeSlice 50 (.int .i64 9) (.int .i64 9)).run Tryd.prog W = .ok (.slice (some ⟨W.heap.size, 0, none⟩) 9 9) (W.alloc (.cells (nine []) 30)) := by
  obtain ⟨i, hi, hz, hs, hb⟩ := info_parts info_StI
  have h := run_makeSlice (P := Tryd.prog) (w := W) 50 30 i (.agg #[.int .u64 0, .int .u64 0, .int .i32 0, .int .i32 0, .int .i32 0, .int .i32 0, .int .u8 0, .int .u8 0, .int .u8 0, .int .i32 0, .int .i32 0, .int .i32 0, .int .i32 0, .int .u8 0, .int .u8 0, .int .u8 0, .slice none 0 0, .int .u16 0, .int .u16 0]) Tryd.underlying50 hi hz .i64 .i64 9 9 (by omega) (by omega) (by rw [hs]; decide) (by rw [hb]; decide) (by decide)
  rw [hs] at h
  have e : madeCells (Value.agg #[.int .u64 0, .int .u64 0, .int .i32 0, .int .i32 0, .int .i32 0, .int .i32 0, .int .u8 0, .int .u8 0, .int .u8 0, .int .i32 0, .int .i32 0, .int .i32 0, .int .i32 0, .int .u8 0, .int .u8 0, .int .u8 0, .slice none 0 0, .int .u16 0, .int .u16 0]).cells ((9 : Int).toNat * 19) = nine [] := by kernel_rfl
  rw [e] at h
  exact h
theorem make_shots (W : World) : (Instr.makeSlice 26 (.int .i64 9) (.int .i64 9)).run Tryd.prog W = .ok (.slice (some ⟨W.heap.size, 0, none⟩) 9 9) (W.alloc (.cells zsh 46)) := by
  obtain ⟨i, hi, hz, hs, hb⟩ := info_parts info_Shot
  have h := run_makeSlice (P := Tryd.prog) (w := W) 26 46 i (.agg #[.int .i32 0, .int .i32 0, .int .i32 0, .int .i32 0, .int .u8 0, .int .u8 0]) Tryd.underlying26 hi hz .i64 .i64 9 9 (by omega) (by omega) (by rw [hs]; decide) (by rw [hb]; decide) (by decide)
  rw [hs] at h
  have e : madeCells (Value.agg #[.int .i32 0, .int .i32 0, .int .i32 0, .int .i32 0, .int .u8 0, .int .u8 0]).cells ((9 : Int).toNat * 6) = zsh := by kernel_rfl
  rw [e] at h
  exact h
attribute [local go_sem ↓] loadAt_state storeAt_state storeAt_pl storeAt_sh
attribute [local go_sem] run_loadState rowOf_new rowOf_old rowOf_drew rowOf_drewN run_storeOk okRow_new okRow_old Value.oneCell' rowOf_own
set_option maxHeartbeats 4000000 in
set_option maxRecDepth 20000 in
theorem lawKnown (w : World) (ht : Tab w) :
    Calls Tryd.prog 8 #[] w fun E w' => E = .returned (.bool true) ∧ w.grownBy w' none := by
  have HT := Lib.hid ht
  have HP1 : Hid (∀ W, Tab W → Calls Tryd.prog 13 #[sv (start 1) none 0] W fun E w' => E = .returned (.string (str x1)) ∧ W.grownBy w' none) := fun W h => put_good (start 1) none 0 W (shs_nil _ _) (fit_start (by decide)) good_start1 h
  have hxl := x1_len
  have hsz : (str x1).size = 59 := by rw [str_size, hxl]
  have F1 : Hid (∀ W, Tab W → Calls Tryd.prog 23 #[.string (str (x1.take 58)), .int .i64 10] W fun E w' => E = .returned (.bool true) ∧ W.grownBy w' none) := fun W h =>
    fails_c _ 10 W (by simp; omega) h (tst_cut (fit_start (by decide)) good_start1 (x1.take 58) (x1.drop 58) (by rw [List.take_append_drop]; rfl) (fun e => by have := congrArg List.length e; simp [hxl] at this))
  have F2 : Hid (∀ W, Tab W → Calls Tryd.prog 23 #[.string (str (x1 ++ [120])), .int .i64 4] W fun E w' => E = .returned (.bool true) ∧ W.grownBy w' none) := fun W h =>
    fails_c _ 4 W (by simp; omega) h (tst_more (fit_start (by decide)) good_start1 120)
  have F3 : Hid (∀ W, Tab W → Calls Tryd.prog 23 #[.string (str y3), .int .i64 4] W fun E w' => E = .returned (.bool true) ∧ W.grownBy w' none) := fun W h =>
    fails_c y3 4 W (by have := y3_len; omega) h bad_turn
  have F4 : Hid (∀ W, Tab W → Calls Tryd.prog 23 #[.string (str y4), .int .i64 4] W fun E w' => E = .returned (.bool true) ∧ W.grownBy w' none) := fun W h =>
    fails_c y4 4 W (by have := y4_len; omega) h bad_nine
  have C1 : Hid (∀ W g, Shs W (some ⟨g, 0, none⟩) frst.ss → Tab W → Calls Tryd.prog 11 #[sv frst (some ⟨g, 0, none⟩) 1] W fun E w' => E = .returned (.int .i64 0) ∧ W.grownBy w' none) := fun W g h1 h2 =>
    (check_c frst _ 1 W h1 fit_frst h2).mono fun E w' h => by rw [chk_yes good_frst] at h; exact h
  have e1 : (str x1).extract 0 58 = str (x1.take 58) := str_cut _ _
  have e2 : str x1 ++ ⟨#[120]⟩ = str (x1 ++ [120]) := str_append x1 [120]
  have e3 : (str x1).extract 0 16 ++ ⟨#[255]⟩ ++ (str x1).extract 17 19 ++ ⟨#[255]⟩ ++ (str x1).extract 20 59 = str y3 := by
    unfold y3
    rw [str_cut, str_extract x1 17 19, show 59 = x1.length from hxl.symm, str_rest, show (⟨#[255]⟩ : ByteArray) = str [255] from rfl, str_append, str_append, str_append, str_append]
    rw [List.drop_take]
  have e4 : (str x1).extract 0 54 ++ ⟨#[9]⟩ = str y4 := by unfold y4; rw [str_cut]; exact str_append _ [9]
  clear ht
  go_enter Tryd.func8, Tryd.ntmps8
  go_wp2_with fail
  refine (start_c 1 _).mono ?_
  rintro E w1 ⟨rfl, hb1⟩
  have HT1 := Lib.hid (tab_grown HT.out hb1 (by simp))
  have HG1 := Lib.hid hb1
  clear hb1 HT
  go_wp2_with fail
  refine (HP1.out _ HT1.out).mono ?_
  rintro E w2 ⟨rfl, hb2⟩
  have HT2 := Lib.hid (tab_grown HT1.out hb2 (by simp))
  have HG2 := Lib.hid (HG1.out.trans hb2)
  clear hb2 HT1 HG1
  go_upto_region 2 with fail
  go_cut [1, 48] (fun s1 s48 wx => s1 = .string (str x1) ∧ s48 = .bool false ∧ Hid (w.grownBy wx none) ∧ Hid (Tab wx))
  case first =>
    have o0 := On.drew w2.heap.size w2
    go_region_held3 (fun w' => On w2.heap.size w2 w') (first | with_reducible assumption) (first
      | (go_at_call 9; with_reducible refine (works_c _ (tab_grown HT2.out (on_grown (by assumption)) (by simp))).mono ?_; rintro E w4 ⟨rfl, hb4⟩; have o4 := on_step (wd := w2) (by assumption) hb4)
      | (go_at_call 23; with_reducible refine (F1.out _ (tab_grown HT2.out (on_grown (by assumption)) (by simp))).mono ?_; rintro E w4 ⟨rfl, hb4⟩; have o4 := on_step (wd := w2) (by assumption) hb4)
      | (go_at_call 23; with_reducible refine (F2.out _ (tab_grown HT2.out (on_grown (by assumption)) (by simp))).mono ?_; rintro E w4 ⟨rfl, hb4⟩; have o4 := on_step (wd := w2) (by assumption) hb4)
      | (go_at_call 23; with_reducible refine (F3.out _ (tab_grown HT2.out (on_grown (by assumption)) (by simp))).mono ?_; rintro E w4 ⟨rfl, hb4⟩; have o4 := on_step (wd := w2) (by assumption) hb4)
      | (go_at_call 24; with_reducible refine (first_c _).mono ?_; rintro E w4 ⟨g4, rfl, hg4, hs4, hb4⟩; have o4 := on_step (wd := w2) (by assumption) hb4)
      | (go_at_call 11; with_reducible refine (C1.out _ g4 (by assumption) (tab_grown HT2.out (on_grown (by assumption)) (by simp))).mono ?_; rintro E w5 ⟨rfl, hb5⟩; have o5 := on_step (wd := w2) (by assumption) hb5))
    go_wp2_with fail
    all_goals go_meet
    all_goals exact ⟨rfl, rfl, HG2.out.trans (on_grown o5), tab_grown HT2.out (on_grown o5) (by simp)⟩
  case rest =>
  obtain ⟨rfl, rfl, HG3, HT3⟩ := hcut
  clear HT2 HG2 F1 F2 F3 C1 e1 e2 e3
  have HMK : Hid (∀ W : World, (Instr.makeSlice 50 (.int .i64 9) (.int .i64 9)).run Tryd.prog W = .ok (.slice (some ⟨W.heap.size, 0, none⟩) 9 9) (W.alloc (.cells (nine []) 30))) := make_nine
  have hmk := HMK.out
  clear HMK
  have HC0 : Hid (Cells (wc.alloc (.cells (nine []) 30)) wc.heap.size 30 (nine [])) := Cells.made _ _ _
  have HBW0 : Hid (Below w.heap.size w (wc.alloc (.cells (nine []) 30))) := (below_of_grown HG3.out).alloc HG3.out.size _
  have HWB := Lib.hid HG3.out.size
  have HTW : Hid (Tab (wc.alloc (.cells (nine []) 30)) ∧ w.heap.size ≤ wc.heap.size ∧ 0 < wc.heap.size) := ⟨tab_grown HT3.out (grown_alloc _ _) (by simp), HG3.out.size, HT3.out.1⟩
  clear HG3 HT3
  go_upto_region 5 with fail
  clear hmk
  generalize wc.alloc (.cells (nine []) 30) = wn at *
  generalize wc.heap.size = B at *
  go_wp2
  go_loopw [3] (fun v wr => ∃ gs : List Nat, gs.length ≤ 9 ∧ v = .int .i64 gs.length ∧ Hid (Cells wr B 30 (nine gs)) ∧ Hid (∀ g ∈ gs, B < g ∧ g < wr.heap.size ∧ Cells wr g 46 #[.int .i32 5, .int .i32 6, .int .i32 (-2048), .int .i32 2048, .int .u8 1, .int .u8 40]) ∧ Hid (gs.Pairwise (· < ·)) ∧ Hid (Below w.heap.size w wr) ∧ Hid (Tab wr)) (fun v _ => 9 - (intOf v).toNat)
  case atStart => exact ⟨[], by simp, rfl, HC0, fun g hg => (by cases hg), List.Pairwise.nil, HBW0, HTW.out.1⟩
  case round =>
    obtain ⟨gs, hgs, rfl, HC, HS, HPW, HBW, HTr⟩ := hrel
    clear HC0 HBW0
    obtain ⟨k, hk⟩ : ∃ k, gs.length = k := ⟨_, rfl⟩
    rw [hk] at hgs ⊢
    have HK := Lib.hid hk
    clear hk
    by_cases hlt : k < 9
    · have hki : (k : Int) < 9 := by omega
      go_wp2_with fail
      refine (firstC _).mono ?_
      rintro E w1 ⟨g, rfl, hg, hcg, hb1⟩
      have hcb := Cells.grown HC.out hb1 (by simp)
      obtain ⟨w2, hst, hw2, hg2⟩ : ∃ w2, (storeState (.pointer (some ⟨B, k * 19, none⟩)) (.agg (stc frst (some ⟨g, 0, none⟩) 1))).run Tryd.prog w1 = .ok () w2 ∧ Cells w2 B 30 (nine (gs ++ [g])) ∧ w1.grownBy w2 (some B) :=
        ⟨_, run_storeStateAt (k * 19) hcb (by rw [nine_size _ (by rw [HK.out]; omega)]; omega) rfl (by simp [Value.oneCell']), by rw [← nine_next gs g k HK.out hlt]; exact setRow_heap _ _ _ _ _ _ hcb, grown_setRow _ _ _⟩
      have hBl := Cells.lt HC.out
      have HC2 := Lib.hid hw2
      have HG2 := Lib.hid hg2
      have HS2 : Hid (∀ q ∈ gs ++ [g], B < q ∧ q < w2.heap.size ∧ Cells w2 q 46 #[.int .i32 5, .int .i32 6, .int .i32 (-2048), .int .i32 2048, .int .u8 1, .int .u8 40]) := fun q hq => by
        have hz1 := hb1.size
        have hz2 := hg2.size
        rcases List.mem_append.1 hq with hq | hq
        · obtain ⟨h1, h2, h3⟩ := HS.out q hq
          exact ⟨h1, by omega, Cells.grown (Cells.grown h3 hb1 (by simp)) hg2 (by simp; omega)⟩
        · rw [List.mem_singleton] at hq
          subst hq
          have h4 := Cells.lt hcg
          exact ⟨by omega, by omega, Cells.grown hcg hg2 (by simp; omega)⟩
      have HPW2 : Hid ((gs ++ [g]).Pairwise (· < ·)) := by
        show List.Pairwise _ _
        rw [List.pairwise_append]
        exact ⟨HPW.out, List.pairwise_singleton _ _, fun a ha b hb => by
          rw [List.mem_singleton] at hb
          subst hb
          have := (HS.out a ha).2.1
          omega⟩
      have HBW2 : Hid (Below w.heap.size w w2) := (HBW.out.trans ((below_of_grown hb1).mono HBW.out.size)).trans (grown_nb hg2 (fun q e => by cases e; exact HTW.out.2.1) (Nat.le_trans HBW.out.size hb1.size))
      have HT2 : Hid (Tab w2) := tab_grown (tab_grown HTr.out hb1 (by simp)) hg2 (fun e => by have := HTW.out.2.2; injection e with e; omega)
      clear hcg hb1 hcb hw2 hg2 HS HPW HBW HC HTr
      go_wp2
      go_roundw
      case rel => exact ⟨gs ++ [g], by rw [List.length_append, HK.out]; simp; omega, by rw [List.length_append, HK.out]; go_num, HC2, HS2, HPW2, HBW2, HT2⟩
      case measure => simp [intOf]; omega
    · have hk9 : k = 9 := by omega
      subst hk9
      rw [show ((9 : Nat) : Int) = 9 from rfl]
      obtain ⟨g0, g1, g2, g3, g4, g5, g6, g7, g8, rfl⟩ := nine_of HK.out
      clear hlt hgs HK
      have hp := HPW.out
      simp at hp
      have hBg : B < g0 ∧ B < g1 ∧ B < g3 ∧ B < g4 ∧ B < g5 ∧ B < g6 ∧ B < g7 ∧ B < g8 := ⟨(HS.out g0 (by simp)).1, (HS.out g1 (by simp)).1, (HS.out g3 (by simp)).1, (HS.out g4 (by simp)).1, (HS.out g5 (by simp)).1, (HS.out g6 (by simp)).1, (HS.out g7 (by simp)).1, (HS.out g8 (by simp)).1⟩
      have S00 := Lib.hid (HS.out g0 (by simp)).2.2
      have S01 := Lib.hid (HS.out g1 (by simp)).2.2
      have S03 := Lib.hid (HS.out g3 (by simp)).2.2
      have S04 := Lib.hid (HS.out g4 (by simp)).2.2
      have S05 := Lib.hid (HS.out g5 (by simp)).2.2
      have S06 := Lib.hid (HS.out g6 (by simp)).2.2
      have S07 := Lib.hid (HS.out g7 (by simp)).2.2
      have S08 := Lib.hid (HS.out g8 (by simp)).2.2
      have HB0 := Lib.hid HBW.out
      have HC0 := Lib.hid HC.out
      have HT0 := Lib.hid HTr.out
      have hBw := HTW.out.2.1
      have hB0 := HTW.out.2.2
      have HPX := Lib.hid hp
      have HBX := Lib.hid hBg
      clear HS HPW HBW HC HTr hp hBg
      obtain ⟨v1, c1⟩ := cell_some HC0.out 6 (by rw [nine_size _ (by simp)]; omega)
      have f1 := HC0.out.frozen 6
      go_upto_region 10 with fail
      have HC1 : Hid (Cells (wr.setCell ⟨B, 6, none⟩ (.int .u8 0)) B 30 ((nine [g0, g1, g2, g3, g4, g5, g6, g7, g8]).setIfInBounds 6 (.int .u8 0))) := HC0.out.set 6 _
      have S10 : Hid (Cells (wr.setCell ⟨B, 6, none⟩ (.int .u8 0)) g0 46 #[.int .i32 5, .int .i32 6, .int .i32 (-2048), .int .i32 2048, .int .u8 1, .int .u8 40]) := Cells.far S00.out (by show g0 ≠ B; have := HBX.out; omega) _
      have S11 : Hid (Cells (wr.setCell ⟨B, 6, none⟩ (.int .u8 0)) g1 46 #[.int .i32 5, .int .i32 6, .int .i32 (-2048), .int .i32 2048, .int .u8 1, .int .u8 40]) := Cells.far S01.out (by show g1 ≠ B; have := HBX.out; omega) _
      have S13 : Hid (Cells (wr.setCell ⟨B, 6, none⟩ (.int .u8 0)) g3 46 #[.int .i32 5, .int .i32 6, .int .i32 (-2048), .int .i32 2048, .int .u8 1, .int .u8 40]) := Cells.far S03.out (by show g3 ≠ B; have := HBX.out; omega) _
      have S14 : Hid (Cells (wr.setCell ⟨B, 6, none⟩ (.int .u8 0)) g4 46 #[.int .i32 5, .int .i32 6, .int .i32 (-2048), .int .i32 2048, .int .u8 1, .int .u8 40]) := Cells.far S04.out (by show g4 ≠ B; have := HBX.out; omega) _
      have S15 : Hid (Cells (wr.setCell ⟨B, 6, none⟩ (.int .u8 0)) g5 46 #[.int .i32 5, .int .i32 6, .int .i32 (-2048), .int .i32 2048, .int .u8 1, .int .u8 40]) := Cells.far S05.out (by show g5 ≠ B; have := HBX.out; omega) _
      have S16 : Hid (Cells (wr.setCell ⟨B, 6, none⟩ (.int .u8 0)) g6 46 #[.int .i32 5, .int .i32 6, .int .i32 (-2048), .int .i32 2048, .int .u8 1, .int .u8 40]) := Cells.far S06.out (by show g6 ≠ B; have := HBX.out; omega) _
      have S17 : Hid (Cells (wr.setCell ⟨B, 6, none⟩ (.int .u8 0)) g7 46 #[.int .i32 5, .int .i32 6, .int .i32 (-2048), .int .i32 2048, .int .u8 1, .int .u8 40]) := Cells.far S07.out (by show g7 ≠ B; have := HBX.out; omega) _
      have S18 : Hid (Cells (wr.setCell ⟨B, 6, none⟩ (.int .u8 0)) g8 46 #[.int .i32 5, .int .i32 6, .int .i32 (-2048), .int .i32 2048, .int .u8 1, .int .u8 40]) := Cells.far S08.out (by show g8 ≠ B; have := HBX.out; omega) _
      have HB1 : Hid (Below w.heap.size w (wr.setCell ⟨B, 6, none⟩ (.int .u8 0))) := HB0.out.setCell hBw _
      have HT1 : Hid (Tab (wr.setCell ⟨B, 6, none⟩ (.int .u8 0))) := tab_grown HT0.out (grown_set wr B 6 _) (fun e => by injection e with e; omega)
      clear c1 f1 HC0 HB0 HT0 S00 S01 S03 S04 S05 S06 S07 S08
      generalize (wr.setCell ⟨B, 6, none⟩ (.int .u8 0)) = m1 at *
      obtain ⟨v2, c2⟩ := cell_some HC1.out 30 (by rw [show (_ : Array Value).size = 171 from by simp only [Array.size_setIfInBounds]; exact nine_size _ (by simp)]; omega)
      have f2 := HC1.out.frozen 30
      go_upto_region 11 with fail
      have HC2 : Hid (Cells (m1.setCell ⟨B, 30, none⟩ (.int .i32 1025)) B 30 (((nine [g0, g1, g2, g3, g4, g5, g6, g7, g8]).setIfInBounds 6 (.int .u8 0)).setIfInBounds 30 (.int .i32 1025))) := HC1.out.set 30 _
      have S20 : Hid (Cells (m1.setCell ⟨B, 30, none⟩ (.int .i32 1025)) g0 46 #[.int .i32 5, .int .i32 6, .int .i32 (-2048), .int .i32 2048, .int .u8 1, .int .u8 40]) := Cells.far S10.out (by show g0 ≠ B; have := HBX.out; omega) _
      have S21 : Hid (Cells (m1.setCell ⟨B, 30, none⟩ (.int .i32 1025)) g1 46 #[.int .i32 5, .int .i32 6, .int .i32 (-2048), .int .i32 2048, .int .u8 1, .int .u8 40]) := Cells.far S11.out (by show g1 ≠ B; have := HBX.out; omega) _
      have S23 : Hid (Cells (m1.setCell ⟨B, 30, none⟩ (.int .i32 1025)) g3 46 #[.int .i32 5, .int .i32 6, .int .i32 (-2048), .int .i32 2048, .int .u8 1, .int .u8 40]) := Cells.far S13.out (by show g3 ≠ B; have := HBX.out; omega) _
      have S24 : Hid (Cells (m1.setCell ⟨B, 30, none⟩ (.int .i32 1025)) g4 46 #[.int .i32 5, .int .i32 6, .int .i32 (-2048), .int .i32 2048, .int .u8 1, .int .u8 40]) := Cells.far S14.out (by show g4 ≠ B; have := HBX.out; omega) _
      have S25 : Hid (Cells (m1.setCell ⟨B, 30, none⟩ (.int .i32 1025)) g5 46 #[.int .i32 5, .int .i32 6, .int .i32 (-2048), .int .i32 2048, .int .u8 1, .int .u8 40]) := Cells.far S15.out (by show g5 ≠ B; have := HBX.out; omega) _
      have S26 : Hid (Cells (m1.setCell ⟨B, 30, none⟩ (.int .i32 1025)) g6 46 #[.int .i32 5, .int .i32 6, .int .i32 (-2048), .int .i32 2048, .int .u8 1, .int .u8 40]) := Cells.far S16.out (by show g6 ≠ B; have := HBX.out; omega) _
      have S27 : Hid (Cells (m1.setCell ⟨B, 30, none⟩ (.int .i32 1025)) g7 46 #[.int .i32 5, .int .i32 6, .int .i32 (-2048), .int .i32 2048, .int .u8 1, .int .u8 40]) := Cells.far S17.out (by show g7 ≠ B; have := HBX.out; omega) _
      have S28 : Hid (Cells (m1.setCell ⟨B, 30, none⟩ (.int .i32 1025)) g8 46 #[.int .i32 5, .int .i32 6, .int .i32 (-2048), .int .i32 2048, .int .u8 1, .int .u8 40]) := Cells.far S18.out (by show g8 ≠ B; have := HBX.out; omega) _
      have HB2 : Hid (Below w.heap.size w (m1.setCell ⟨B, 30, none⟩ (.int .i32 1025))) := HB1.out.setCell hBw _
      have HT2 : Hid (Tab (m1.setCell ⟨B, 30, none⟩ (.int .i32 1025))) := tab_grown HT1.out (grown_set m1 B 30 _) (fun e => by injection e with e; omega)
      clear c2 f2 HC1 HB1 HT1 S10 S11 S13 S14 S15 S16 S17 S18
      generalize (m1.setCell ⟨B, 30, none⟩ (.int .i32 1025)) = m2 at *
      obtain ⟨v3, c3⟩ := cell_some (HC2.out.alloc (.cells zsh 46)) 54 (by rw [show (_ : Array Value).size = 171 from by simp only [Array.size_setIfInBounds]; exact nine_size _ (by simp)]; omega)
      have f3 := (HC2.out.alloc (.cells zsh 46)).frozen 54
      have hm9 := make_shots m2
      have hlW := Cells.lt HC2.out
      have hgl : ∀ k, g8 = k → k < m2.heap.size := fun k e => by subst e; exact Cells.lt S28.out
      have hg8 := hgl g8 rfl
      go_upto_region 12 with fail
      have HC3 : Hid (Cells ((m2.setCell ⟨B, 54, none⟩ (.slice (some ⟨m2.heap.size, 0, none⟩) 9 9)).alloc (.cells zsh 46)) B 30 ((((nine [g0, g1, g2, g3, g4, g5, g6, g7, g8]).setIfInBounds 6 (.int .u8 0)).setIfInBounds 30 (.int .i32 1025)).setIfInBounds 54 (.slice (some ⟨m2.heap.size, 0, none⟩) 9 9))) := (HC2.out.set 54 _).alloc _
      have S30 : Hid (Cells ((m2.setCell ⟨B, 54, none⟩ (.slice (some ⟨m2.heap.size, 0, none⟩) 9 9)).alloc (.cells zsh 46)) g0 46 #[.int .i32 5, .int .i32 6, .int .i32 (-2048), .int .i32 2048, .int .u8 1, .int .u8 40]) := Cells.alloc (Cells.far S20.out (by show g0 ≠ B; have := HBX.out; omega) _) _
      have S31 : Hid (Cells ((m2.setCell ⟨B, 54, none⟩ (.slice (some ⟨m2.heap.size, 0, none⟩) 9 9)).alloc (.cells zsh 46)) g1 46 #[.int .i32 5, .int .i32 6, .int .i32 (-2048), .int .i32 2048, .int .u8 1, .int .u8 40]) := Cells.alloc (Cells.far S21.out (by show g1 ≠ B; have := HBX.out; omega) _) _
      have S33 : Hid (Cells ((m2.setCell ⟨B, 54, none⟩ (.slice (some ⟨m2.heap.size, 0, none⟩) 9 9)).alloc (.cells zsh 46)) g3 46 #[.int .i32 5, .int .i32 6, .int .i32 (-2048), .int .i32 2048, .int .u8 1, .int .u8 40]) := Cells.alloc (Cells.far S23.out (by show g3 ≠ B; have := HBX.out; omega) _) _
      have S34 : Hid (Cells ((m2.setCell ⟨B, 54, none⟩ (.slice (some ⟨m2.heap.size, 0, none⟩) 9 9)).alloc (.cells zsh 46)) g4 46 #[.int .i32 5, .int .i32 6, .int .i32 (-2048), .int .i32 2048, .int .u8 1, .int .u8 40]) := Cells.alloc (Cells.far S24.out (by show g4 ≠ B; have := HBX.out; omega) _) _
      have S35 : Hid (Cells ((m2.setCell ⟨B, 54, none⟩ (.slice (some ⟨m2.heap.size, 0, none⟩) 9 9)).alloc (.cells zsh 46)) g5 46 #[.int .i32 5, .int .i32 6, .int .i32 (-2048), .int .i32 2048, .int .u8 1, .int .u8 40]) := Cells.alloc (Cells.far S25.out (by show g5 ≠ B; have := HBX.out; omega) _) _
      have S36 : Hid (Cells ((m2.setCell ⟨B, 54, none⟩ (.slice (some ⟨m2.heap.size, 0, none⟩) 9 9)).alloc (.cells zsh 46)) g6 46 #[.int .i32 5, .int .i32 6, .int .i32 (-2048), .int .i32 2048, .int .u8 1, .int .u8 40]) := Cells.alloc (Cells.far S26.out (by show g6 ≠ B; have := HBX.out; omega) _) _
      have S37 : Hid (Cells ((m2.setCell ⟨B, 54, none⟩ (.slice (some ⟨m2.heap.size, 0, none⟩) 9 9)).alloc (.cells zsh 46)) g7 46 #[.int .i32 5, .int .i32 6, .int .i32 (-2048), .int .i32 2048, .int .u8 1, .int .u8 40]) := Cells.alloc (Cells.far S27.out (by show g7 ≠ B; have := HBX.out; omega) _) _
      have S38 : Hid (Cells ((m2.setCell ⟨B, 54, none⟩ (.slice (some ⟨m2.heap.size, 0, none⟩) 9 9)).alloc (.cells zsh 46)) g8 46 #[.int .i32 5, .int .i32 6, .int .i32 (-2048), .int .i32 2048, .int .u8 1, .int .u8 40]) := Cells.alloc (Cells.far S28.out (by show g8 ≠ B; have := HBX.out; omega) _) _
      have S32 : Hid (Cells ((m2.setCell ⟨B, 54, none⟩ (.slice (some ⟨m2.heap.size, 0, none⟩) 9 9)).alloc (.cells zsh 46)) m2.heap.size 46 zsh) := by
        have h := Cells.made (m2.setCell ⟨B, 54, none⟩ (.slice (some ⟨m2.heap.size, 0, none⟩) 9 9)) 46 zsh
        rw [show (m2.setCell ⟨B, 54, none⟩ (.slice (some ⟨m2.heap.size, 0, none⟩) 9 9)).heap.size = m2.heap.size by simp [World.setCell]] at h
        exact h
      have HB3 : Hid (Below w.heap.size w ((m2.setCell ⟨B, 54, none⟩ (.slice (some ⟨m2.heap.size, 0, none⟩) 9 9)).alloc (.cells zsh 46))) := (HB2.out.setCell hBw _).alloc (by have := HB2.out.size; simp [World.setCell]; exact this) _
      have HT3 : Hid (Tab ((m2.setCell ⟨B, 54, none⟩ (.slice (some ⟨m2.heap.size, 0, none⟩) 9 9)).alloc (.cells zsh 46))) := tab_grown (tab_grown HT2.out (grown_set m2 B 54 _) (fun e => by injection e with e; omega)) (grown_alloc _ _) (by simp)
      have HM : Hid (B < m2.heap.size ∧ g0 < m2.heap.size ∧ g1 < m2.heap.size ∧ g3 < m2.heap.size ∧ g4 < m2.heap.size ∧ g5 < m2.heap.size ∧ g6 < m2.heap.size ∧ g7 < m2.heap.size ∧ g8 < m2.heap.size) := ⟨hlW, Cells.lt S20.out, Cells.lt S21.out, Cells.lt S23.out, Cells.lt S24.out, Cells.lt S25.out, Cells.lt S26.out, Cells.lt S27.out, hg8⟩
      clear hm9 hgl
      clear c3 f3 HC2 HB2 HT2 S20 S21 S23 S24 S25 S26 S27 S28
      generalize ((m2.setCell ⟨B, 54, none⟩ (.slice (some ⟨m2.heap.size, 0, none⟩) 9 9)).alloc (.cells zsh 46)) = m3 at *
      generalize m2.heap.size = gm at *
      clear hlW hg8
      have d4 : m3.cell? ⟨B, 73, none⟩ = some (.slice (some ⟨g3, 0, none⟩) 1 1) := by rw [HC3.out.cell]; rfl
      obtain ⟨v4, c4⟩ := cell_some S33.out 5 (by simp)
      have f4 := S33.out.frozen 5
      go_upto_region 13 with fail
      have HC4 : Hid (Cells (m3.setCell ⟨g3, 5, none⟩ (.int .u8 0)) B 30 ((((nine [g0, g1, g2, g3, g4, g5, g6, g7, g8]).setIfInBounds 6 (.int .u8 0)).setIfInBounds 30 (.int .i32 1025)).setIfInBounds 54 (.slice (some ⟨gm, 0, none⟩) 9 9))) := Cells.far HC3.out (by show B ≠ g3; have := HBX.out; omega) _
      have S40 : Hid (Cells (m3.setCell ⟨g3, 5, none⟩ (.int .u8 0)) g0 46 #[.int .i32 5, .int .i32 6, .int .i32 (-2048), .int .i32 2048, .int .u8 1, .int .u8 40]) := Cells.far S30.out (by show g0 ≠ g3; have := HPX.out; omega) _
      have S41 : Hid (Cells (m3.setCell ⟨g3, 5, none⟩ (.int .u8 0)) g1 46 #[.int .i32 5, .int .i32 6, .int .i32 (-2048), .int .i32 2048, .int .u8 1, .int .u8 40]) := Cells.far S31.out (by show g1 ≠ g3; have := HPX.out; omega) _
      have S43 : Hid (Cells (m3.setCell ⟨g3, 5, none⟩ (.int .u8 0)) g3 46 (#[.int .i32 5, .int .i32 6, .int .i32 (-2048), .int .i32 2048, .int .u8 1, .int .u8 40].setIfInBounds 5 (.int .u8 0))) := S33.out.set 5 _
      have S44 : Hid (Cells (m3.setCell ⟨g3, 5, none⟩ (.int .u8 0)) g4 46 #[.int .i32 5, .int .i32 6, .int .i32 (-2048), .int .i32 2048, .int .u8 1, .int .u8 40]) := Cells.far S34.out (by show g4 ≠ g3; have := HPX.out; omega) _
      have S45 : Hid (Cells (m3.setCell ⟨g3, 5, none⟩ (.int .u8 0)) g5 46 #[.int .i32 5, .int .i32 6, .int .i32 (-2048), .int .i32 2048, .int .u8 1, .int .u8 40]) := Cells.far S35.out (by show g5 ≠ g3; have := HPX.out; omega) _
      have S46 : Hid (Cells (m3.setCell ⟨g3, 5, none⟩ (.int .u8 0)) g6 46 #[.int .i32 5, .int .i32 6, .int .i32 (-2048), .int .i32 2048, .int .u8 1, .int .u8 40]) := Cells.far S36.out (by show g6 ≠ g3; have := HPX.out; omega) _
      have S47 : Hid (Cells (m3.setCell ⟨g3, 5, none⟩ (.int .u8 0)) g7 46 #[.int .i32 5, .int .i32 6, .int .i32 (-2048), .int .i32 2048, .int .u8 1, .int .u8 40]) := Cells.far S37.out (by show g7 ≠ g3; have := HPX.out; omega) _
      have S48 : Hid (Cells (m3.setCell ⟨g3, 5, none⟩ (.int .u8 0)) g8 46 #[.int .i32 5, .int .i32 6, .int .i32 (-2048), .int .i32 2048, .int .u8 1, .int .u8 40]) := Cells.far S38.out (by show g8 ≠ g3; have := HPX.out; omega) _
      have S42 : Hid (Cells (m3.setCell ⟨g3, 5, none⟩ (.int .u8 0)) gm 46 zsh) := Cells.far S32.out (by show gm ≠ g3; have := HM.out; omega) _
      have HB4 : Hid (Below w.heap.size w (m3.setCell ⟨g3, 5, none⟩ (.int .u8 0))) := HB3.out.setCell (by show w.heap.size ≤ g3; have := HBX.out; omega) _
      have HT4 : Hid (Tab (m3.setCell ⟨g3, 5, none⟩ (.int .u8 0))) := tab_grown HT3.out (grown_set m3 g3 5 _) (fun e => by have := HBX.out; injection e with e; omega)
      clear d4
      clear c4 f4 HC3 HB3 HT3 S30 S31 S33 S34 S35 S36 S37 S38 S32
      generalize (m3.setCell ⟨g3, 5, none⟩ (.int .u8 0)) = m4 at *
      obtain ⟨v5, c5⟩ := cell_some HC4.out 78 (by rw [show (_ : Array Value).size = 171 from by simp only [Array.size_setIfInBounds]; exact nine_size _ (by simp)]; omega)
      have f5 := HC4.out.frozen 78
      go_upto_region 14 with fail
      have HC5 : Hid (Cells (m4.setCell ⟨B, 78, none⟩ (.int .i32 61441)) B 30 (((((nine [g0, g1, g2, g3, g4, g5, g6, g7, g8]).setIfInBounds 6 (.int .u8 0)).setIfInBounds 30 (.int .i32 1025)).setIfInBounds 54 (.slice (some ⟨gm, 0, none⟩) 9 9)).setIfInBounds 78 (.int .i32 61441))) := HC4.out.set 78 _
      have S50 : Hid (Cells (m4.setCell ⟨B, 78, none⟩ (.int .i32 61441)) g0 46 #[.int .i32 5, .int .i32 6, .int .i32 (-2048), .int .i32 2048, .int .u8 1, .int .u8 40]) := Cells.far S40.out (by show g0 ≠ B; have := HBX.out; omega) _
      have S51 : Hid (Cells (m4.setCell ⟨B, 78, none⟩ (.int .i32 61441)) g1 46 #[.int .i32 5, .int .i32 6, .int .i32 (-2048), .int .i32 2048, .int .u8 1, .int .u8 40]) := Cells.far S41.out (by show g1 ≠ B; have := HBX.out; omega) _
      have S53 : Hid (Cells (m4.setCell ⟨B, 78, none⟩ (.int .i32 61441)) g3 46 (#[.int .i32 5, .int .i32 6, .int .i32 (-2048), .int .i32 2048, .int .u8 1, .int .u8 40].setIfInBounds 5 (.int .u8 0))) := Cells.far S43.out (by show g3 ≠ B; have := HBX.out; omega) _
      have S54 : Hid (Cells (m4.setCell ⟨B, 78, none⟩ (.int .i32 61441)) g4 46 #[.int .i32 5, .int .i32 6, .int .i32 (-2048), .int .i32 2048, .int .u8 1, .int .u8 40]) := Cells.far S44.out (by show g4 ≠ B; have := HBX.out; omega) _
      have S55 : Hid (Cells (m4.setCell ⟨B, 78, none⟩ (.int .i32 61441)) g5 46 #[.int .i32 5, .int .i32 6, .int .i32 (-2048), .int .i32 2048, .int .u8 1, .int .u8 40]) := Cells.far S45.out (by show g5 ≠ B; have := HBX.out; omega) _
      have S56 : Hid (Cells (m4.setCell ⟨B, 78, none⟩ (.int .i32 61441)) g6 46 #[.int .i32 5, .int .i32 6, .int .i32 (-2048), .int .i32 2048, .int .u8 1, .int .u8 40]) := Cells.far S46.out (by show g6 ≠ B; have := HBX.out; omega) _
      have S57 : Hid (Cells (m4.setCell ⟨B, 78, none⟩ (.int .i32 61441)) g7 46 #[.int .i32 5, .int .i32 6, .int .i32 (-2048), .int .i32 2048, .int .u8 1, .int .u8 40]) := Cells.far S47.out (by show g7 ≠ B; have := HBX.out; omega) _
      have S58 : Hid (Cells (m4.setCell ⟨B, 78, none⟩ (.int .i32 61441)) g8 46 #[.int .i32 5, .int .i32 6, .int .i32 (-2048), .int .i32 2048, .int .u8 1, .int .u8 40]) := Cells.far S48.out (by show g8 ≠ B; have := HBX.out; omega) _
      have S52 : Hid (Cells (m4.setCell ⟨B, 78, none⟩ (.int .i32 61441)) gm 46 zsh) := Cells.far S42.out (by show gm ≠ B; have := HM.out; omega) _
      have HB5 : Hid (Below w.heap.size w (m4.setCell ⟨B, 78, none⟩ (.int .i32 61441))) := HB4.out.setCell hBw _
      have HT5 : Hid (Tab (m4.setCell ⟨B, 78, none⟩ (.int .i32 61441))) := tab_grown HT4.out (grown_set m4 B 78 _) (fun e => by injection e with e; omega)
      clear c5 f5 HC4 HB4 HT4 S40 S41 S43 S44 S45 S46 S47 S48 S42
      generalize (m4.setCell ⟨B, 78, none⟩ (.int .i32 61441)) = m5 at *
      obtain ⟨v6, c6⟩ := cell_some HC5.out 98 (by rw [show (_ : Array Value).size = 171 from by simp only [Array.size_setIfInBounds]; exact nine_size _ (by simp)]; omega)
      have f6 := HC5.out.frozen 98
      go_upto_region 15 with fail
      have HC6 : Hid (Cells (m5.setCell ⟨B, 98, none⟩ (.int .i32 (-1))) B 30 ((((((nine [g0, g1, g2, g3, g4, g5, g6, g7, g8]).setIfInBounds 6 (.int .u8 0)).setIfInBounds 30 (.int .i32 1025)).setIfInBounds 54 (.slice (some ⟨gm, 0, none⟩) 9 9)).setIfInBounds 78 (.int .i32 61441)).setIfInBounds 98 (.int .i32 (-1)))) := HC5.out.set 98 _
      have S60 : Hid (Cells (m5.setCell ⟨B, 98, none⟩ (.int .i32 (-1))) g0 46 #[.int .i32 5, .int .i32 6, .int .i32 (-2048), .int .i32 2048, .int .u8 1, .int .u8 40]) := Cells.far S50.out (by show g0 ≠ B; have := HBX.out; omega) _
      have S61 : Hid (Cells (m5.setCell ⟨B, 98, none⟩ (.int .i32 (-1))) g1 46 #[.int .i32 5, .int .i32 6, .int .i32 (-2048), .int .i32 2048, .int .u8 1, .int .u8 40]) := Cells.far S51.out (by show g1 ≠ B; have := HBX.out; omega) _
      have S63 : Hid (Cells (m5.setCell ⟨B, 98, none⟩ (.int .i32 (-1))) g3 46 (#[.int .i32 5, .int .i32 6, .int .i32 (-2048), .int .i32 2048, .int .u8 1, .int .u8 40].setIfInBounds 5 (.int .u8 0))) := Cells.far S53.out (by show g3 ≠ B; have := HBX.out; omega) _
      have S64 : Hid (Cells (m5.setCell ⟨B, 98, none⟩ (.int .i32 (-1))) g4 46 #[.int .i32 5, .int .i32 6, .int .i32 (-2048), .int .i32 2048, .int .u8 1, .int .u8 40]) := Cells.far S54.out (by show g4 ≠ B; have := HBX.out; omega) _
      have S65 : Hid (Cells (m5.setCell ⟨B, 98, none⟩ (.int .i32 (-1))) g5 46 #[.int .i32 5, .int .i32 6, .int .i32 (-2048), .int .i32 2048, .int .u8 1, .int .u8 40]) := Cells.far S55.out (by show g5 ≠ B; have := HBX.out; omega) _
      have S66 : Hid (Cells (m5.setCell ⟨B, 98, none⟩ (.int .i32 (-1))) g6 46 #[.int .i32 5, .int .i32 6, .int .i32 (-2048), .int .i32 2048, .int .u8 1, .int .u8 40]) := Cells.far S56.out (by show g6 ≠ B; have := HBX.out; omega) _
      have S67 : Hid (Cells (m5.setCell ⟨B, 98, none⟩ (.int .i32 (-1))) g7 46 #[.int .i32 5, .int .i32 6, .int .i32 (-2048), .int .i32 2048, .int .u8 1, .int .u8 40]) := Cells.far S57.out (by show g7 ≠ B; have := HBX.out; omega) _
      have S68 : Hid (Cells (m5.setCell ⟨B, 98, none⟩ (.int .i32 (-1))) g8 46 #[.int .i32 5, .int .i32 6, .int .i32 (-2048), .int .i32 2048, .int .u8 1, .int .u8 40]) := Cells.far S58.out (by show g8 ≠ B; have := HBX.out; omega) _
      have S62 : Hid (Cells (m5.setCell ⟨B, 98, none⟩ (.int .i32 (-1))) gm 46 zsh) := Cells.far S52.out (by show gm ≠ B; have := HM.out; omega) _
      have HB6 : Hid (Below w.heap.size w (m5.setCell ⟨B, 98, none⟩ (.int .i32 (-1)))) := HB5.out.setCell hBw _
      have HT6 : Hid (Tab (m5.setCell ⟨B, 98, none⟩ (.int .i32 (-1)))) := tab_grown HT5.out (grown_set m5 B 98 _) (fun e => by injection e with e; omega)
      clear c6 f6 HC5 HB5 HT5 S50 S51 S53 S54 S55 S56 S57 S58 S52
      generalize (m5.setCell ⟨B, 98, none⟩ (.int .i32 (-1))) = m6 at *
      have d7 : m6.cell? ⟨B, 130, none⟩ = some (.slice (some ⟨g6, 0, none⟩) 1 1) := by rw [HC6.out.cell]; rfl
      obtain ⟨v7, c7⟩ := cell_some S66.out 3 (by simp)
      have f7 := S66.out.frozen 3
      go_upto_region 16 with fail
      have HC7 : Hid (Cells (m6.setCell ⟨g6, 3, none⟩ (.int .i32 2049)) B 30 ((((((nine [g0, g1, g2, g3, g4, g5, g6, g7, g8]).setIfInBounds 6 (.int .u8 0)).setIfInBounds 30 (.int .i32 1025)).setIfInBounds 54 (.slice (some ⟨gm, 0, none⟩) 9 9)).setIfInBounds 78 (.int .i32 61441)).setIfInBounds 98 (.int .i32 (-1)))) := Cells.far HC6.out (by show B ≠ g6; have := HBX.out; omega) _
      have S70 : Hid (Cells (m6.setCell ⟨g6, 3, none⟩ (.int .i32 2049)) g0 46 #[.int .i32 5, .int .i32 6, .int .i32 (-2048), .int .i32 2048, .int .u8 1, .int .u8 40]) := Cells.far S60.out (by show g0 ≠ g6; have := HPX.out; omega) _
      have S71 : Hid (Cells (m6.setCell ⟨g6, 3, none⟩ (.int .i32 2049)) g1 46 #[.int .i32 5, .int .i32 6, .int .i32 (-2048), .int .i32 2048, .int .u8 1, .int .u8 40]) := Cells.far S61.out (by show g1 ≠ g6; have := HPX.out; omega) _
      have S73 : Hid (Cells (m6.setCell ⟨g6, 3, none⟩ (.int .i32 2049)) g3 46 (#[.int .i32 5, .int .i32 6, .int .i32 (-2048), .int .i32 2048, .int .u8 1, .int .u8 40].setIfInBounds 5 (.int .u8 0))) := Cells.far S63.out (by show g3 ≠ g6; have := HPX.out; omega) _
      have S74 : Hid (Cells (m6.setCell ⟨g6, 3, none⟩ (.int .i32 2049)) g4 46 #[.int .i32 5, .int .i32 6, .int .i32 (-2048), .int .i32 2048, .int .u8 1, .int .u8 40]) := Cells.far S64.out (by show g4 ≠ g6; have := HPX.out; omega) _
      have S75 : Hid (Cells (m6.setCell ⟨g6, 3, none⟩ (.int .i32 2049)) g5 46 #[.int .i32 5, .int .i32 6, .int .i32 (-2048), .int .i32 2048, .int .u8 1, .int .u8 40]) := Cells.far S65.out (by show g5 ≠ g6; have := HPX.out; omega) _
      have S76 : Hid (Cells (m6.setCell ⟨g6, 3, none⟩ (.int .i32 2049)) g6 46 (#[.int .i32 5, .int .i32 6, .int .i32 (-2048), .int .i32 2048, .int .u8 1, .int .u8 40].setIfInBounds 3 (.int .i32 2049))) := S66.out.set 3 _
      have S77 : Hid (Cells (m6.setCell ⟨g6, 3, none⟩ (.int .i32 2049)) g7 46 #[.int .i32 5, .int .i32 6, .int .i32 (-2048), .int .i32 2048, .int .u8 1, .int .u8 40]) := Cells.far S67.out (by show g7 ≠ g6; have := HPX.out; omega) _
      have S78 : Hid (Cells (m6.setCell ⟨g6, 3, none⟩ (.int .i32 2049)) g8 46 #[.int .i32 5, .int .i32 6, .int .i32 (-2048), .int .i32 2048, .int .u8 1, .int .u8 40]) := Cells.far S68.out (by show g8 ≠ g6; have := HPX.out; omega) _
      have S72 : Hid (Cells (m6.setCell ⟨g6, 3, none⟩ (.int .i32 2049)) gm 46 zsh) := Cells.far S62.out (by show gm ≠ g6; have := HM.out; omega) _
      have HB7 : Hid (Below w.heap.size w (m6.setCell ⟨g6, 3, none⟩ (.int .i32 2049))) := HB6.out.setCell (by show w.heap.size ≤ g6; have := HBX.out; omega) _
      have HT7 : Hid (Tab (m6.setCell ⟨g6, 3, none⟩ (.int .i32 2049))) := tab_grown HT6.out (grown_set m6 g6 3 _) (fun e => by have := HBX.out; injection e with e; omega)
      clear d7
      clear c7 f7 HC6 HB6 HT6 S60 S61 S63 S64 S65 S66 S67 S68 S62
      generalize (m6.setCell ⟨g6, 3, none⟩ (.int .i32 2049)) = m7 at *
      have d8 : m7.cell? ⟨B, 149, none⟩ = some (.slice (some ⟨g7, 0, none⟩) 1 1) := by rw [HC7.out.cell]; rfl
      obtain ⟨v8, c8⟩ := cell_some S77.out 4 (by simp)
      have f8 := S77.out.frozen 4
      go_upto_region 17 with fail
      have HC8 : Hid (Cells (m7.setCell ⟨g7, 4, none⟩ (.int .u8 2)) B 30 ((((((nine [g0, g1, g2, g3, g4, g5, g6, g7, g8]).setIfInBounds 6 (.int .u8 0)).setIfInBounds 30 (.int .i32 1025)).setIfInBounds 54 (.slice (some ⟨gm, 0, none⟩) 9 9)).setIfInBounds 78 (.int .i32 61441)).setIfInBounds 98 (.int .i32 (-1)))) := Cells.far HC7.out (by show B ≠ g7; have := HBX.out; omega) _
      have S80 : Hid (Cells (m7.setCell ⟨g7, 4, none⟩ (.int .u8 2)) g0 46 #[.int .i32 5, .int .i32 6, .int .i32 (-2048), .int .i32 2048, .int .u8 1, .int .u8 40]) := Cells.far S70.out (by show g0 ≠ g7; have := HPX.out; omega) _
      have S81 : Hid (Cells (m7.setCell ⟨g7, 4, none⟩ (.int .u8 2)) g1 46 #[.int .i32 5, .int .i32 6, .int .i32 (-2048), .int .i32 2048, .int .u8 1, .int .u8 40]) := Cells.far S71.out (by show g1 ≠ g7; have := HPX.out; omega) _
      have S83 : Hid (Cells (m7.setCell ⟨g7, 4, none⟩ (.int .u8 2)) g3 46 (#[.int .i32 5, .int .i32 6, .int .i32 (-2048), .int .i32 2048, .int .u8 1, .int .u8 40].setIfInBounds 5 (.int .u8 0))) := Cells.far S73.out (by show g3 ≠ g7; have := HPX.out; omega) _
      have S84 : Hid (Cells (m7.setCell ⟨g7, 4, none⟩ (.int .u8 2)) g4 46 #[.int .i32 5, .int .i32 6, .int .i32 (-2048), .int .i32 2048, .int .u8 1, .int .u8 40]) := Cells.far S74.out (by show g4 ≠ g7; have := HPX.out; omega) _
      have S85 : Hid (Cells (m7.setCell ⟨g7, 4, none⟩ (.int .u8 2)) g5 46 #[.int .i32 5, .int .i32 6, .int .i32 (-2048), .int .i32 2048, .int .u8 1, .int .u8 40]) := Cells.far S75.out (by show g5 ≠ g7; have := HPX.out; omega) _
      have S86 : Hid (Cells (m7.setCell ⟨g7, 4, none⟩ (.int .u8 2)) g6 46 (#[.int .i32 5, .int .i32 6, .int .i32 (-2048), .int .i32 2048, .int .u8 1, .int .u8 40].setIfInBounds 3 (.int .i32 2049))) := Cells.far S76.out (by show g6 ≠ g7; have := HPX.out; omega) _
      have S87 : Hid (Cells (m7.setCell ⟨g7, 4, none⟩ (.int .u8 2)) g7 46 (#[.int .i32 5, .int .i32 6, .int .i32 (-2048), .int .i32 2048, .int .u8 1, .int .u8 40].setIfInBounds 4 (.int .u8 2))) := S77.out.set 4 _
      have S88 : Hid (Cells (m7.setCell ⟨g7, 4, none⟩ (.int .u8 2)) g8 46 #[.int .i32 5, .int .i32 6, .int .i32 (-2048), .int .i32 2048, .int .u8 1, .int .u8 40]) := Cells.far S78.out (by show g8 ≠ g7; have := HPX.out; omega) _
      have S82 : Hid (Cells (m7.setCell ⟨g7, 4, none⟩ (.int .u8 2)) gm 46 zsh) := Cells.far S72.out (by show gm ≠ g7; have := HM.out; omega) _
      have HB8 : Hid (Below w.heap.size w (m7.setCell ⟨g7, 4, none⟩ (.int .u8 2))) := HB7.out.setCell (by show w.heap.size ≤ g7; have := HBX.out; omega) _
      have HT8 : Hid (Tab (m7.setCell ⟨g7, 4, none⟩ (.int .u8 2))) := tab_grown HT7.out (grown_set m7 g7 4 _) (fun e => by have := HBX.out; injection e with e; omega)
      clear d8
      clear c8 f8 HC7 HB7 HT7 S70 S71 S73 S74 S75 S76 S77 S78 S72
      generalize (m7.setCell ⟨g7, 4, none⟩ (.int .u8 2)) = m8 at *
      obtain ⟨v9, c9⟩ := cell_some HC8.out 167 (by rw [show (_ : Array Value).size = 171 from by simp only [Array.size_setIfInBounds]; exact nine_size _ (by simp)]; omega)
      have f9 := HC8.out.frozen 167
      go_upto_region 18 with fail
      have HC9 : Hid (Cells (m8.setCell ⟨B, 167, none⟩ (.int .u8 4)) B 30 (((((((nine [g0, g1, g2, g3, g4, g5, g6, g7, g8]).setIfInBounds 6 (.int .u8 0)).setIfInBounds 30 (.int .i32 1025)).setIfInBounds 54 (.slice (some ⟨gm, 0, none⟩) 9 9)).setIfInBounds 78 (.int .i32 61441)).setIfInBounds 98 (.int .i32 (-1))).setIfInBounds 167 (.int .u8 4))) := HC8.out.set 167 _
      have S90 : Hid (Cells (m8.setCell ⟨B, 167, none⟩ (.int .u8 4)) g0 46 #[.int .i32 5, .int .i32 6, .int .i32 (-2048), .int .i32 2048, .int .u8 1, .int .u8 40]) := Cells.far S80.out (by show g0 ≠ B; have := HBX.out; omega) _
      have S91 : Hid (Cells (m8.setCell ⟨B, 167, none⟩ (.int .u8 4)) g1 46 #[.int .i32 5, .int .i32 6, .int .i32 (-2048), .int .i32 2048, .int .u8 1, .int .u8 40]) := Cells.far S81.out (by show g1 ≠ B; have := HBX.out; omega) _
      have S93 : Hid (Cells (m8.setCell ⟨B, 167, none⟩ (.int .u8 4)) g3 46 (#[.int .i32 5, .int .i32 6, .int .i32 (-2048), .int .i32 2048, .int .u8 1, .int .u8 40].setIfInBounds 5 (.int .u8 0))) := Cells.far S83.out (by show g3 ≠ B; have := HBX.out; omega) _
      have S94 : Hid (Cells (m8.setCell ⟨B, 167, none⟩ (.int .u8 4)) g4 46 #[.int .i32 5, .int .i32 6, .int .i32 (-2048), .int .i32 2048, .int .u8 1, .int .u8 40]) := Cells.far S84.out (by show g4 ≠ B; have := HBX.out; omega) _
      have S95 : Hid (Cells (m8.setCell ⟨B, 167, none⟩ (.int .u8 4)) g5 46 #[.int .i32 5, .int .i32 6, .int .i32 (-2048), .int .i32 2048, .int .u8 1, .int .u8 40]) := Cells.far S85.out (by show g5 ≠ B; have := HBX.out; omega) _
      have S96 : Hid (Cells (m8.setCell ⟨B, 167, none⟩ (.int .u8 4)) g6 46 (#[.int .i32 5, .int .i32 6, .int .i32 (-2048), .int .i32 2048, .int .u8 1, .int .u8 40].setIfInBounds 3 (.int .i32 2049))) := Cells.far S86.out (by show g6 ≠ B; have := HBX.out; omega) _
      have S97 : Hid (Cells (m8.setCell ⟨B, 167, none⟩ (.int .u8 4)) g7 46 (#[.int .i32 5, .int .i32 6, .int .i32 (-2048), .int .i32 2048, .int .u8 1, .int .u8 40].setIfInBounds 4 (.int .u8 2))) := Cells.far S87.out (by show g7 ≠ B; have := HBX.out; omega) _
      have S98 : Hid (Cells (m8.setCell ⟨B, 167, none⟩ (.int .u8 4)) g8 46 #[.int .i32 5, .int .i32 6, .int .i32 (-2048), .int .i32 2048, .int .u8 1, .int .u8 40]) := Cells.far S88.out (by show g8 ≠ B; have := HBX.out; omega) _
      have S92 : Hid (Cells (m8.setCell ⟨B, 167, none⟩ (.int .u8 4)) gm 46 zsh) := Cells.far S82.out (by show gm ≠ B; have := HM.out; omega) _
      have HB9 : Hid (Below w.heap.size w (m8.setCell ⟨B, 167, none⟩ (.int .u8 4))) := HB8.out.setCell hBw _
      have HT9 : Hid (Tab (m8.setCell ⟨B, 167, none⟩ (.int .u8 4))) := tab_grown HT8.out (grown_set m8 B 167 _) (fun e => by injection e with e; omega)
      clear c9 f9 HC8 HB8 HT8 S80 S81 S83 S84 S85 S86 S87 S88 S82
      generalize (m8.setCell ⟨B, 167, none⟩ (.int .u8 4)) = m9 at *
      have HC9b : Hid (Cells m9 B 30 (bad9 g0 g1 g2 g3 g4 g5 g6 g7 g8 gm)) := HC9
      clear HC9
      have HC9 := HC9b
      clear HC9b
      have HALL : Hid (∀ k, k < 9 → ∃ (s : St) (ao : Option Addr) (cap : Nat), (bad9 g0 g1 g2 g3 g4 g5 g6 g7 g8 gm).extract (k * 19) (k * 19 + 19) = stc s ao cap ∧ Shs m9 ao s.ss ∧ s.fit ∧ s.good = false) := fun k hk => by
        have hk9 : k = 0 ∨ k = 1 ∨ k = 2 ∨ k = 3 ∨ k = 4 ∨ k = 5 ∨ k = 6 ∨ k = 7 ∨ k = 8 := by omega
        rcases hk9 with rfl | rfl | rfl | rfl | rfl | rfl | rfl | rfl | rfl
        · exact ⟨bs0, some ⟨g0, 0, none⟩, 1, bad9_0 g0 g1 g2 g3 g4 g5 g6 g7 g8 gm, shs_hall S90.out rfl (fun x hx => (fit_of (s := bs0) (by decide)).2.2.2.2.1 x hx), fit_of (by decide), by decide⟩
        · exact ⟨bs1, some ⟨g1, 0, none⟩, 1, bad9_1 g0 g1 g2 g3 g4 g5 g6 g7 g8 gm, shs_hall S91.out rfl (fun x hx => (fit_of (s := bs1) (by decide)).2.2.2.2.1 x hx), fit_of (by decide), by decide⟩
        · exact ⟨bs2, some ⟨gm, 0, none⟩, 9, bad9_2 g0 g1 g2 g3 g4 g5 g6 g7 g8 gm, shs_hall S92.out rfl (fun x hx => (fit_of (s := bs2) (by decide)).2.2.2.2.1 x hx), fit_of (by decide), by decide⟩
        · exact ⟨bs3, some ⟨g3, 0, none⟩, 1, bad9_3 g0 g1 g2 g3 g4 g5 g6 g7 g8 gm, shs_hall S93.out rfl (fun x hx => (fit_of (s := bs3) (by decide)).2.2.2.2.1 x hx), fit_of (by decide), by decide⟩
        · exact ⟨bs4, some ⟨g4, 0, none⟩, 1, bad9_4 g0 g1 g2 g3 g4 g5 g6 g7 g8 gm, shs_hall S94.out rfl (fun x hx => (fit_of (s := bs4) (by decide)).2.2.2.2.1 x hx), fit_of (by decide), by decide⟩
        · exact ⟨bs5, some ⟨g5, 0, none⟩, 1, bad9_5 g0 g1 g2 g3 g4 g5 g6 g7 g8 gm, shs_hall S95.out rfl (fun x hx => (fit_of (s := bs5) (by decide)).2.2.2.2.1 x hx), fit_of (by decide), by decide⟩
        · exact ⟨bs6, some ⟨g6, 0, none⟩, 1, bad9_6 g0 g1 g2 g3 g4 g5 g6 g7 g8 gm, shs_hall S96.out rfl (fun x hx => (fit_of (s := bs6) (by decide)).2.2.2.2.1 x hx), fit_of (by decide), by decide⟩
        · exact ⟨bs7, some ⟨g7, 0, none⟩, 1, bad9_7 g0 g1 g2 g3 g4 g5 g6 g7 g8 gm, shs_hall S97.out rfl (fun x hx => (fit_of (s := bs7) (by decide)).2.2.2.2.1 x hx), fit_of (by decide), by decide⟩
        · exact ⟨bs8, some ⟨g8, 0, none⟩, 1, bad9_8 g0 g1 g2 g3 g4 g5 g6 g7 g8 gm, shs_hall S98.out rfl (fun x hx => (fit_of (s := bs8) (by decide)).2.2.2.2.1 x hx), fit_of (by decide), by decide⟩
      have HA9 : Hid ((bad9 g0 g1 g2 g3 g4 g5 g6 g7 g8 gm).size = 171) := by
        show _ = _
        unfold bad9
        simp only [Array.size_setIfInBounds]
        exact nine_size _ (by simp)
      have hBl := Cells.lt HC9.out
      generalize bad9 g0 g1 g2 g3 g4 g5 g6 g7 g8 gm = A9 at *
      clear S90 S91 S92 S93 S94 S95 S96 S97 S98 HBX HPX HM
      go_wp2
      go_loopw [4] (fun v wr => ∃ k : Nat, k ≤ 9 ∧ v = .int .i64 k ∧ Hid (On m9.heap.size m9 wr)) (fun v _ => 9 - (intOf v).toNat)
      case atStart => exact ⟨0, by omega, rfl, On.refl _ _⟩
      case round =>
        obtain ⟨k, hk, rfl, HON⟩ := hrel
        by_cases hlt : k < 9
        · obtain ⟨s, ao, cap, he, hsh, hfit, hgood⟩ := HALL.out k hlt
          have hki : (k : Int) < 9 := by omega
          have l1 := run_loadStateAt _ B (k * 19) A9 _ (Cells.below HC9.out HON.out hBl) (by rw [HA9.out]; omega)
          rw [he] at l1
          have HSH := Lib.hid (Shs_grown hsh (on_grown HON.out) (by simp))
          have HTk := Lib.hid (tab_grown HT9.out (on_grown HON.out) (by simp))
          have hemp : (str []).toList.isEmpty = true := by rw [ByteArray.toList_eq, str_data]; rfl
          have HC : Hid (∀ W, Shs W ao s.ss → Tab W → Calls Tryd.prog 11 #[.agg (stc s ao cap)] W fun E w' => E = .returned (.int .i64 4) ∧ W.grownBy w' none) := fun W h1 h2 => by
            have := check_c s ao cap W h1 hfit h2
            rwa [chk_no hgood] at this
          have HP : Hid (∀ W, Shs W ao s.ss → Tab W → Calls Tryd.prog 13 #[.agg (stc s ao cap)] W fun E w' => E = .returned (.string (str [])) ∧ W.grownBy w' none) := fun W h1 h2 => by
            have := put_c s ao cap W h1 hfit h2
            rwa [sput_no hgood] at this
          have HE := Lib.hid he
          clear hsh hfit hgood he
          go_wp2_with fail
          refine (HC.out _ HSH.out HTk.out).mono ?_
          rintro E w2 ⟨rfl, hb2⟩
          have HON2 := Lib.hid (on_step HON.out hb2)
          have l2 := run_loadStateAt _ B (k * 19) A9 _ (Cells.below HC9.out HON2.out hBl) (by rw [HA9.out]; omega)
          rw [HE.out] at l2
          have HSH2 := Lib.hid (Shs_grown HSH.out hb2 (by simp))
          have HTk2 := Lib.hid (tab_grown HTk.out hb2 (by simp))
          clear hb2 l1 HSH HTk HON
          go_wp2_with fail
          refine (HP.out _ HSH2.out HTk2.out).mono ?_
          rintro E w3 ⟨rfl, hb3⟩
          have HON3 := Lib.hid (on_step HON2.out hb3)
          clear l2 hb3 HSH2 HTk2 HON2
          go_wp2
          go_roundw
          case rel => exact ⟨k + 1, by omega, by go_num, HON3⟩
          case measure => simp [intOf]; omega
        · obtain rfl : k = 9 := by omega
          have HBq := Lib.hid (HB9.out.trans ((below_of_grown (on_grown HON.out)).mono HB9.out.size))
          have HTq := Lib.hid (tab_grown HT9.out (on_grown HON.out) (by simp))
          clear HON HT9 HB9 HC9 HALL HA9 hlt hk
          rw [show ((9 : Nat) : Int) = 9 from rfl]
          go_wp2_with fail
          refine (firstC _).mono ?_
          rintro E w1 ⟨g, rfl, hg, hcg, hb1⟩
          have hgz := hb1.trans (grown_own w1 (.cells #[.int .u64 0, .int .u64 0, .int .i32 0, .int .i32 0, .int .i32 0, .int .i32 0, .int .u8 0, .int .u8 0, .int .u8 0, .int .i32 0, .int .i32 0, .int .i32 0, .int .i32 0, .int .u8 0, .int .u8 0, .int .u8 0, .slice none 0 0, .int .u16 0, .int .u16 0] 30) (stc frst (some ⟨g, 0, none⟩) 1))
          have HE0 : Hid (Bk ((w1.alloc (.cells #[.int .u64 0, .int .u64 0, .int .i32 0, .int .i32 0, .int .i32 0, .int .i32 0, .int .u8 0, .int .u8 0, .int .u8 0, .int .i32 0, .int .i32 0, .int .i32 0, .int .i32 0, .int .u8 0, .int .u8 0, .int .u8 0, .slice none 0 0, .int .u16 0, .int .u16 0] 30)).setRow w1.heap.size (stc frst (some ⟨g, 0, none⟩) 1)) w1.heap.size frst (some ⟨g, 0, none⟩) 1) := bk_setRow (Cells.made w1 _ _) frst _ _
          have HS0 : Hid (Cells ((w1.alloc (.cells #[.int .u64 0, .int .u64 0, .int .i32 0, .int .i32 0, .int .i32 0, .int .i32 0, .int .u8 0, .int .u8 0, .int .u8 0, .int .i32 0, .int .i32 0, .int .i32 0, .int .i32 0, .int .u8 0, .int .u8 0, .int .u8 0, .slice none 0 0, .int .u16 0, .int .u16 0] 30)).setRow w1.heap.size (stc frst (some ⟨g, 0, none⟩) 1)) g 46 #[.int .i32 5, .int .i32 6, .int .i32 (-2048), .int .i32 2048, .int .u8 1, .int .u8 40]) := cells_far (Cells.alloc hcg _) (by have := Cells.lt hcg; omega) _
          have HGE : Hid (g < w1.heap.size) := Cells.lt hcg
          have HBe := Lib.hid (HBq.out.trans ((below_of_grown hgz).mono HBq.out.size))
          have HTe := Lib.hid (tab_grown HTq.out hgz (by simp))
          have hz1 : w.heap.size ≤ w1.heap.size := Nat.le_trans HBq.out.size hb1.size
          have hzg : w.heap.size ≤ g := Nat.le_trans HBq.out.size hg
          have HZ1 := Lib.hid (And.intro hz1 (And.intro hzg (And.intro (show 0 < g from Nat.lt_of_lt_of_le HTq.out.1 hg) (show 0 < w1.heap.size from Nat.lt_of_lt_of_le HTq.out.1 hb1.size))))
          clear hgz hcg hb1 HBq HTq hz1 hzg hg
          go_upto_region 24 with fail
          generalize ((w1.alloc (.cells #[.int .u64 0, .int .u64 0, .int .i32 0, .int .i32 0, .int .i32 0, .int .i32 0, .int .u8 0, .int .u8 0, .int .u8 0, .int .i32 0, .int .i32 0, .int .i32 0, .int .i32 0, .int .u8 0, .int .u8 0, .int .u8 0, .slice none 0 0, .int .u16 0, .int .u16 0] 30)).setRow w1.heap.size (stc frst (some ⟨g, 0, none⟩) 1)) = we at *
          generalize w1.heap.size = e at *
          obtain ⟨wf, hst, hwf, hgf⟩ : ∃ wf, (storePl (.pointer (some ⟨e, 2, none⟩)) (.agg #[.int .i32 61440, .int .i32 28672, .int .i32 (-1024), .int .i32 1024, .int .u8 1, .int .u8 30, .int .u8 3])).run Tryd.prog we = .ok () wf ∧ Bk wf e { frst with p := ⟨61440, 28672, -1024, 1024, 1, 30, 3⟩ } (some ⟨g, 0, none⟩) 1 ∧ we.grownBy wf (some e) :=
            ⟨_, run_storePl 2 HE0.out (by simp) rfl (by simp [Value.oneCell']), setRow_heap _ _ _ _ _ _ HE0.out, grown_setRow _ _ _⟩
          have HE1 := Lib.hid hwf
          have HS1 := Lib.hid (Cells.grown HS0.out hgf (by have := HGE.out; simp; omega))
          have HLe := Lib.hid (Cells.lt HE0.out)
          have HBf := Lib.hid (HBe.out.trans (grown_nb hgf (fun q h => by cases h; exact HZ1.out.1) HBe.out.size))
          have HTf := Lib.hid (tab_grown HTe.out hgf (fun h => by have := HZ1.out.2.2.2; injection h with h; omega))
          clear hwf hgf HE0 HS0 HBe HTe
          go_upto_region 25 with fail
          clear hst
          have c16 := HE1.out.of 16 _ rfl
          obtain ⟨wg, hst2, hwg, hgg⟩ : ∃ wg, (storeSh (.pointer (some ⟨g, 0, none⟩)) (.agg #[.int .i32 65024, .int .i32 32256, .int .i32 2048, .int .i32 (-2048), .int .u8 0, .int .u8 1])).run Tryd.prog wf = .ok () wg ∧ Cells wg g 46 #[.int .i32 65024, .int .i32 32256, .int .i32 2048, .int .i32 (-2048), .int .u8 0, .int .u8 1] ∧ wf.grownBy wg (some g) :=
            ⟨_, run_storeSh 0 HS1.out (by simp) rfl (by simp [Value.oneCell']), setRow_heap _ _ _ _ _ _ HS1.out, grown_setRow _ _ _⟩
          have HS2 := Lib.hid hwg
          have HE2 : Hid (Bk wg e { frst with p := ⟨61440, 28672, -1024, 1024, 1, 30, 3⟩, ss := [⟨65024, 32256, 2048, -2048, 0, 1⟩] } (some ⟨g, 0, none⟩) 1) := bk_grown HE1.out hgg (by have := HGE.out; simp; omega)
          have HLg := Lib.hid (Cells.lt HS1.out)
          have HBg := Lib.hid (HBf.out.trans (grown_nb hgg (fun q h => by cases h; exact HZ1.out.2.1) HBf.out.size))
          have HTg := Lib.hid (tab_grown HTf.out hgg (fun h => by have := HZ1.out.2.2.1; injection h with h; omega))
          clear hwg hgg HE1 HS1 HBf HTf
          go_upto_region 26 with fail
          clear hst2 c16
          have c17 := HE2.out.of 17 _ rfl
          have f17 := Cells.frozen HE2.out 17
          have HE3 := Lib.hid (bk_set17 HE2.out 65535)
          have HS3 : Hid (Cells (wg.setCell ⟨e, 17, none⟩ (.int .u16 ((65535 : Nat) : Int))) g 46 #[.int .i32 65024, .int .i32 32256, .int .i32 2048, .int .i32 (-2048), .int .u8 0, .int .u8 1]) := Cells.far HS2.out (by show g ≠ e; have := HGE.out; omega) _
          have HBh : Hid (Below w.heap.size w (wg.setCell ⟨e, 17, none⟩ (.int .u16 ((65535 : Nat) : Int)))) := HBg.out.setCell (by show w.heap.size ≤ e; exact HZ1.out.1) _
          have HTh : Hid (Tab (wg.setCell ⟨e, 17, none⟩ (.int .u16 ((65535 : Nat) : Int)))) := tab_grown HTg.out (grown_set wg e 17 _) (fun h => by have := HZ1.out.2.2.2; injection h with h; omega)
          rw [show ((65535 : Nat) : Int) = 65535 from rfl] at HE3 HS3 HBh HTh
          clear HE2 HS2 HBg HTg
          go_upto_region 27 with fail
          clear c17 f17
          generalize wg.setCell ⟨e, 17, none⟩ (.int .u16 65535) = wh at *
          have c0 := HE3.out.of 0 _ rfl
          have f0 := Cells.frozen HE3.out 0
          have HE4 := Lib.hid (bk_set0 HE3.out 18446744073709551615)
          have HS4 : Hid (Cells (wh.setCell ⟨e, 0, none⟩ (.int .u64 ((18446744073709551615 : Nat) : Int))) g 46 #[.int .i32 65024, .int .i32 32256, .int .i32 2048, .int .i32 (-2048), .int .u8 0, .int .u8 1]) := Cells.far HS3.out (by show g ≠ e; have := HGE.out; omega) _
          have HBi : Hid (Below w.heap.size w (wh.setCell ⟨e, 0, none⟩ (.int .u64 ((18446744073709551615 : Nat) : Int)))) := HBh.out.setCell (by show w.heap.size ≤ e; exact HZ1.out.1) _
          have HTi : Hid (Tab (wh.setCell ⟨e, 0, none⟩ (.int .u64 ((18446744073709551615 : Nat) : Int)))) := tab_grown HTh.out (grown_set wh e 0 _) (fun h => by have := HZ1.out.2.2.2; injection h with h; omega)
          rw [show ((18446744073709551615 : Nat) : Int) = 18446744073709551615 from rfl] at HE4 HS4 HBi HTi
          clear HE3 HS3 HBh HTh
          go_upto_region 28 with fail
          clear c0 f0
          generalize wh.setCell ⟨e, 0, none⟩ (.int .u64 18446744073709551615) = wi at *
          have HED : Hid (Bk wi e edg (some ⟨g, 0, none⟩) 1) := HE4
          have HSD : Hid (Shs wi (some ⟨g, 0, none⟩) edg.ss) := shs_hall HS4.out rfl fit_edg.2.2.2.2.1
          clear HE4 HS4
          have hre := rowOf_cells HED.out
          have hle := Cells.lt HED.out
          go_wp2_with fail
          refine (start_c 1 _).mono ?_
          rintro E wj ⟨rfl, hbj⟩
          have HTj := Lib.hid (tab_grown HTi.out hbj (by simp))
          have HBj := Lib.hid (HBi.out.trans ((below_of_grown hbj).mono HBi.out.size))
          have HSj := Lib.hid (Shs_grown HSD.out hbj (by simp))
          have hrj : rowOf wj e = stc edg (some ⟨g, 0, none⟩) 1 := by rw [keep_row hbj _ hle, hre]
          have hlj := keep_lt hbj _ hle
          clear hbj HTi HBi HSD hre hle HED
          go_wp2_with fail
          refine (HP1.out _ HTj.out).mono ?_
          rintro E wk ⟨rfl, hbk⟩
          have HTk := Lib.hid (tab_grown HTj.out hbk (by simp))
          have HBk := Lib.hid (HBj.out.trans ((below_of_grown hbk).mono HBj.out.size))
          have HSk := Lib.hid (Shs_grown HSj.out hbk (by simp))
          have hrk : rowOf wk e = stc edg (some ⟨g, 0, none⟩) 1 := by rw [keep_row hbk _ hlj, hrj]
          have hlk := keep_lt hbk _ hlj
          clear hbk HTj HBj HSj hrj hlj
          go_wp2_with fail
          refine (put_good edg _ 1 _ HSk.out fit_edg good_edg HTk.out).mono ?_
          rintro E wl ⟨rfl, hbl⟩
          have HTl := Lib.hid (tab_grown HTk.out hbl (by simp))
          have HBl := Lib.hid (HBk.out.trans ((below_of_grown hbl).mono HBk.out.size))
          have HSl := Lib.hid (Shs_grown HSk.out hbl (by simp))
          have hrl : rowOf wl e = stc edg (some ⟨g, 0, none⟩) 1 := by rw [keep_row hbl _ hlk, hrk]
          have hll := keep_lt hbl _ hlk
          clear hbl HTk HBk HSk hrk hlk
          go_wp2_with fail
          refine (take_good edg _ fit_edg good_edg edg_len HTl.out).mono ?_
          rintro E w7 ⟨ao7, k7, rfl, hs7, hb7⟩
          have hgz := hb7.trans (grown_own w7 (.cells #[.int .u64 0, .int .u64 0, .int .i32 0, .int .i32 0, .int .i32 0, .int .i32 0, .int .u8 0, .int .u8 0, .int .u8 0, .int .i32 0, .int .i32 0, .int .i32 0, .int .i32 0, .int .u8 0, .int .u8 0, .int .u8 0, .slice none 0 0, .int .u16 0, .int .u16 0] 30) (stc edg ao7 k7))
          have q1 : rowOf ((w7.alloc (.cells #[.int .u64 0, .int .u64 0, .int .i32 0, .int .i32 0, .int .i32 0, .int .i32 0, .int .u8 0, .int .u8 0, .int .u8 0, .int .i32 0, .int .i32 0, .int .i32 0, .int .i32 0, .int .u8 0, .int .u8 0, .int .u8 0, .slice none 0 0, .int .u16 0, .int .u16 0] 30)).setRow w7.heap.size (stc edg ao7 k7)) e = stc edg (some ⟨g, 0, none⟩) 1 := by rw [keep_row hgz _ hll, hrl]
          have q7 : rowOf ((w7.alloc (.cells #[.int .u64 0, .int .u64 0, .int .i32 0, .int .i32 0, .int .i32 0, .int .i32 0, .int .u8 0, .int .u8 0, .int .u8 0, .int .i32 0, .int .i32 0, .int .i32 0, .int .i32 0, .int .u8 0, .int .u8 0, .int .u8 0, .slice none 0 0, .int .u16 0, .int .u16 0] 30)).setRow w7.heap.size (stc edg ao7 k7)) w7.heap.size = stc edg ao7 k7 := rowOf_own _ _ _ _
          have HSm := Lib.hid (Shs_grown HSl.out hgz (by simp))
          have HS7 := Lib.hid (Shs_grown hs7 (grown_own w7 (.cells #[.int .u64 0, .int .u64 0, .int .i32 0, .int .i32 0, .int .i32 0, .int .i32 0, .int .u8 0, .int .u8 0, .int .u8 0, .int .i32 0, .int .i32 0, .int .i32 0, .int .i32 0, .int .u8 0, .int .u8 0, .int .u8 0, .slice none 0 0, .int .u16 0, .int .u16 0] 30) (stc edg ao7 k7)) (by simp))
          have HTm := Lib.hid (tab_grown HTl.out hgz (by simp))
          have HBm := Lib.hid (HBl.out.trans ((below_of_grown hgz).mono HBl.out.size))
          clear hgz hs7 hb7 HSl HTl HBl hrl hll
          go_wp2_with fail
          refine (same_self edg ao7 _ k7 1 _ HS7.out HSm.out (by decide)).mono ?_
          rintro E w8 ⟨rfl, hb8⟩
          have HTn := Lib.hid (tab_grown HTm.out hb8 (by simp))
          have HBn := Lib.hid (HBm.out.trans ((below_of_grown hb8).mono HBm.out.size))
          clear hb8 HSm HS7 HTm HBm q1 q7
          go_wp2_with fail
          refine (F4.out _ HTn.out).mono ?_
          rintro E w9 ⟨rfl, hb9⟩
          have HTo := Lib.hid (tab_grown HTn.out hb9 (by simp))
          have HBo := Lib.hid (HBn.out.trans ((below_of_grown hb9).mono HBn.out.size))
          clear hb9 HTn HBn
          go_wp2_with fail
          refine (works_c _ HTo.out).mono ?_
          rintro E w10 ⟨rfl, hb10⟩
          go_wp2
          go_ret
          exact ⟨rfl, grown_of_below (HBo.out.trans ((below_of_grown hb10).mono HBo.out.size))⟩
theorem law_known (w : World) (ht : Tab w) : Calls Tryd.prog 8 #[] w fun E w' => E = .returned (.bool true) ∧ Below w.heap.size w w' :=
  (lawKnown w ht).mono fun E w' h => ⟨h.1, below_of_grown h.2⟩
end Go.Proofs.YtbmkmmkebophpaaDoor
