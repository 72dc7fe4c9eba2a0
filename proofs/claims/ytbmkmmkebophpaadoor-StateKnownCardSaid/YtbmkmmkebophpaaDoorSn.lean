/- Start, and the statements' own first state: contracts. -/
import Derived.Test.YtbmkmmkebophpaaDoorSm
namespace Go.Proofs.YtbmkmmkebophpaaDoor
open Go.RowKit
set_option linter.unusedVariables false

/-- A block of a state's cells lies there, none of them frozen. -/
def okRow (w : World) (g : Nat) : Prop := ∃ cs t, Cells w g t cs ∧ cs.size = 19
theorem okRow_new (w : World) (g : Nat) (cs : Array Value) (t : TypeId) (h : g = w.heap.size) (hc : cs.size = 19) : okRow (w.alloc (.cells cs t)) g := by
  subst h; exact ⟨cs, t, Cells.made w t cs, hc⟩
theorem okRow_old (w : World) (g : Nat) (o : Obj) (h : okRow w g) : okRow (w.alloc o) g := by
  obtain ⟨cs, t, hc, hs⟩ := h; exact ⟨cs, t, hc.alloc o, hs⟩
theorem okRow_bk {w : World} {g : Nat} {s : St} {ao : Option Addr} {cap : Nat} (h : Bk w g s ao cap) : okRow w g := ⟨_, _, h, rfl⟩
theorem run_storeOk (w : World) (g : Nat) (cs : Array Value) (h : okRow w g) (hc : cs.size = 19) (h1 : cs.toList.all Value.oneCell' = true) :
    (storeState (.pointer (some ⟨g, 0, none⟩)) (.agg cs)).run Tryd.prog w = .ok () (w.setRow g cs) := by
  obtain ⟨old, t, ho, hs⟩ := h
  exact run_storeState ho hs hc (fun v hv => List.all_eq_true.1 h1 v hv)
theorem bk_setRow {w : World} {g : Nat} {old : Array Value} (h : Cells w g 30 old) (s : St) (ao : Option Addr) (cap : Nat) : Bk (w.setRow g (stc s ao cap)) g s ao cap := setRow_heap w g old _ _ _ h
theorem cells_far {w : World} {g g' : Nat} {t : TypeId} {cs : Array Value} (h : Cells w g t cs) (hne : g ≠ g') (cs' : Array Value) : Cells (w.setRow g' cs') g t cs := (setRow_other _ _ _ _ hne).trans h
def start (n : Nat) : St := ⟨0, n, ⟨8192, 14336, 0, 0, 100, 0, 0⟩, ⟨53248, 14336, 0, 0, 100, 0, 1⟩, [], 0, 0⟩
theorem ret_state {W : World} {g : Nat} {cs : Array Value} (tmps : Array Value) (p : Tmp) (fn : Func) (hr : fn.results = #[.cell p 30]) (h : Cells W g 30 cs) (hs : cs.size = 19) (h2 : tmps.getD p undef = .pointer (some ⟨g, 0, none⟩)) :
    (results fn tmps).run Tryd.prog W = .ok (.agg cs) W := results_cell_row hr tmps W g _ cs (0, 0) _ h2 h Tryd.underlying30 rfl (by rw [hs]; exact info_StSz)
attribute [local go_sem ↓] loadAt_state storeAt_state
attribute [local go_sem] run_loadState rowOf_new rowOf_old rowOf_drew rowOf_drewN run_storeOk okRow_new okRow_old Value.oneCell'
set_option maxHeartbeats 1000000 in
set_option maxRecDepth 20000 in
theorem start_c (n : Nat) (w : World) : Calls Tryd.prog 16 #[.int .u64 (n : Int)] w fun E w' => E = .returned (sv (start n) none 0) ∧ w.grownBy w' none := by
  have hok : ∀ A B : Obj, okRow (((w.alloc (.cells #[.int .u64 0, .int .u64 0, .int .i32 0, .int .i32 0, .int .i32 0, .int .i32 0, .int .u8 0, .int .u8 0, .int .u8 0, .int .i32 0, .int .i32 0, .int .i32 0, .int .i32 0, .int .u8 0, .int .u8 0, .int .u8 0, .slice none 0 0, .int .u16 0, .int .u16 0] 30)).alloc A).alloc B) w.heap.size := fun A B => okRow_old _ _ _ (okRow_old _ _ _ (okRow_new _ _ _ _ rfl rfl))
  go_enter Tryd.func16, Tryd.ntmps16
  go_wp2
  have hc : ∀ A B : Obj, Cells (((w.alloc (.cells #[.int .u64 0, .int .u64 0, .int .i32 0, .int .i32 0, .int .i32 0, .int .i32 0, .int .u8 0, .int .u8 0, .int .u8 0, .int .i32 0, .int .i32 0, .int .i32 0, .int .i32 0, .int .u8 0, .int .u8 0, .int .u8 0, .slice none 0 0, .int .u16 0, .int .u16 0] 30)).alloc A).alloc B) w.heap.size 30 #[.int .u64 0, .int .u64 0, .int .i32 0, .int .i32 0, .int .i32 0, .int .i32 0, .int .u8 0, .int .u8 0, .int .u8 0, .int .i32 0, .int .i32 0, .int .i32 0, .int .i32 0, .int .u8 0, .int .u8 0, .int .u8 0, .slice none 0 0, .int .u16 0, .int .u16 0] := fun A B => ((Cells.made w _ _).alloc A).alloc B
  refine bodyPost_ret (v := sv (start n) none 0) ?_ rfl ?_
  · exact ret_state _ 2 _ Tryd.results16 (setRow_heap _ _ _ _ _ _ (hc _ _)) rfl rfl
  exact ⟨rfl, grown_of_below (below_setRow ((((Below.refl _ w).alloc (Nat.le_refl _) _).alloc (by simp) _).alloc (by simp; omega) _) (Nat.le_refl _) _)⟩
/-- The statements' own first state: that of 1, with a shot. -/
def shot1 : Sh := ⟨5, 6, -2048, 2048, 1, 40⟩
def frst : St := { start 1 with ss := [shot1] }
theorem fit_shot1 : shot1.fit := ⟨⟨by decide, by decide⟩, ⟨by decide, by decide⟩, ⟨by decide, by decide⟩, ⟨by decide, by decide⟩, by decide, by decide⟩
theorem shs_one {w : World} {g : Nat} (h : Cells w g 46 #[.int .i32 5, .int .i32 6, .int .i32 (-2048), .int .i32 2048, .int .u8 1, .int .u8 40]) : Shs w (some ⟨g, 0, none⟩) [shot1] := fun k hk => by
  obtain rfl : k = 0 := by simp at hk; omega
  refine ⟨fit_shot1, g, 0, rfl, fun i v hv => ?_⟩
  rw [show 0 + 0 * 6 + i = i by omega, h.cell]
  match i, hv with
  | 0, hv | 1, hv | 2, hv | 3, hv | 4, hv | 5, hv => exact hv
  | i + 6, hv => simp at hv
set_option maxHeartbeats 1000000 in
set_option maxRecDepth 20000 in
theorem first_c (w : World) : Calls Tryd.prog 24 #[] w fun E w' => ∃ g, E = .returned (sv frst (some ⟨g, 0, none⟩) 1) ∧ w.heap.size ≤ g ∧ Shs w' (some ⟨g, 0, none⟩) frst.ss ∧ w.grownBy w' none := by
  have HB0 : Hid (Bk (w.alloc (.cells #[.int .u64 0, .int .u64 0, .int .i32 0, .int .i32 0, .int .i32 0, .int .i32 0, .int .u8 0, .int .u8 0, .int .u8 0, .int .i32 0, .int .i32 0, .int .i32 0, .int .i32 0, .int .u8 0, .int .u8 0, .int .u8 0, .slice none 0 0, .int .u16 0, .int .u16 0] 30)) w.heap.size .zero none 0) := Cells.made w _ _
  go_enter Tryd.func24, Tryd.ntmps24
  go_upto_region 1 with fail
  go_cut [0, 1] (fun s0 s1 wx => ∃ g, s0 = .pointer (some ⟨w.heap.size, 0, none⟩) ∧ s1 = .pointer (some ⟨g, 0, none⟩) ∧ w.heap.size < g ∧ Hid (Bk wx g (start 1) none 0) ∧ Hid (Bk wx w.heap.size .zero none 0) ∧ Hid (w.grownBy wx none))
  case first =>
    go_wp2_with fail
    refine (start_c 1 _).mono ?_
    rintro E w1 ⟨rfl, hb1⟩
    have HB1 := Lib.hid (bk_grown HB0.out hb1 (by simp))
    have HG1 := Lib.hid ((grown_alloc w _).trans hb1)
    clear hb1
    go_wp2_with fail
    all_goals go_meet
    all_goals exact ⟨_, rfl, rfl, Cells.lt HB1.out, bk_setRow (Cells.made w1 _ _) (start 1) none 0, cells_far (Cells.alloc HB1.out _) (Nat.ne_of_lt (Cells.lt HB1.out)) _, grown_of_below (below_setRow ((below_of_grown HG1.out).alloc HG1.out.size _) HG1.out.size _)⟩
  case rest =>
  obtain ⟨g, rfl, rfl, hgl, HB1, HB2, HG⟩ := hcut
  have c16 := HB1.out.of 16 _ rfl
  have f16 := Cells.frozen HB1.out 16
  have hlt := Cells.lt HB1.out
  go_upto_region 3 with fail
  have HB3 : Hid (Bk ((wc.setCell ⟨g, 16, none⟩ (.slice (some ⟨wc.heap.size, 0, none⟩) 1 1)).alloc (.cells #[.int .i32 5, .int .i32 6, .int .i32 (-2048), .int .i32 2048, .int .u8 1, .int .u8 40] 46)) g frst (some ⟨wc.heap.size, 0, none⟩) 1) :=
    bk_grown (bk_set16 HB1.out [shot1] 1 rfl _ _) (grown_alloc _ _) (by simp)
  have HS3 : Hid (Cells ((wc.setCell ⟨g, 16, none⟩ (.slice (some ⟨wc.heap.size, 0, none⟩) 1 1)).alloc (.cells #[.int .i32 5, .int .i32 6, .int .i32 (-2048), .int .i32 2048, .int .u8 1, .int .u8 40] 46)) wc.heap.size 46 #[.int .i32 5, .int .i32 6, .int .i32 (-2048), .int .i32 2048, .int .u8 1, .int .u8 40]) :=
    by have := Cells.made (wc.setCell ⟨g, 16, none⟩ (.slice (some ⟨wc.heap.size, 0, none⟩) 1 1)) 46 #[.int .i32 5, .int .i32 6, .int .i32 (-2048), .int .i32 2048, .int .u8 1, .int .u8 40]; rwa [show (wc.setCell ⟨g, 16, none⟩ (.slice (some ⟨wc.heap.size, 0, none⟩) 1 1)).heap.size = wc.heap.size by simp [World.setCell]] at this
  have HZ3 : Hid (Bk ((wc.setCell ⟨g, 16, none⟩ (.slice (some ⟨wc.heap.size, 0, none⟩) 1 1)).alloc (.cells #[.int .i32 5, .int .i32 6, .int .i32 (-2048), .int .i32 2048, .int .u8 1, .int .u8 40] 46)) w.heap.size .zero none 0) :=
    Cells.alloc (Cells.far HB2.out (by show w.heap.size ≠ g; omega) _) _
  have HG3 : Hid (Below w.heap.size w ((wc.setCell ⟨g, 16, none⟩ (.slice (some ⟨wc.heap.size, 0, none⟩) 1 1)).alloc (.cells #[.int .i32 5, .int .i32 6, .int .i32 (-2048), .int .i32 2048, .int .u8 1, .int .u8 40] 46))) :=
    ((below_of_grown HG.out).setCell (by show w.heap.size ≤ g; omega) _).alloc (by have := HG.out.size; simp [World.setCell]; exact this) _
  have hws : w.heap.size < wc.heap.size := Nat.lt_trans hgl hlt
  generalize (wc.setCell ⟨g, 16, none⟩ (.slice (some ⟨wc.heap.size, 0, none⟩) 1 1)).alloc (.cells #[.int .i32 5, .int .i32 6, .int .i32 (-2048), .int .i32 2048, .int .u8 1, .int .u8 40] 46) = wx at *
  generalize hgs : wc.heap.size = gs at *
  clear c16 f16 HB1 HB2 HG hlt hgs
  have hrow : rowOf wx g = stc frst (some ⟨gs, 0, none⟩) 1 := rowOf_cells HB3.out
  have hok : okRow wx w.heap.size := okRow_bk HZ3.out
  go_wp2
  refine bodyPost_ret (v := sv frst (some ⟨gs, 0, none⟩) 1) ?_ rfl ?_
  · exact ret_state _ 0 _ Tryd.results24 (setRow_heap _ _ _ _ _ _ HZ3.out) rfl rfl
  · exact ⟨gs, rfl, Nat.le_of_lt hws, Shs_grown (shs_one HS3.out) (grown_setRow _ _ _) (fun a e q => by cases e; have q2 := Option.some.inj q; dsimp only at q2; omega), grown_of_below (below_setRow HG3.out (Nat.le_refl _) _)⟩
end Go.Proofs.YtbmkmmkebophpaaDoor
