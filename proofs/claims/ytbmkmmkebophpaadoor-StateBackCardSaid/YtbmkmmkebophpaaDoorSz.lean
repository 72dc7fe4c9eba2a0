/- The statement StateBack: a state's bytes are read as the state; a beginning is torn; with a byte more they are none; two states have the same bytes just if they are the same: the Go function returns true. Conditions: the table of bounds lies in its variable. -/
import Derived.Test.YtbmkmmkebophpaaDoorSs
import Derived.Test.YtbmkmmkebophpaaDoorSy
import Derived.Deep.RegionHeld3
import Derived.Deep.DeepCutAuto
namespace Go.Proofs.YtbmkmmkebophpaaDoor
open Go.RowKit
set_option linter.unusedVariables false
set_option linter.unusedSimpArgs false

theorem okRow_far (w : World) (g g' : Nat) (cs : Array Value) (h : okRow w g') (hne : g' ≠ g) : okRow (w.setRow g cs) g' := by
  obtain ⟨old, t, ho, hs⟩ := h
  exact ⟨old, t, cells_far ho hne cs, hs⟩
/-- A block of a state's cells lies there. -/
def okSt (w : World) (g : Nat) : Prop := ∃ cs, Cells w g 30 cs ∧ cs.size = 19
theorem okRow_st {w : World} {g : Nat} (h : okSt w g) : okRow w g := by obtain ⟨cs, hc, hs⟩ := h; exact ⟨cs, _, hc, hs⟩
theorem okSt_new (w : World) (cs : Array Value) (g : Nat) (hg : g = w.heap.size) (hc : cs.size = 19) : okSt (w.alloc (.cells cs 30)) g := by subst hg; exact ⟨cs, Cells.made w _ cs, hc⟩
theorem okSt_old {w : World} {g : Nat} (o : Obj) (h : okSt w g) : okSt (w.alloc o) g := by obtain ⟨cs, hc, hs⟩ := h; exact ⟨cs, hc.alloc o, hs⟩
theorem okSt_drew {w : World} {g : Nat} (h : okSt w g) : okSt w.drew g := h
theorem okSt_grown {w w' : World} {g : Nat} (hb : w.grownBy w' none) (h : okSt w g) : okSt w' g := by obtain ⟨cs, hc, hs⟩ := h; exact ⟨cs, hc.grown hb (by simp), hs⟩
theorem own_ne {w : World} {B n g : Nat} {v : Value} {xs : List Value} (h : w.ownsRow B 46 6 v n xs) (k : okSt w g) : v.ownBlock ≠ some g := fun e => by
  obtain ⟨cs, hc, _⟩ := k
  rcases h.2 with ⟨rfl, _⟩ | ⟨g', cap, cur, rfl, _, hg, _⟩
  · cases e
  · obtain rfl : g' = g := by injection e
    have h1 := hc.symm.trans hg
    injection h1 with h1
    injection h1 with _ h2 _
    exact absurd h2 (by decide)
theorem okSt_set {w : World} {g g' : Nat} (cs : Array Value) (h : okSt w g') (hne : g' ≠ g) : okSt (w.setRow g cs) g' := by
  obtain ⟨old, ho, hs⟩ := h
  exact ⟨old, cells_far ho hne cs, hs⟩
theorem give {p q : Prop} (h : p) (k : p → q) : q := k h
theorem on_setRow {B : Nat} {wd W : World} {g : Nat} (h : On B wd W) (hg : B ≤ g) (cs : Array Value) : On B wd (W.setRow g cs) := below_setRow h hg cs
/-- Both states lie in blocks of their own, all below as it was. -/
def Two (wd : World) (g1 g2 : Nat) (s t : St) (ao1 : Option Addr) (c1 : Nat) (ao2 : Option Addr) (c2 : Nat) (wx : World) : Prop :=
  On wd.heap.size wd wx ∧ Bk wx g1 s ao1 c1 ∧ Bk wx g2 t ao2 c2 ∧ Shs wx ao1 s.ss ∧ Shs wx ao2 t.ss
theorem two_fin {X wd : World} {g1 g2 B1 B2 : Nat} {s t : St} {ao1 ao2 : Option Addr} {c1 c2 : Nat} (o : On wd.heap.size wd X) (h1 : okSt X g1) (h2 : okSt X g2) (hne : g2 ≠ g1) (b1 : wd.heap.size ≤ g1) (b2 : wd.heap.size ≤ g2)
    (r1 : X.ownsRow B1 46 6 (.slice ao1 s.ss.length c1) s.ss.length (Hall s.ss)) (r2 : X.ownsRow B2 46 6 (.slice ao2 t.ss.length c2) t.ss.length (Hall t.ss)) (f1 : s.fit) (f2 : t.fit) :
    Two wd g1 g2 s t ao1 c1 ao2 c2 ((X.setRow g1 (stc s ao1 c1)).setRow g2 (stc t ao2 c2)) := by
  have n11 := own_ne r1 h1
  have n12 := own_ne r1 h2
  have n21 := own_ne r2 h1
  have n22 := own_ne r2 h2
  obtain ⟨cs1, k1, _⟩ := h1
  obtain ⟨cs2, k2, _⟩ := h2
  refine ⟨below_setRow (below_setRow o b1 _) b2 _, cells_far (bk_setRow k1 s ao1 c1) (Ne.symm hne) _, bk_setRow (cells_far k2 hne _) t ao2 c2, ?_, ?_⟩
  · exact shs_own ((r1.kept (grown_setRow _ _ _) (.inr n11)).kept (grown_setRow _ _ _) (.inr n12)) rfl f1.2.2.2.2.1
  · exact shs_own ((r2.kept (grown_setRow _ _ _) (.inr n21)).kept (grown_setRow _ _ _) (.inr n22)) rfl f2.2.2.2.2.1
theorem okRow_z1 (w : World) : okRow (w.alloc (.cells #[.int .u64 0, .int .u64 0, .int .i32 0, .int .i32 0, .int .i32 0, .int .i32 0, .int .u8 0, .int .u8 0, .int .u8 0, .int .i32 0, .int .i32 0, .int .i32 0, .int .i32 0, .int .u8 0, .int .u8 0, .int .u8 0, .slice none 0 0, .int .u16 0, .int .u16 0] 30)) w.heap.size := okRow_new _ _ _ _ rfl rfl
theorem okRow_z2 (w : World) (o : Obj) : okRow ((w.alloc (.cells #[.int .u64 0, .int .u64 0, .int .i32 0, .int .i32 0, .int .i32 0, .int .i32 0, .int .u8 0, .int .u8 0, .int .u8 0, .int .i32 0, .int .i32 0, .int .i32 0, .int .i32 0, .int .u8 0, .int .u8 0, .int .u8 0, .slice none 0 0, .int .u16 0, .int .u16 0] 30)).alloc o) w.heap.size := okRow_old _ _ _ (okRow_new _ _ _ _ rfl rfl)
theorem okRow_z3 (w : World) (o : Obj) : okRow ((w.alloc o).alloc (.cells #[.int .u64 0, .int .u64 0, .int .i32 0, .int .i32 0, .int .i32 0, .int .i32 0, .int .u8 0, .int .u8 0, .int .u8 0, .int .i32 0, .int .i32 0, .int .i32 0, .int .i32 0, .int .u8 0, .int .u8 0, .int .u8 0, .slice none 0 0, .int .u16 0, .int .u16 0] 30)) (w.heap.size + 1) := okRow_new _ _ _ _ (by simp) rfl
attribute [local go_sem ↓] loadAt_state storeAt_state
attribute [local go_sem] run_loadState rowOf_new rowOf_old rowOf_drew rowOf_drewN run_storeOk okRow_new okRow_old Value.oneCell' rowOf_own okRow_far okRow_z1 okRow_z2 okRow_z3
set_option maxHeartbeats 2000000 in
set_option maxRecDepth 20000 in
theorem lawBack (a b : St) (ao bo : Option Addr) (c1 c2 : Nat) (n : Nat) (w : World) (hn : n < 65536) (h1 : Shs w ao a.ss) (h2 : Shs w bo b.ss) (fa : a.fit) (fb : b.fit) (hl : a.ss.length ≤ maxLen) (hm : b.ss.length ≤ maxLen) (ht : Tab w) :
    Calls Tryd.prog 6 #[sv a ao c1, sv b bo c2, .int .u16 (n : Int)] w fun E w' => E = .returned (.bool true) ∧ w.grownBy w' none := by
  have hg : w.grownBy ((w.alloc (.cells (stc a ao c1) 30)).alloc (.cells (stc b bo c2) 30)) none := (grown_alloc _ _).trans (grown_alloc _ _)
  have HT := Lib.hid (tab_grown ht hg (by simp))
  have HG := Lib.hid hg
  have HA := Lib.hid (Shs_grown h1 hg (by simp))
  have HB := Lib.hid (Shs_grown h2 hg (by simp))
  have HBa : Bk ((w.alloc (.cells (stc a ao c1) 30)).alloc (.cells (stc b bo c2) 30)) w.heap.size a ao c1 := heap_alloc2_old w _ _
  have HBb : Bk ((w.alloc (.cells (stc a ao c1) 30)).alloc (.cells (stc b bo c2) 30)) (w.heap.size + 1) b bo c2 := heap_alloc2_new w _ _
  have HM1 : Hid (∀ W, Shs W ao a.ss → Calls Tryd.prog 22 #[sv a ao c1] W fun E w' => ∃ ao' cap', E = .returned (sv (md a) ao' cap') ∧ w'.ownsRow W.heap.size 46 6 (.slice ao' (md a).ss.length cap') (md a).ss.length (Hall (md a).ss) ∧ W.grownBy w' none) := fun W h => made_c a ao c1 W h fa hl
  have HM2 : Hid (∀ W, Shs W bo b.ss → Calls Tryd.prog 22 #[sv b bo c2] W fun E w' => ∃ ao' cap', E = .returned (sv (md b) ao' cap') ∧ w'.ownsRow W.heap.size 46 6 (.slice ao' (md b).ss.length cap') (md b).ss.length (Hall (md b).ss) ∧ W.grownBy w' none) := fun W h => made_c b bo c2 W h fb hm
  have HMA : Hid ((md a).fit ∧ (md a).good = true) := ⟨md_fit fa.1 fa.2.1 fa.2.2.2.2.2.1 fa.2.2.2.2.2.2, md_good a⟩
  have HMB : Hid ((md b).fit ∧ (md b).good = true) := ⟨md_fit fb.1 fb.2.1 fb.2.2.2.2.2.1 fb.2.2.2.2.2.2, md_good b⟩
  generalize md a = s at *
  generalize md b = t at *
  have ra := rowOf_cells HBa
  have rb := rowOf_cells HBb
  have hla := Cells.lt HBa
  have hlb := Cells.lt HBb
  clear ht hg h1 h2 HBa HBb fa fb hl hm
  go_enter Tryd.func6, Tryd.ntmps6
  go_upto_region 1 with fail
  generalize ((w.alloc (.cells (stc a ao c1) 30)).alloc (.cells (stc b bo c2) 30)) = wd at *
  have r3 := rowOf_on (B := wd.heap.size) ra hla
  have r4 := rowOf_on (B := wd.heap.size) rb hlb
  have o0 := On.drew wd.heap.size wd
  have o00 := On.refl wd.heap.size wd
  go_cut [7, 8] (fun s7 s8 wx => ∃ g1 g2 aos ks aot kt, s7 = .pointer (some ⟨g1, 0, none⟩) ∧ s8 = .pointer (some ⟨g2, 0, none⟩) ∧ Hid (Two wd g1 g2 s t aos ks aot kt wx))
  case first =>
    go_region_held3 (fun w' => On wd.heap.size wd w') (first | with_reducible assumption | (repeat' (first | with_reducible assumption | with_reducible refine on_drewB ?_ | with_reducible refine on_alloc ?_ | with_reducible refine on_setRow ?_ ?_ _ | omega | (dsimp only; omega)))) (first
      | (go_at_call 22; with_reducible refine (HM1.out _ (Shs_grown HA.out (on_grown (by assumption)) (by simp))).mono ?_; rintro E w4 ⟨ao1, k1, rfl, ho1, hb4⟩; have o4 := on_step (wd := wd) (by assumption) hb4; have z4 := hb4.size; have y4 := on_size o4; (try simp only [drew_size, alloc_size] at z4); (try (refine give (p := okSt w4 wd.heap.size) ?_ ?_; refine okSt_grown hb4 ?_; (first | with_reducible assumption | (focus (refine okSt_new _ _ _ ?_ rfl; simp; done)) | (refine okSt_old _ ?_; (first | with_reducible assumption | (focus (refine okSt_new _ _ _ ?_ rfl; simp; done)) | (refine okSt_old _ ?_; (first | with_reducible assumption | (focus (refine okSt_new _ _ _ ?_ rfl; simp; done)))))) | (refine okSt_drew ?_; (first | with_reducible assumption | (focus (refine okSt_new _ _ _ ?_ rfl; simp; done)) | (refine okSt_old _ ?_; (first | with_reducible assumption | (focus (refine okSt_new _ _ _ ?_ rfl; simp; done))))))); intro q4)); (try (refine give (p := okSt w4 (wd.heap.size + 1)) ?_ ?_; refine okSt_grown hb4 ?_; (first | with_reducible assumption | (focus (refine okSt_new _ _ _ ?_ rfl; simp; done)) | (refine okSt_old _ ?_; (first | with_reducible assumption | (focus (refine okSt_new _ _ _ ?_ rfl; simp; done)) | (refine okSt_old _ ?_; (first | with_reducible assumption | (focus (refine okSt_new _ _ _ ?_ rfl; simp; done)))))) | (refine okSt_drew ?_; (first | with_reducible assumption | (focus (refine okSt_new _ _ _ ?_ rfl; simp; done)) | (refine okSt_old _ ?_; (first | with_reducible assumption | (focus (refine okSt_new _ _ _ ?_ rfl; simp; done))))))); intro p4)); (try have q4' := okRow_st q4); (try have p4' := okRow_st p4); (try have n4 : w4.heap.size ≠ wd.heap.size := (by omega)); (try have n4' := Ne.symm n4))
      | (go_at_call 22; with_reducible refine (HM2.out _ (Shs_grown HB.out (on_grown (by assumption)) (by simp))).mono ?_; rintro E w5 ⟨ao2, k2, rfl, ho2, hb5⟩; have o5 := on_step (wd := wd) (by assumption) hb5; have z5 := hb5.size; have y5 := on_size o5; (try simp only [drew_size, alloc_size] at z5); have ho1' : w5.ownsRow 0 46 6 (.slice ao1 s.ss.length k1) s.ss.length (Hall s.ss) := (by first | exact owns_less (World.ownsRow.kept ho1 hb5 (Classical.em _)) (Nat.zero_le _) | exact owns_less (World.ownsRow.kept (World.ownsRow.alloc ho1 _) hb5 (Classical.em _)) (Nat.zero_le _) | exact owns_less (World.ownsRow.kept (World.ownsRow.alloc (World.ownsRow.alloc ho1 _) _) hb5 (Classical.em _)) (Nat.zero_le _)); (try (refine give (p := okSt w5 wd.heap.size) ?_ ?_; refine okSt_grown hb5 ?_; (first | with_reducible assumption | (focus (refine okSt_new _ _ _ ?_ rfl; simp; done)) | (refine okSt_old _ ?_; (first | with_reducible assumption | (focus (refine okSt_new _ _ _ ?_ rfl; simp; done)) | (refine okSt_old _ ?_; (first | with_reducible assumption | (focus (refine okSt_new _ _ _ ?_ rfl; simp; done)))))) | (refine okSt_drew ?_; (first | with_reducible assumption | (focus (refine okSt_new _ _ _ ?_ rfl; simp; done)) | (refine okSt_old _ ?_; (first | with_reducible assumption | (focus (refine okSt_new _ _ _ ?_ rfl; simp; done))))))); intro q5)); (try (refine give (p := okSt w5 (wd.heap.size + 1)) ?_ ?_; refine okSt_grown hb5 ?_; (first | with_reducible assumption | (focus (refine okSt_new _ _ _ ?_ rfl; simp; done)) | (refine okSt_old _ ?_; (first | with_reducible assumption | (focus (refine okSt_new _ _ _ ?_ rfl; simp; done)) | (refine okSt_old _ ?_; (first | with_reducible assumption | (focus (refine okSt_new _ _ _ ?_ rfl; simp; done)))))) | (refine okSt_drew ?_; (first | with_reducible assumption | (focus (refine okSt_new _ _ _ ?_ rfl; simp; done)) | (refine okSt_old _ ?_; (first | with_reducible assumption | (focus (refine okSt_new _ _ _ ?_ rfl; simp; done))))))); intro p5)); (try (refine give (p := okSt w5 w4.heap.size) ?_ ?_; refine okSt_grown hb5 ?_; (first | with_reducible assumption | (focus (refine okSt_new _ _ _ ?_ rfl; simp; done)) | (refine okSt_old _ ?_; (first | with_reducible assumption | (focus (refine okSt_new _ _ _ ?_ rfl; simp; done)) | (refine okSt_old _ ?_; (first | with_reducible assumption | (focus (refine okSt_new _ _ _ ?_ rfl; simp; done)))))) | (refine okSt_drew ?_; (first | with_reducible assumption | (focus (refine okSt_new _ _ _ ?_ rfl; simp; done)) | (refine okSt_old _ ?_; (first | with_reducible assumption | (focus (refine okSt_new _ _ _ ?_ rfl; simp; done))))))); intro q6)); (try (refine give (p := okSt w5 (w4.heap.size + 1)) ?_ ?_; refine okSt_grown hb5 ?_; (first | with_reducible assumption | (focus (refine okSt_new _ _ _ ?_ rfl; simp; done)) | (refine okSt_old _ ?_; (first | with_reducible assumption | (focus (refine okSt_new _ _ _ ?_ rfl; simp; done)) | (refine okSt_old _ ?_; (first | with_reducible assumption | (focus (refine okSt_new _ _ _ ?_ rfl; simp; done)))))) | (refine okSt_drew ?_; (first | with_reducible assumption | (focus (refine okSt_new _ _ _ ?_ rfl; simp; done)) | (refine okSt_old _ ?_; (first | with_reducible assumption | (focus (refine okSt_new _ _ _ ?_ rfl; simp; done))))))); intro p6)); have ho2' := owns_less (B' := 0) ho2 (Nat.zero_le _); (try have q5' := okRow_st q5); (try have p5' := okRow_st p5); (try have q6' := okRow_st q6); (try have p6' := okRow_st p6); (try have q5'' := fun o => okRow_old w5 _ o q5'); (try have p5'' := fun o => okRow_old w5 _ o p5'); (try have q6'' := fun o => okRow_old w5 _ o q6'); (try have p6'' := fun o => okRow_old w5 _ o p6'); (try have n5 : w5.heap.size ≠ wd.heap.size := (by omega)); (try have n5' := Ne.symm n5); (try have n6 : w5.heap.size ≠ w4.heap.size := (by omega)); (try have n6' := Ne.symm n6)))
    all_goals go_wp2_with fail
    all_goals go_meet
    all_goals refine ⟨_, _, _, _, _, _, rfl, rfl, two_fin (B1 := 0) (B2 := 0) ?_ ?_ ?_ ?_ ?_ ?_ ?_ ?_ HMA.out.1 HMB.out.1⟩
    all_goals first | (first | omega | (simp; omega) | (simp; done)) | (first | with_reducible assumption | (refine on_alloc ?_; with_reducible assumption) | (refine on_alloc (on_alloc ?_); with_reducible assumption)) | (first | with_reducible assumption | (focus (refine okSt_new _ _ _ ?_ rfl; simp; done)) | (refine okSt_old _ ?_; (first | with_reducible assumption | (focus (refine okSt_new _ _ _ ?_ rfl; simp; done)) | (refine okSt_old _ ?_; (first | with_reducible assumption | (focus (refine okSt_new _ _ _ ?_ rfl; simp; done)))))) | (refine okSt_drew ?_; (first | with_reducible assumption | (focus (refine okSt_new _ _ _ ?_ rfl; simp; done)) | (refine okSt_old _ ?_; (first | with_reducible assumption | (focus (refine okSt_new _ _ _ ?_ rfl; simp; done))))))) | (first | exact ho1' | exact World.ownsRow.alloc ho1' _ | exact World.ownsRow.alloc (World.ownsRow.alloc ho1' _) _) | (first | exact ho2' | exact World.ownsRow.alloc ho2' _ | exact World.ownsRow.alloc (World.ownsRow.alloc ho2' _) _)
  case rest =>
  obtain ⟨g1, g2, aos, ks, aot, kt, rfl, rfl, HTW⟩ := hcut
  obtain ⟨hon, hb1, hb2, hs1, hs2⟩ := HTW.out
  have HGc := Lib.hid (HG.out.trans (on_grown hon))
  have HTc := Lib.hid (tab_grown HT.out (on_grown hon) (by simp))
  have rs := rowOf_on (B := wc.heap.size) (rowOf_cells hb1) (Cells.lt hb1)
  have rt := rowOf_on (B := wc.heap.size) (rowOf_cells hb2) (Cells.lt hb2)
  have hg1 := Cells.lt hb1
  have hg2 := Cells.lt hb2
  have HS1 := Lib.hid hs1
  have HS2 := Lib.hid hs2
  have o0 := On.drew wc.heap.size wc
  clear HTW hon hb1 hb2 hs1 hs2 HG HT HM1 HM2 r3 r4 o00 ra rb hla hlb HA HB
  have HL8 : Hid (s.ss.length ≤ maxLen ∧ t.ss.length ≤ maxLen) := ⟨by have := good_few HMA.out.2; simp only [maxLen]; omega, by have := good_few HMB.out.2; simp only [maxLen]; omega⟩
  go_wp2_with fail
  go_region_held3 (fun w' => On wc.heap.size wc w') (first | with_reducible assumption) (first
    | (go_at_call 13; with_reducible refine (put_good s aos ks _ (Shs_grown HS1.out (on_grown (by assumption)) (by simp)) HMA.out.1 HMA.out.2 (tab_grown HTc.out (on_grown (by assumption)) (by simp))).mono ?_; rintro E w4 ⟨rfl, hb4⟩; have o4 := on_step (wd := wc) (by assumption) hb4)
    | (go_at_call 13; with_reducible refine (put_good t aot kt _ (Shs_grown HS2.out (on_grown (by assumption)) (by simp)) HMB.out.1 HMB.out.2 (tab_grown HTc.out (on_grown (by assumption)) (by simp))).mono ?_; rintro E w5 ⟨rfl, hb5⟩; have o5 := on_step (wd := wc) (by assumption) hb5))
  have HO5 := Lib.hid o5
  have q1 := rs w5 o5
  have q2 := rt w5 o5
  have hlt1 := keep_lt (on_grown o5) _ hg1
  have hlt2 := keep_lt (on_grown o5) _ hg2
  clear o0 o4 o5 hb4 hb5 rs rt
  obtain ⟨x, hx⟩ : ∃ x, x = ste s := ⟨_, rfl⟩
  obtain ⟨y, hy⟩ : ∃ y, y = ste t := ⟨_, rfl⟩
  have HXE := Lib.hid hx
  have HYE := Lib.hid hy
  have hxn : x ≠ [] := fun e => by have := congrArg List.length (hx.symm.trans e); simp [ste, le_length] at this
  have hyn : y ≠ [] := fun e => by have := congrArg List.length (hy.symm.trans e); simp [ste, le_length] at this
  rw [← hx, ← hy]
  have e1 : (str x).toList.isEmpty = false := by rw [ByteArray.toList_eq, str_data]; cases hh : x; exact absurd hh hxn; rfl
  have e2 : (str y).toList.isEmpty = false := by rw [ByteArray.toList_eq, str_data]; cases hh : y; exact absurd hh hyn; rfl
  have hxl : 0 < x.length := List.length_pos_iff.2 hxn
  have hsz := str_size x
  have HXL : Hid (x.length ≤ 300) := by
    show _ ≤ _
    have h1 := pe_len s.p
    have h2 := pe_len s.q
    have h3 := hes_len s.ss
    have h4 := (vr_len s.ss.length).2
    have h5 := good_few HMA.out.2
    rw [hx]
    simp only [ste, List.length_append, le_length, h1, h2, h3]
    omega
  have HEQ : Hid (((str x).toList == (str y).toList) = same s t) := by
    show _ = _
    rw [ByteArray.toList_eq, ByteArray.toList_eq, str_data, str_data, hx, hy]
    by_cases h : s = t
    · subst h; simp [same]
    · rw [show same s t = false from decide_eq_false h]
      exact beq_eq_false_iff_ne.2 (fun e => h (ste_inj HMA.out.1 HMB.out.1 HMA.out.2 HMB.out.2 e))
  clear hx hy hxn hyn
  go_wp2_with fail
  have HS1b := Lib.hid (Shs_grown HS1.out (on_grown HO5.out) (by simp))
  have HS2b := Lib.hid (Shs_grown HS2.out (on_grown HO5.out) (by simp))
  have HTb := Lib.hid (tab_grown HTc.out (on_grown HO5.out) (by simp))
  have HGb := Lib.hid (HGc.out.trans (on_grown HO5.out))
  clear HS1 HS2 HTc HGc HO5
  refine (check_c s aos ks _ HS1b.out HMA.out.1 HTb.out).mono ?_
  rintro E w6 ⟨rfl, hb6⟩
  rw [chk_yes HMA.out.2]
  have q1b : rowOf w6 g1 = stc s aos ks := by rw [keep_row hb6 _ hlt1, q1]
  have q2b : rowOf w6 g2 = stc t aot kt := by rw [keep_row hb6 _ hlt2, q2]
  have hlt1b := keep_lt hb6 _ hlt1
  have hlt2b := keep_lt hb6 _ hlt2
  have HS1c := Lib.hid (Shs_grown HS1b.out hb6 (by simp))
  have HS2c := Lib.hid (Shs_grown HS2b.out hb6 (by simp))
  have HTc := Lib.hid (tab_grown HTb.out hb6 (by simp))
  have HGc := Lib.hid (HGb.out.trans hb6)
  have HTK : Hid (∀ W, Tab W → Calls Tryd.prog 18 #[.string (str x)] W fun E w' => ∃ ao cap, E = .returned (.tuple #[sv s ao cap, .int .i64 0]) ∧ Shs w' ao s.ss ∧ W.grownBy w' none) := fun W h => by
    rw [HXE.out]
    exact take_good s W HMA.out.1 HMA.out.2 (by rw [← HXE.out]; have := HXL.out; omega) h
  clear HS1b HS2b HTb HGb q1 q2 hlt1 hlt2 hb6
  go_wp2_with fail
  refine (HTK.out _ HTc.out).mono ?_
  rintro E w7 ⟨ao7, k7, rfl, hs7, hb7⟩
  have hgz := hb7.trans (grown_own w7 (.cells #[.int .u64 0, .int .u64 0, .int .i32 0, .int .i32 0, .int .i32 0, .int .i32 0, .int .u8 0, .int .u8 0, .int .u8 0, .int .i32 0, .int .i32 0, .int .i32 0, .int .i32 0, .int .u8 0, .int .u8 0, .int .u8 0, .slice none 0 0, .int .u16 0, .int .u16 0] 30) (stc s ao7 k7))
  have q1c : rowOf ((w7.alloc (.cells #[.int .u64 0, .int .u64 0, .int .i32 0, .int .i32 0, .int .i32 0, .int .i32 0, .int .u8 0, .int .u8 0, .int .u8 0, .int .i32 0, .int .i32 0, .int .i32 0, .int .i32 0, .int .u8 0, .int .u8 0, .int .u8 0, .slice none 0 0, .int .u16 0, .int .u16 0] 30)).setRow w7.heap.size (stc s ao7 k7)) g1 = stc s aos ks := by rw [keep_row hgz _ hlt1b, q1b]
  have q2c : rowOf ((w7.alloc (.cells #[.int .u64 0, .int .u64 0, .int .i32 0, .int .i32 0, .int .i32 0, .int .i32 0, .int .u8 0, .int .u8 0, .int .u8 0, .int .i32 0, .int .i32 0, .int .i32 0, .int .i32 0, .int .u8 0, .int .u8 0, .int .u8 0, .slice none 0 0, .int .u16 0, .int .u16 0] 30)).setRow w7.heap.size (stc s ao7 k7)) g2 = stc t aot kt := by rw [keep_row hgz _ hlt2b, q2b]
  have q7c : rowOf ((w7.alloc (.cells #[.int .u64 0, .int .u64 0, .int .i32 0, .int .i32 0, .int .i32 0, .int .i32 0, .int .u8 0, .int .u8 0, .int .u8 0, .int .i32 0, .int .i32 0, .int .i32 0, .int .i32 0, .int .u8 0, .int .u8 0, .int .u8 0, .slice none 0 0, .int .u16 0, .int .u16 0] 30)).setRow w7.heap.size (stc s ao7 k7)) w7.heap.size = stc s ao7 k7 := rowOf_own _ _ _ _
  have hlt1c := keep_lt hgz _ hlt1b
  have hlt2c := keep_lt hgz _ hlt2b
  have HS1d := Lib.hid (Shs_grown HS1c.out hgz (by simp))
  have HS2d := Lib.hid (Shs_grown HS2c.out hgz (by simp))
  have HS7d := Lib.hid (Shs_grown hs7 (grown_own w7 (.cells #[.int .u64 0, .int .u64 0, .int .i32 0, .int .i32 0, .int .i32 0, .int .i32 0, .int .u8 0, .int .u8 0, .int .u8 0, .int .i32 0, .int .i32 0, .int .i32 0, .int .i32 0, .int .u8 0, .int .u8 0, .int .u8 0, .slice none 0 0, .int .u16 0, .int .u16 0] 30) (stc s ao7 k7)) (by simp))
  have HTd := Lib.hid (tab_grown HTc.out hgz (by simp))
  have HGd := Lib.hid (HGc.out.trans hgz)
  clear HS1c HS2c HTc HGc q1b q2b hlt1b hlt2b hb7 hgz hs7 HTK
  go_wp2_with fail
  refine (same_self s ao7 aos k7 ks _ HS7d.out HS1d.out HL8.out.1).mono ?_
  rintro E w8 ⟨rfl, hb8⟩
  have q1d : rowOf w8 g1 = stc s aos ks := by rw [keep_row hb8 _ hlt1c, q1c]
  have q2d : rowOf w8 g2 = stc t aot kt := by rw [keep_row hb8 _ hlt2c, q2c]
  have HS1e := Lib.hid (Shs_grown HS1d.out hb8 (by simp))
  have HS2e := Lib.hid (Shs_grown HS2d.out hb8 (by simp))
  have HTe := Lib.hid (tab_grown HTd.out hb8 (by simp))
  have HGe := Lib.hid (HGd.out.trans hb8)
  clear HS1d HS2d HS7d HTd HGd q1c q2c q7c hlt1c hlt2c hb8
  obtain ⟨b9, hb9⟩ : ∃ b9, same s t = b9 := ⟨_, rfl⟩
  have HSM : Hid (∀ W, Shs W aos s.ss → Shs W aot t.ss → Calls Tryd.prog 21 #[sv s aos ks, sv t aot kt] W fun E w' => E = .returned (.bool b9) ∧ W.grownBy w' none) := fun W h1 h2 => by
    rw [← hb9]
    exact same_c s t aos aot ks kt W h1 h2 HL8.out.1 HL8.out.2
  have heq := HEQ.out
  rw [hb9] at heq
  clear hb9 HEQ
  go_wp2_with fail
  refine (HSM.out _ HS1e.out HS2e.out).mono ?_
  rintro E w10 ⟨rfl, hb10⟩
  have hbb : (b9 == b9) = true := by simp
  have HTf := Lib.hid (tab_grown HTe.out hb10 (by simp))
  have HGf := Lib.hid (HGe.out.trans hb10)
  clear hb10 HTe HGe HS1e HS2e HSM q1d q2d
  obtain ⟨q, hq⟩ : ∃ q, q = n % x.length := ⟨_, rfl⟩
  have hqm : ((n : Int)).tmod ((x.length : Nat) : Int) = (q : Int) := by rw [Int.tmod_eq_emod_of_nonneg (by omega), hq]; rfl
  have hqm2 : (n : Int) % ((x.length : Nat) : Int) = (q : Int) := by rw [hq]; rfl
  have hqx : q < x.length := by rw [hq]; exact Nat.mod_lt _ hxl
  have hxn0 : ((x.length : Int) == 0) = false := beq_eq_false_iff_ne.2 (by omega)
  have hcut : (str x).extract 0 q = str (x.take q) := str_cut x q
  have HF1 : Hid (∀ W, Tab W → Calls Tryd.prog 23 #[.string (str (x.take q)), .int .i64 10] W fun E w' => E = .returned (.bool true) ∧ W.grownBy w' none) := fun W h =>
    fails_c (x.take q) 10 W (by have := HXL.out; simp; omega) h (tst_cut HMA.out.1 HMA.out.2 (x.take q) (x.drop q) (by rw [List.take_append_drop, HXE.out]) (fun e => by have := congrArg List.length e; simp at this; omega))
  have HF2 : Hid (∀ W, Tab W → Calls Tryd.prog 23 #[.string (str (x ++ [0])), .int .i64 4] W fun E w' => E = .returned (.bool true) ∧ W.grownBy w' none) := fun W h =>
    fails_c (x ++ [0]) 4 W (by have := HXL.out; simp; omega) h (by rw [HXE.out]; exact tst_more HMA.out.1 HMA.out.2 0)
  have hap : str x ++ ⟨#[0]⟩ = str (x ++ [0]) := str_append x [0]
  have hxl3 : x.length ≤ 300 := HXL.out
  clear hq
  go_wp2_with fail
  refine (HF1.out _ HTf.out).mono ?_
  rintro E w11 ⟨rfl, hb11⟩
  have HTg := Lib.hid (tab_grown HTf.out hb11 (by simp))
  have HGg := Lib.hid (HGf.out.trans hb11)
  clear hb11 HTf HGf
  go_wp2_with fail
  refine (HF2.out _ HTg.out).mono ?_
  rintro E w12 ⟨rfl, hb12⟩
  have HTh := Lib.hid (tab_grown HTg.out hb12 (by simp))
  have HGh := Lib.hid (HGg.out.trans hb12)
  clear hb12 HTg HGg
  go_wp2_with fail
  refine (works_c _ HTh.out).mono ?_
  rintro E w13 ⟨rfl, hb13⟩
  go_wp2
  go_ret
  exact ⟨rfl, HGh.out.trans hb13⟩
theorem law_back (a b : St) (ao bo : Option Addr) (c1 c2 : Nat) (n : Int) (w : World) (hn : 0 ≤ n ∧ n ≤ 65535) (h1 : Shs w ao a.ss) (h2 : Shs w bo b.ss) (fa : a.fit) (fb : b.fit) (hl : a.ss.length ≤ maxLen) (hm : b.ss.length ≤ maxLen) (ht : Tab w) :
    Calls Tryd.prog 6 #[sv a ao c1, sv b bo c2, .int .u16 n] w fun E w' => E = .returned (.bool true) ∧ Below w.heap.size w w' := by
  obtain ⟨k, rfl⟩ := Int.eq_ofNat_of_zero_le hn.1
  exact (lawBack a b ao bo c1 c2 k w (by omega) h1 h2 fa fb hl hm ht).mono fun E w' h => ⟨h.1, below_of_grown h.2⟩
end Go.Proofs.YtbmkmmkebophpaaDoor
