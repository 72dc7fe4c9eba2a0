/- The statements' own fails and works: contracts. -/
import Derived.Test.YtbmkmmkebophpaaDoorSn
import Derived.Deep.RegionHeld3
namespace Go.Proofs.YtbmkmmkebophpaaDoor
open Go.RowKit
set_option linter.unusedVariables false

theorem shs_nil (w : World) (ao : Option Addr) : Shs w ao [] := fun k h => by simp at h
theorem rowOf_setRow (w : World) (g : Nat) (cs : Array Value) (h : okRow w g) : rowOf (w.setRow g cs) g = cs := by
  obtain ⟨old, t, ho, _⟩ := h
  exact rowOf_cells (setRow_heap w g old cs t _ ho)
theorem okRow_setRow (w : World) (g : Nat) (cs : Array Value) (h : okRow w g) (hs : cs.size = 19) : okRow (w.setRow g cs) g := by
  obtain ⟨old, t, ho, _⟩ := h
  exact ⟨cs, t, setRow_heap w g old cs t _ ho, hs⟩
theorem rowOf_own (w : World) (z cs : Array Value) (t : TypeId) : rowOf ((w.alloc (.cells z t)).setRow w.heap.size cs) w.heap.size = cs := rowOf_cells (setRow_heap _ _ z cs t _ (Cells.made w t z))
attribute [local go_sem ↓] loadAt_state storeAt_state
attribute [local go_sem] run_loadState rowOf_new rowOf_old rowOf_drew rowOf_drewN run_storeOk okRow_new okRow_old Value.oneCell' rowOf_own
theorem grown_own (w : World) (o : Obj) (cs : Array Value) : w.grownBy ((w.alloc o).setRow w.heap.size cs) none :=
  grown_of_below (below_setRow ((Below.refl _ w).alloc (Nat.le_refl _) _) (Nat.le_refl _) _)
set_option maxHeartbeats 1000000 in
set_option maxRecDepth 20000 in
theorem fails_c (l : List UInt8) (c : Int) (w : World) (hl : l.length ≤ 1099511627776) (ht : Tab w) (he : tst l = (c, .zero)) :
    Calls Tryd.prog 23 #[.string (str l), .int .i64 c] w fun E w' => E = .returned (.bool true) ∧ w.grownBy w' none := by
  have H : Hid (Calls Tryd.prog 18 #[.string (str l)] w fun E w' => ∃ ao cap, E = .returned (.tuple #[sv .zero ao cap, .int .i64 c]) ∧ w.grownBy w' none) :=
    (stTake l w hl ht).mono fun E w' ⟨ao, cap, e, ho, hb⟩ => ⟨ao, cap, by rw [he] at e; exact e, hb⟩
  have hcc : (c == c) = true := by simp
  clear he hl ht
  go_enter Tryd.func23, Tryd.ntmps23
  go_wp2_with fail
  refine H.out.mono ?_
  rintro E w1 ⟨ao, cap, rfl, hb1⟩
  have HB1 := Lib.hid hb1
  clear hb1
  go_wp2_with fail
  refine (same_c .zero .zero ao none cap 0 _ (shs_nil _ _) (shs_nil _ _) (by simp [St.zero]) (by simp [St.zero])).mono ?_
  rintro E w2 ⟨rfl, hb2⟩
  rw [show same .zero .zero = true from decide_eq_true rfl]
  have HB2 := Lib.hid hb2
  clear hb2
  go_wp2
  go_ret
  exact ⟨rfl, (HB1.out.trans (grown_own _ _ _)).trans HB2.out⟩
theorem good_frst : frst.good = true := by decide
theorem fit_frst : frst.fit := ⟨by decide, by decide, ⟨⟨by decide, by decide⟩, ⟨by decide, by decide⟩, ⟨by decide, by decide⟩, ⟨by decide, by decide⟩, by decide, by decide, by decide⟩, ⟨⟨by decide, by decide⟩, ⟨by decide, by decide⟩, ⟨by decide, by decide⟩, ⟨by decide, by decide⟩, by decide, by decide, by decide⟩, fun x hx => by
  obtain rfl : x = shot1 := by simpa [frst] using hx
  exact fit_shot1, by decide, by decide⟩
theorem good_start1 : (start 1).good = true := by decide
theorem fit_start0 : (start 0).fit := ⟨by decide, by decide, ⟨⟨by decide, by decide⟩, ⟨by decide, by decide⟩, ⟨by decide, by decide⟩, ⟨by decide, by decide⟩, by decide, by decide, by decide⟩, ⟨⟨by decide, by decide⟩, ⟨by decide, by decide⟩, ⟨by decide, by decide⟩, ⟨by decide, by decide⟩, by decide, by decide, by decide⟩, fun x hx => by simp [start] at hx, by decide, by decide⟩
theorem fit_start {n : Nat} (hn : n < 18446744073709551616) : (start n).fit := ⟨fit_start0.1, hn, fit_start0.2.2⟩
theorem len_frst : (ste frst).length = 77 := by
  have h1 := pe_len frst.p
  have h2 := pe_len frst.q
  have h3 := hes_len frst.ss
  have h4 : (vr 1).length = 1 := rfl
  have h5 : frst.ss.length = 1 := rfl
  simp only [ste, List.length_append, le_length, h1, h2, h3, h5, h4]
theorem len_start : (ste (start 1)).length = 59 := by
  have h1 := pe_len (start 1).p
  have h2 := pe_len (start 1).q
  have h3 := hes_len (start 1).ss
  have h4 : (vr 0).length = 1 := rfl
  have h5 : (start 1).ss.length = 0 := rfl
  simp only [ste, List.length_append, le_length, h1, h2, h3, h5, h4]
theorem tst_nil : tst [] = (10, .zero) := by
  have := tst_cut (fit_start (n := 1) (by decide)) good_start1 [] (ste (start 1)) rfl (fun e => by have := len_start; rw [e] at this; simp at this)
  exact this
theorem rowOf_on {B : Nat} {wd : World} {g : Nat} {cs : Array Value} (h : rowOf wd g = cs) (hg : g < B) : ∀ w', On B wd w' → rowOf w' g = cs := fun w' o => by
  unfold rowOf at h ⊢; rw [Below.block o g hg]; exact h
theorem same_self (a : St) (ao bo : Option Addr) (c1 c2 : Nat) (w : World) (h1 : Shs w ao a.ss) (h2 : Shs w bo a.ss) (hl : a.ss.length ≤ maxLen) :
    Calls Tryd.prog 21 #[sv a ao c1, sv a bo c2] w fun E w' => E = .returned (.bool true) ∧ w.grownBy w' none :=
  (same_c a a ao bo c1 c2 w h1 h2 hl hl).mono fun E w' ⟨e, h⟩ => ⟨by rw [e]; simp [same], h⟩
theorem put_good (a : St) (ao : Option Addr) (cap : Nat) (w : World) (h : Shs w ao a.ss) (hf : a.fit) (hg : a.good = true) (ht : Tab w) :
    Calls Tryd.prog 13 #[sv a ao cap] w fun E w' => E = .returned (.string (str (ste a))) ∧ w.grownBy w' none :=
  (put_c a ao cap w h hf ht).mono fun E w' ⟨e, h⟩ => ⟨by rw [e, sput_yes hg], h⟩
theorem take_good (a : St) (w : World) (hf : a.fit) (hg : a.good = true) (hl : (ste a).length ≤ 1099511627776) (ht : Tab w) :
    Calls Tryd.prog 18 #[.string (str (ste a))] w fun E w' => ∃ ao cap, E = .returned (.tuple #[sv a ao cap, .int .i64 0]) ∧ Shs w' ao a.ss ∧ w.grownBy w' none :=
  (stTake _ w hl ht).mono fun E w' ⟨ao, cap, e, ho, hb⟩ => by
    rw [tst_back hf hg] at e ho
    exact ⟨ao, cap, e, shs_own ho rfl hf.2.2.2.2.1, hb⟩
set_option maxHeartbeats 2000000 in
set_option maxRecDepth 20000 in
theorem works_c (w : World) (ht : Tab w) : Calls Tryd.prog 9 #[] w fun E w' => E = .returned (.bool true) ∧ w.grownBy w' none := by
  have HT := Lib.hid ht
  clear ht
  go_enter Tryd.func9, Tryd.ntmps9
  go_wp2_with fail
  refine (first_c _).mono ?_
  rintro E w1 ⟨g, rfl, hg, hs1, hb1⟩
  have HT1 := Lib.hid (tab_grown HT.out hb1 (by simp))
  have HS1 := Lib.hid hs1
  have HB1 := Lib.hid hb1
  clear hs1 hb1 hg HT
  go_wp2_with fail
  refine (put_good frst _ 1 _ HS1.out fit_frst good_frst HT1.out).mono ?_
  rintro E w2 ⟨rfl, hb2⟩
  have HB2 := Lib.hid (HB1.out.trans hb2)
  have HT2 := Lib.hid (tab_grown HT1.out hb2 (by simp))
  clear hb2 HB1 HS1 HT1
  go_wp2_with fail
  refine (take_good frst _ fit_frst good_frst (by rw [len_frst]; decide) HT2.out).mono ?_
  rintro E w3 ⟨ao, cap, rfl, hs3, hb3⟩
  have HB3 := Lib.hid (HB2.out.trans hb3)
  have HT3 := Lib.hid (tab_grown HT2.out hb3 (by simp))
  have HS3 := Lib.hid hs3
  clear hs3 hb3 HB2 HT2
  have hsz : (str (ste frst)).size = 77 := by rw [str_size, len_frst]
  have hsz2 : (str (ste (start 1))).size = 59 := by rw [str_size, len_start]
  go_upto_region 3 with fail
  have hrz : rowOf ((w3.alloc (.cells #[.int .u64 0, .int .u64 0, .int .i32 0, .int .i32 0, .int .i32 0, .int .i32 0, .int .u8 0, .int .u8 0, .int .u8 0, .int .i32 0, .int .i32 0, .int .i32 0, .int .i32 0, .int .u8 0, .int .u8 0, .int .u8 0, .slice none 0 0, .int .u16 0, .int .u16 0] 30)).setRow w3.heap.size (stc frst ao cap)) w3.heap.size = stc frst ao cap := rowOf_own _ _ _ _
  have hgz := grown_own w3 (.cells #[.int .u64 0, .int .u64 0, .int .i32 0, .int .i32 0, .int .i32 0, .int .i32 0, .int .u8 0, .int .u8 0, .int .u8 0, .int .i32 0, .int .i32 0, .int .i32 0, .int .i32 0, .int .u8 0, .int .u8 0, .int .u8 0, .slice none 0 0, .int .u16 0, .int .u16 0] 30) (stc frst ao cap)
  have hlz : w3.heap.size < ((w3.alloc (.cells #[.int .u64 0, .int .u64 0, .int .i32 0, .int .i32 0, .int .i32 0, .int .i32 0, .int .u8 0, .int .u8 0, .int .u8 0, .int .i32 0, .int .i32 0, .int .i32 0, .int .i32 0, .int .u8 0, .int .u8 0, .int .u8 0, .slice none 0 0, .int .u16 0, .int .u16 0] 30)).setRow w3.heap.size (stc frst ao cap)).heap.size := by simp
  generalize (w3.alloc (.cells #[.int .u64 0, .int .u64 0, .int .i32 0, .int .i32 0, .int .i32 0, .int .i32 0, .int .u8 0, .int .u8 0, .int .u8 0, .int .i32 0, .int .i32 0, .int .i32 0, .int .i32 0, .int .u8 0, .int .u8 0, .int .u8 0, .slice none 0 0, .int .u16 0, .int .u16 0] 30)).setRow w3.heap.size (stc frst ao cap) = wz at *
  have r0 := rowOf_on hrz hlz
  have HBZ := Lib.hid (HB3.out.trans hgz)
  have HTZ := Lib.hid (tab_grown HT3.out hgz (by simp))
  have HSZ := Lib.hid (Shs_grown HS3.out hgz (by simp))
  clear hrz hgz hlz HB3 HT3 HS3
  have o0 := On.drew wz.heap.size wz
  go_region_held3 (fun w' => On wz.heap.size wz w') (first | with_reducible assumption) (first
    | (go_at_call 24; refine (first_c _).mono ?_; rintro E w4 ⟨g4, rfl, hg4, hs4, hb4⟩; have o4 := on_step (wd := wz) (by assumption) hb4)
    | (go_at_call 21; refine (same_self frst ao _ cap 1 _ (Shs_grown HSZ.out (on_grown (by assumption)) (by simp)) (by assumption) (by decide)).mono ?_; rintro E w4 ⟨rfl, hb4⟩; have o4 := on_step (wd := wz) (by assumption) hb4)
    | (go_at_call 23; refine (fails_c [] 10 _ (by decide) (tab_grown HTZ.out (on_grown (by assumption)) (by simp)) tst_nil).mono ?_; rintro E w4 ⟨rfl, hb4⟩; have o4 := on_step (wd := wz) (by assumption) hb4)
    | (go_at_call 16; refine (start_c 1 _).mono ?_; rintro E w4 ⟨rfl, hb4⟩; have o4 := on_step (wd := wz) (by assumption) hb4)
    | (go_at_call 13; refine (put_good (start 1) none 0 _ (shs_nil _ _) (fit_start (by decide)) good_start1 (tab_grown HTZ.out (on_grown (by assumption)) (by simp))).mono ?_; rintro E w4 ⟨rfl, hb4⟩; have o4 := on_step (wd := wz) (by assumption) hb4))
  go_wp2
  go_ret
  exact ⟨rfl, HBZ.out.trans (on_grown o4)⟩
end Go.Proofs.YtbmkmmkebophpaaDoor
