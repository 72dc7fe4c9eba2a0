/- The statement StatePuts: which states may be, and their bytes, are as the document says; the state stays: the Go function returns true. Conditions: the table of bounds lies in its variable. -/
import Derived.Test.YtbmkmmkebophpaaDoorSi
import Derived.Test.YtbmkmmkebophpaaDoorSv
import Derived.Test.YtbmkmmkebophpaaDoorSx0
import Derived.Deep.RegionHeld3
namespace Go.Proofs.YtbmkmmkebophpaaDoor
open Go.RowKit
set_option linter.unusedVariables false
set_option linter.unusedSimpArgs false

attribute [local go_sem ↓] loadAt_state storeAt_state storeAt_pl
attribute [local go_sem] run_loadState rowOf_new rowOf_old rowOf_drew rowOf_drewN run_storeOk okRow_new okRow_old Value.oneCell' rowOf_own
set_option maxHeartbeats 2000000 in
set_option maxRecDepth 20000 in
theorem refStart_c (n : Nat) (w : World) : Calls Tryd.prog 17 #[.int .u64 (n : Int)] w fun E w' => E = .returned (sv (start n) none 0) ∧ w.grownBy w' none := by
  go_enter Tryd.func17, Tryd.ntmps17
  go_upto_region 2 with fail
  have HB : Hid (Bk (((w.alloc (.cells #[.int .u64 0, .int .u64 0, .int .i32 0, .int .i32 0, .int .i32 0, .int .i32 0, .int .u8 0, .int .u8 0, .int .u8 0, .int .i32 0, .int .i32 0, .int .i32 0, .int .i32 0, .int .u8 0, .int .u8 0, .int .u8 0, .slice none 0 0, .int .u16 0, .int .u16 0] 30)).alloc (.cells #[.int .u64 0, .int .u64 0, .int .i32 0, .int .i32 0, .int .i32 0, .int .i32 0, .int .u8 0, .int .u8 0, .int .u8 0, .int .i32 0, .int .i32 0, .int .i32 0, .int .i32 0, .int .u8 0, .int .u8 0, .int .u8 0, .slice none 0 0, .int .u16 0, .int .u16 0] 30)).setRow (w.heap.size + 1) #[.int .u64 0, .int .u64 (n : Int), .int .i32 0, .int .i32 0, .int .i32 0, .int .i32 0, .int .u8 0, .int .u8 0, .int .u8 0, .int .i32 0, .int .i32 0, .int .i32 0, .int .i32 0, .int .u8 0, .int .u8 0, .int .u8 0, .slice none 0 0, .int .u16 0, .int .u16 0]) (w.heap.size + 1) ⟨0, n, ⟨0, 0, 0, 0, 0, 0, 0⟩, ⟨0, 0, 0, 0, 0, 0, 0⟩, [], 0, 0⟩ none 0) := bk_setRow (heap_alloc2_new w _ _) ⟨0, n, ⟨0, 0, 0, 0, 0, 0, 0⟩, ⟨0, 0, 0, 0, 0, 0, 0⟩, [], 0, 0⟩ none 0
  have HR : Hid (Bk (((w.alloc (.cells #[.int .u64 0, .int .u64 0, .int .i32 0, .int .i32 0, .int .i32 0, .int .i32 0, .int .u8 0, .int .u8 0, .int .u8 0, .int .i32 0, .int .i32 0, .int .i32 0, .int .i32 0, .int .u8 0, .int .u8 0, .int .u8 0, .slice none 0 0, .int .u16 0, .int .u16 0] 30)).alloc (.cells #[.int .u64 0, .int .u64 0, .int .i32 0, .int .i32 0, .int .i32 0, .int .i32 0, .int .u8 0, .int .u8 0, .int .u8 0, .int .i32 0, .int .i32 0, .int .i32 0, .int .i32 0, .int .u8 0, .int .u8 0, .int .u8 0, .slice none 0 0, .int .u16 0, .int .u16 0] 30)).setRow (w.heap.size + 1) #[.int .u64 0, .int .u64 (n : Int), .int .i32 0, .int .i32 0, .int .i32 0, .int .i32 0, .int .u8 0, .int .u8 0, .int .u8 0, .int .i32 0, .int .i32 0, .int .i32 0, .int .i32 0, .int .u8 0, .int .u8 0, .int .u8 0, .slice none 0 0, .int .u16 0, .int .u16 0]) w.heap.size .zero none 0) := cells_far (heap_alloc2_old w _ _) (by omega) _
  have HBW : Hid (Below w.heap.size w (((w.alloc (.cells #[.int .u64 0, .int .u64 0, .int .i32 0, .int .i32 0, .int .i32 0, .int .i32 0, .int .u8 0, .int .u8 0, .int .u8 0, .int .i32 0, .int .i32 0, .int .i32 0, .int .i32 0, .int .u8 0, .int .u8 0, .int .u8 0, .slice none 0 0, .int .u16 0, .int .u16 0] 30)).alloc (.cells #[.int .u64 0, .int .u64 0, .int .i32 0, .int .i32 0, .int .i32 0, .int .i32 0, .int .u8 0, .int .u8 0, .int .u8 0, .int .i32 0, .int .i32 0, .int .i32 0, .int .i32 0, .int .u8 0, .int .u8 0, .int .u8 0, .slice none 0 0, .int .u16 0, .int .u16 0] 30)).setRow (w.heap.size + 1) #[.int .u64 0, .int .u64 (n : Int), .int .i32 0, .int .i32 0, .int .i32 0, .int .i32 0, .int .u8 0, .int .u8 0, .int .u8 0, .int .i32 0, .int .i32 0, .int .i32 0, .int .i32 0, .int .u8 0, .int .u8 0, .int .u8 0, .slice none 0 0, .int .u16 0, .int .u16 0])) := below_setRow (((Below.refl _ w).alloc (Nat.le_refl _) _).alloc (by simp) _) (by omega) _
  generalize ((w.alloc (.cells #[.int .u64 0, .int .u64 0, .int .i32 0, .int .i32 0, .int .i32 0, .int .i32 0, .int .u8 0, .int .u8 0, .int .u8 0, .int .i32 0, .int .i32 0, .int .i32 0, .int .i32 0, .int .u8 0, .int .u8 0, .int .u8 0, .slice none 0 0, .int .u16 0, .int .u16 0] 30)).alloc (.cells #[.int .u64 0, .int .u64 0, .int .i32 0, .int .i32 0, .int .i32 0, .int .i32 0, .int .u8 0, .int .u8 0, .int .u8 0, .int .i32 0, .int .i32 0, .int .i32 0, .int .i32 0, .int .u8 0, .int .u8 0, .int .u8 0, .slice none 0 0, .int .u16 0, .int .u16 0] 30)).setRow (w.heap.size + 1) #[.int .u64 0, .int .u64 (n : Int), .int .i32 0, .int .i32 0, .int .i32 0, .int .i32 0, .int .u8 0, .int .u8 0, .int .u8 0, .int .i32 0, .int .i32 0, .int .i32 0, .int .i32 0, .int .u8 0, .int .u8 0, .int .u8 0, .slice none 0 0, .int .u16 0, .int .u16 0] = wa at *
  obtain ⟨wb, hst, hwb, hgb⟩ : ∃ wb, (storePl (.pointer (some ⟨w.heap.size + 1, 2, none⟩)) (.agg #[.int .i32 8192, .int .i32 14336, .int .i32 0, .int .i32 0, .int .u8 100, .int .u8 0, .int .u8 0])).run Tryd.prog wa = .ok () wb ∧ Bk wb (w.heap.size + 1) ⟨0, n, ⟨8192, 14336, 0, 0, 100, 0, 0⟩, ⟨0, 0, 0, 0, 0, 0, 0⟩, [], 0, 0⟩ none 0 ∧ wa.grownBy wb (some (w.heap.size + 1)) :=
    ⟨_, run_storePl 2 HB.out (by simp) rfl (by simp [Value.oneCell']), setRow_heap _ _ _ _ _ _ HB.out, grown_setRow _ _ _⟩
  have HB2 := Lib.hid hwb
  have HR2 := Lib.hid (bk_grown HR.out hgb (by simp))
  have HL := Lib.hid (Cells.lt HB.out)
  have HBW2 := Lib.hid (HBW.out.trans (grown_nb hgb (fun q e => by cases e; omega) (by have := HL.out; omega)))
  clear hwb hgb HB HR HBW
  go_upto_region 3 with fail
  obtain ⟨wc, hst2, hwc, hgc⟩ : ∃ wc, (storePl (.pointer (some ⟨w.heap.size + 1, 9, none⟩)) (.agg #[.int .i32 53248, .int .i32 14336, .int .i32 0, .int .i32 0, .int .u8 100, .int .u8 0, .int .u8 1])).run Tryd.prog wb = .ok () wc ∧ Bk wc (w.heap.size + 1) (start n) none 0 ∧ wb.grownBy wc (some (w.heap.size + 1)) :=
    ⟨_, run_storePl 9 HB2.out (by simp) rfl (by simp [Value.oneCell']), setRow_heap _ _ _ _ _ _ HB2.out, grown_setRow _ _ _⟩
  have HB3 := Lib.hid hwc
  have HR3 := Lib.hid (bk_grown HR2.out hgc (by simp))
  have HL2 := Lib.hid (Cells.lt HB2.out)
  have HBW3 := Lib.hid (HBW2.out.trans (grown_nb hgc (fun q e => by cases e; omega) (by have := HL2.out; omega)))
  clear hwc hgc HB2 HR2 HBW2 hst
  go_upto_region 4 with fail
  clear hst2
  have hr1 : rowOf wc (w.heap.size + 1) = stc (start n) none 0 := rowOf_cells HB3.out
  have hok : okRow wc w.heap.size := okRow_bk HR3.out
  go_wp2
  refine bodyPost_ret (v := sv (start n) none 0) ?_ rfl ?_
  · exact ret_state _ 2 _ Tryd.results17 (setRow_heap _ _ _ _ _ _ HR3.out) rfl rfl
  · exact ⟨rfl, grown_of_below (below_setRow HBW3.out (Nat.le_refl _) _)⟩
set_option maxHeartbeats 4000000 in
set_option maxRecDepth 20000 in
theorem lawPuts (s : St) (ao : Option Addr) (cap n : Nat) (w : World) (h1 : Shs w ao s.ss) (hf : s.fit) (n1 : ao = none → cap = 0) (hl : s.ss.length ≤ maxLen) (ht : Tab w) :
    Calls Tryd.prog 3 #[sv s ao cap, .int .u64 (n : Int)] w fun E w' => E = .returned (.bool true) ∧ w.grownBy w' none := by
  have hg := grown_alloc w (.cells (stc s ao cap) 30)
  have HT := Lib.hid (tab_grown ht hg (by simp))
  have HG := Lib.hid hg
  by_cases hbig : 100 < s.ss.length
  · have hd : decide ((100 : Int) < (s.ss.length : Int)) = true := decide_eq_true (by omega)
    clear ht hg h1 hbig n1 hf
    go_enter Tryd.func3, Tryd.ntmps3
    go_wp2_with fail
    refine (works_c _ HT.out).mono ?_
    rintro E w1 ⟨rfl, hb1⟩
    go_wp2
    go_ret
    exact ⟨rfl, HG.out.trans hb1⟩
  have hd : decide ((100 : Int) < (s.ss.length : Int)) = false := decide_eq_false (by omega)
  have HF := Lib.hid hf
  have HA := Lib.hid (Shs_grown h1 hg (by simp))
  have HBa : Hid (Bk (w.alloc (.cells (stc s ao cap) 30)) w.heap.size s ao cap) := bk_made w s ao cap
  have HN := Lib.hid n1
  have HLM := Lib.hid hl
  clear ht hg h1 n1 hl hf
  go_enter Tryd.func3, Tryd.ntmps3
  go_wp2_with fail
  refine (refCopy_c s ao cap _ HA.out HN.out (by omega)).mono ?_
  rintro E w1 ⟨ao1, cap1, rfl, hown1, hnil1, hb1⟩
  have hgx := grown_own w1 (.cells #[.int .u64 0, .int .u64 0, .int .i32 0, .int .i32 0, .int .i32 0, .int .i32 0, .int .u8 0, .int .u8 0, .int .u8 0, .int .i32 0, .int .i32 0, .int .i32 0, .int .i32 0, .int .u8 0, .int .u8 0, .int .u8 0, .slice none 0 0, .int .u16 0, .int .u16 0] 30) (stc s ao1 cap1)
  have hs1 := shs_own hown1 rfl HF.out.2.2.2.2.1
  have HS1 := Lib.hid (Shs_grown hs1 hgx (by simp))
  have HA1 := Lib.hid (Shs_grown HA.out (hb1.trans hgx) (by simp))
  have HT1 := Lib.hid (tab_grown HT.out (hb1.trans hgx) (by simp))
  have HG1 := Lib.hid (HG.out.trans (hb1.trans hgx))
  have HBa1 := Lib.hid (bk_grown HBa.out (hb1.trans hgx) (by simp))
  have HBx : Hid (Bk ((w1.alloc (.cells #[.int .u64 0, .int .u64 0, .int .i32 0, .int .i32 0, .int .i32 0, .int .i32 0, .int .u8 0, .int .u8 0, .int .u8 0, .int .i32 0, .int .i32 0, .int .i32 0, .int .i32 0, .int .u8 0, .int .u8 0, .int .u8 0, .slice none 0 0, .int .u16 0, .int .u16 0] 30)).setRow w1.heap.size (stc s ao1 cap1)) w1.heap.size s ao1 cap1) := bk_setRow (Cells.made w1 _ _) s ao1 cap1
  clear hgx hs1 hown1 hnil1 hb1 HA HT HG HBa HN
  go_upto_region 4 with fail
  generalize (w1.alloc (.cells #[.int .u64 0, .int .u64 0, .int .i32 0, .int .i32 0, .int .i32 0, .int .i32 0, .int .u8 0, .int .u8 0, .int .u8 0, .int .i32 0, .int .i32 0, .int .i32 0, .int .i32 0, .int .u8 0, .int .u8 0, .int .u8 0, .slice none 0 0, .int .u16 0, .int .u16 0] 30)).setRow w1.heap.size (stc s ao1 cap1) = wr at *
  have r2 := rowOf_on (B := wr.heap.size) (rowOf_cells HBa1.out) (Cells.lt HBa1.out)
  have r3 := rowOf_on (B := wr.heap.size) (rowOf_cells HBx.out) (Cells.lt HBx.out)
  have hqq : (chk s == chk s) = true := beq_self_eq_true _
  have hqs : ((str (sput s)).toList == (str (sput s)).toList) = true := beq_self_eq_true _
  have o0 := On.drew wr.heap.size wr
  clear HBa1 HBx
  go_region_held3 (fun w' => On wr.heap.size wr w') (first | with_reducible assumption) (first
    | (go_at_call 11; with_reducible refine (check_c s ao1 cap1 _ (Shs_grown HS1.out (on_grown (by assumption)) (by simp)) HF.out (tab_grown HT1.out (on_grown (by assumption)) (by simp))).mono ?_; rintro E w4 ⟨rfl, hb4⟩; have o4 := on_step (wd := wr) (by assumption) hb4)
    | (go_at_call 12; with_reducible refine (refCheck s ao cap _ (Shs_grown HA1.out (on_grown (by assumption)) (by simp))).mono ?_; rintro E w4 ⟨rfl, hb4⟩; have o4 := on_step (wd := wr) (by assumption) hb4)
    | (go_at_call 13; with_reducible refine (put_c s ao1 cap1 _ (Shs_grown HS1.out (on_grown (by assumption)) (by simp)) HF.out (tab_grown HT1.out (on_grown (by assumption)) (by simp))).mono ?_; rintro E w4 ⟨rfl, hb4⟩; have o4 := on_step (wd := wr) (by assumption) hb4)
    | (go_at_call 14; with_reducible refine (refPut s ao cap _ (Shs_grown HA1.out (on_grown (by assumption)) (by simp)) HF.out).mono ?_; rintro E w4 ⟨rfl, hb4⟩; have o4 := on_step (wd := wr) (by assumption) hb4)
    | (go_at_call 16; with_reducible refine (start_c n _).mono ?_; rintro E w4 ⟨rfl, hb4⟩; have o4 := on_step (wd := wr) (by assumption) hb4)
    | (go_at_call 17; with_reducible refine (refStart_c n _).mono ?_; rintro E w4 ⟨rfl, hb4⟩; have o4 := on_step (wd := wr) (by assumption) hb4)
    | (go_at_call 15; with_reducible refine (refSame_self (start n) none none 0 0 _ (shs_nil _ _) (shs_nil _ _) (Nat.zero_le _)).mono ?_; rintro E w4 ⟨rfl, hb4⟩; have o4 := on_step (wd := wr) (by assumption) hb4)
    | (go_at_call 15; with_reducible refine (refSame_self s ao1 ao cap1 cap _ (Shs_grown HS1.out (on_grown (by assumption)) (by simp)) (Shs_grown HA1.out (on_grown (by assumption)) (by simp)) HLM.out).mono ?_; rintro E w4 ⟨rfl, hb4⟩; have o4 := on_step (wd := wr) (by assumption) hb4)
    | (go_at_call 9; with_reducible refine (works_c _ (tab_grown HT1.out (on_grown (by assumption)) (by simp))).mono ?_; rintro E w4 ⟨rfl, hb4⟩; have o4 := on_step (wd := wr) (by assumption) hb4))
  go_wp2
  go_ret
  exact ⟨rfl, HG1.out.trans (on_grown o4)⟩
theorem law_puts (s : St) (ao : Option Addr) (cap : Nat) (n : Int) (w : World) (hn : 0 ≤ n ∧ n ≤ 18446744073709551615) (h1 : Shs w ao s.ss) (hf : s.fit) (n1 : ao = none → cap = 0) (hl : s.ss.length ≤ maxLen) (ht : Tab w) :
    Calls Tryd.prog 3 #[sv s ao cap, .int .u64 n] w fun E w' => E = .returned (.bool true) ∧ Below w.heap.size w w' := by
  obtain ⟨k, rfl⟩ := Int.eq_ofNat_of_zero_le hn.1
  exact (lawPuts s ao cap k w h1 hf n1 hl ht).mono fun E w' h => ⟨h.1, below_of_grown h.2⟩
end Go.Proofs.YtbmkmmkebophpaaDoor
