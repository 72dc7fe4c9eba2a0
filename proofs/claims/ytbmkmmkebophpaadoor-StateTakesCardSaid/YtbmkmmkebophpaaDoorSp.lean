/- The statement StateOne: what is read of a text may be, and has that text: the Go function returns true. Conditions: the table of bounds lies in its variable. -/
import Derived.Test.YtbmkmmkebophpaaDoorSo
namespace Go.Proofs.YtbmkmmkebophpaaDoor
open Go.RowKit
set_option linter.unusedVariables false

attribute [local go_sem ↓] loadAt_state storeAt_state
attribute [local go_sem] run_loadState rowOf_new rowOf_old rowOf_drew rowOf_drewN run_storeOk okRow_new okRow_old Value.oneCell' rowOf_own
abbrev zlit : Array Value := #[.int .u64 0, .int .u64 0, .int .i32 0, .int .i32 0, .int .i32 0, .int .i32 0, .int .u8 0, .int .u8 0, .int .u8 0, .int .i32 0, .int .i32 0, .int .i32 0, .int .i32 0, .int .u8 0, .int .u8 0, .int .u8 0, .slice none 0 0, .int .u16 0, .int .u16 0]
set_option maxHeartbeats 2000000 in
set_option maxRecDepth 20000 in
theorem lawOne (l : List UInt8) (w : World) (hl : l.length ≤ maxLen) (ht : Tab w) :
    Calls Tryd.prog 7 #[.string (str l)] w fun E w' => E = .returned (.bool true) ∧ w.grownBy w' none := by
  have HT := Lib.hid ht
  have hsz := str_size l
  by_cases h1 : 1000 < l.length
  · have hd : decide ((1000 : Int) < (l.length : Int)) = true := decide_eq_true (by omega)
    clear ht h1
    go_enter Tryd.func7, Tryd.ntmps7
    go_wp2_with fail
    refine (works_c _ HT.out).mono ?_
    rintro E w1 ⟨rfl, hb1⟩
    go_wp2
    go_ret
    exact ⟨rfl, hb1⟩
  · have hd : decide ((1000 : Int) < (l.length : Int)) = false := decide_eq_false (by omega)
    have hT := stTake l w (by omega) ht
    by_cases he : (tst l).1 = 0
    · obtain ⟨hg, hf, hste⟩ := tst_one he
      have H : Hid (Calls Tryd.prog 18 #[.string (str l)] w fun E w' => ∃ ao cap, E = .returned (.tuple #[sv (tst l).2 ao cap, .int .i64 0]) ∧ Shs w' ao (tst l).2.ss ∧ w.grownBy w' none) :=
        hT.mono fun E w' ⟨ao, cap, e, ho, hb⟩ => ⟨ao, cap, by rw [he] at e; exact e, shs_own ho rfl hf.2.2.2.2.1, hb⟩
      generalize (tst l).2 = s at *
      have HF := Lib.hid hf
      have HP : Hid (∀ (ao : Option Addr) (cap : Nat) (W : World), Shs W ao s.ss → Tab W → Calls Tryd.prog 13 #[sv s ao cap] W fun E w' => E = .returned (.string (str l)) ∧ W.grownBy w' none) := fun ao cap W h ht => by
        have := put_good s ao cap W h hf hg ht
        rwa [hste] at this
      have HC : Hid (∀ (ao : Option Addr) (cap : Nat) (W : World), Shs W ao s.ss → Tab W → Calls Tryd.prog 11 #[sv s ao cap] W fun E w' => E = .returned (.int .i64 0) ∧ W.grownBy w' none) := fun ao cap W h ht => by
        have := check_c s ao cap W h hf ht
        rwa [chk_yes hg] at this
      clear he hg hf hste hT ht h1 hl
      go_enter Tryd.func7, Tryd.ntmps7
      go_wp2_with fail
      refine H.out.mono ?_
      rintro E w1 ⟨ao, cap, rfl, hs1, hb1⟩
      have hgz := hb1.trans (grown_own w1 (.cells zlit 30) (stc s ao cap))
      have HT1 := Lib.hid (tab_grown HT.out hgz (by simp))
      have HS1 := Lib.hid (Shs_grown hs1 (grown_own w1 (.cells zlit 30) (stc s ao cap)) (by simp))
      have HB1 := Lib.hid hgz
      have hrz : rowOf ((w1.alloc (.cells zlit 30)).setRow w1.heap.size (stc s ao cap)) w1.heap.size = stc s ao cap := rowOf_own _ _ _ _
      have hlz : w1.heap.size < ((w1.alloc (.cells zlit 30)).setRow w1.heap.size (stc s ao cap)).heap.size := by simp
      have HRZ := Lib.hid hrz
      have HLZ := Lib.hid hlz
      clear hs1 hb1 hgz hrz hlz H
      go_wp2_with fail
      refine (HC.out ao cap _ HS1.out HT1.out).mono ?_
      rintro E w2 ⟨rfl, hb2⟩
      have hr2 : rowOf w2 w1.heap.size = stc s ao cap := by
        rw [keep_row hb2 _ HLZ.out, HRZ.out]
      have HB2 := Lib.hid (HB1.out.trans hb2)
      have HT2 := Lib.hid (tab_grown HT1.out hb2 (by simp))
      have HS2 := Lib.hid (Shs_grown HS1.out hb2 (by simp))
      clear hb2
      go_wp2_with fail
      refine (HP.out ao cap _ HS2.out HT2.out).mono ?_
      rintro E w3 ⟨rfl, hb3⟩
      have HB3 := Lib.hid (HB2.out.trans hb3)
      have HT3 := Lib.hid (tab_grown HT2.out hb3 (by simp))
      clear hb3 hr2
      go_wp2_with fail
      refine (works_c _ HT3.out).mono ?_
      rintro E w4 ⟨rfl, hb4⟩
      go_wp2
      go_ret
      exact ⟨rfl, HB3.out.trans hb4⟩
    · have hz := tst_bad he
      have H : Hid (Calls Tryd.prog 18 #[.string (str l)] w fun E w' => ∃ ao cap, E = .returned (.tuple #[sv .zero ao cap, .int .i64 (tst l).1]) ∧ w.grownBy w' none) :=
        hT.mono fun E w' ⟨ao, cap, e, ho, hb⟩ => ⟨ao, cap, by rw [hz] at e; exact e, hb⟩
      generalize (tst l).1 = c at *
      have hc0 : (c == 0) = false := beq_eq_false_iff_ne.2 he
      clear he hz hT ht h1 hl
      go_enter Tryd.func7, Tryd.ntmps7
      go_wp2_with fail
      refine H.out.mono ?_
      rintro E w1 ⟨ao, cap, rfl, hb1⟩
      have hgz := hb1.trans (grown_own w1 (.cells zlit 30) (stc .zero ao cap))
      have HT1 := Lib.hid (tab_grown HT.out hgz (by simp))
      have HB1 := Lib.hid hgz
      clear hb1 hgz H
      go_wp2_with fail
      refine (same_self .zero ao none cap 0 _ (shs_nil _ _) (shs_nil _ _) (by simp [St.zero])).mono ?_
      rintro E w2 ⟨rfl, hb2⟩
      have HB2 := Lib.hid (HB1.out.trans hb2)
      have HT2 := Lib.hid (tab_grown HT1.out hb2 (by simp))
      clear hb2
      go_wp2_with fail
      refine (works_c _ HT2.out).mono ?_
      rintro E w4 ⟨rfl, hb4⟩
      go_wp2
      go_ret
      exact ⟨rfl, HB2.out.trans hb4⟩
theorem law_one (s : ByteArray) (w : World) (hs : s.size ≤ maxLen) (ht : Tab w) :
    Calls Tryd.prog 7 #[.string s] w fun E w' => E = .returned (.bool true) ∧ Below w.heap.size w w' := by
  rw [str_of s]
  exact (lawOne _ w (by have h := str_size s.data.toList; rw [← str_of] at h; omega) ht).mono fun E w' h => ⟨h.1, below_of_grown h.2⟩
end Go.Proofs.YtbmkmmkebophpaaDoor
