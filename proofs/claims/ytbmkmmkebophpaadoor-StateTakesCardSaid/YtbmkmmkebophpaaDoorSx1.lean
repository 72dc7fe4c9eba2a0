/- The statement StateTakes: the state that any bytes are, or why they are none, is as the document says: the Go function returns true. Conditions: the table of bounds lies in its variable. -/
import Derived.Test.YtbmkmmkebophpaaDoorSx
import Derived.Test.YtbmkmmkebophpaaDoorSu
import Derived.Test.YtbmkmmkebophpaaDoorSp
namespace Go.Proofs.YtbmkmmkebophpaaDoor
open Go.RowKit
set_option linter.unusedVariables false
set_option linter.unusedSimpArgs false

theorem refSame_own (a : St) (ao bo : Option Addr) (c1 c2 : Nat) (w : World) (h1 : Shs w ao a.ss) (h2 : Shs w bo a.ss) (hl : a.ss.length ≤ maxLen) :
    Calls Tryd.prog 15 #[sv a ao c1, sv a bo c2] w fun E w' => E = .returned (.bool true) ∧ w.grownBy w' none :=
  (refSame_c a a ao bo c1 c2 w h1 h2 hl hl).mono fun E w' ⟨e, h⟩ => ⟨by rw [e]; simp [same], h⟩
theorem tst_fit (l : List UInt8) : (∀ x ∈ (tst l).2.ss, x.fit) ∧ (tst l).2.ss.length ≤ 8 := by
  by_cases he : (tst l).1 = 0
  · obtain ⟨hg, hf, _⟩ := tst_one he
    exact ⟨hf.2.2.2.2.1, good_few hg⟩
  · rw [tst_bad he]
    exact ⟨fun x hx => by simp [St.zero] at hx, by simp [St.zero]⟩
attribute [local go_sem ↓] loadAt_state storeAt_state
attribute [local go_sem] run_loadState rowOf_new rowOf_old rowOf_drew rowOf_drewN run_storeOk okRow_new okRow_old Value.oneCell' rowOf_own
set_option maxHeartbeats 2000000 in
set_option maxRecDepth 20000 in
theorem lawTakes (l : List UInt8) (w : World) (hl : l.length ≤ maxLen) (ht : Tab w) :
    Calls Tryd.prog 4 #[.string (str l)] w fun E w' => E = .returned (.bool true) ∧ w.grownBy w' none := by
  have HT := Lib.hid ht
  have hsz := str_size l
  by_cases h1 : 1000 < l.length
  · have hd : decide ((1000 : Int) < (l.length : Int)) = true := decide_eq_true (by omega)
    clear ht h1
    go_enter Tryd.func4, Tryd.ntmps4
    go_wp2_with fail
    refine (works_c _ HT.out).mono ?_
    rintro E w1 ⟨rfl, hb1⟩
    go_wp2
    go_ret
    exact ⟨rfl, hb1⟩
  · have hd : decide ((1000 : Int) < (l.length : Int)) = false := decide_eq_false (by omega)
    have HL := Lib.hid (show l.length ≤ 1099511627776 by omega)
    have hfit := tst_fit l
    have HF := Lib.hid hfit.1
    have HL8 := Lib.hid hfit.2
    have H1 : Hid (∀ W, Tab W → Calls Tryd.prog 18 #[.string (str l)] W (TkPost l W)) := fun W h => stTake l W HL.out h
    have H2 : Hid (∀ W, Calls Tryd.prog 19 #[.string (str l)] W (TkPost l W)) := fun W => refTake_c l W HL.out
    unfold TkPost at H1 H2
    generalize hc : (tst l).1 = c at *
    generalize (tst l).2 = s at *
    have hcc : (c == c) = true := by simp
    clear ht h1 hl hfit hc
    go_enter Tryd.func4, Tryd.ntmps4
    go_wp2_with fail
    refine (H1.out w HT.out).mono ?_
    rintro E w1 ⟨ao, cap, rfl, ho1, hb1⟩
    have hs1 := shs_own ho1 rfl HF.out
    have hgz := grown_own w1 (.cells zlit 30) (stc s ao cap)
    have HT1 := Lib.hid (tab_grown HT.out (hb1.trans hgz) (by simp))
    have HS1 := Lib.hid (Shs_grown hs1 hgz (by simp))
    have HB1 := Lib.hid (hb1.trans hgz)
    have hr1 : rowOf ((w1.alloc (.cells zlit 30)).setRow w1.heap.size (stc s ao cap)) w1.heap.size = stc s ao cap := rowOf_own _ _ _ _
    have HLZ : Hid (w1.heap.size < ((w1.alloc (.cells zlit 30)).setRow w1.heap.size (stc s ao cap)).heap.size) := by show _ < _; simp
    have HR1 := Lib.hid hr1
    clear hs1 hgz ho1 hb1 hr1
    go_wp2_with fail
    refine (H2.out _).mono ?_
    rintro E w2 ⟨bo, cap2, rfl, ho2, hb2⟩
    have hs2 := shs_own ho2 rfl HF.out
    have hgz := grown_own w2 (.cells zlit 30) (stc s bo cap2)
    have HT2 := Lib.hid (tab_grown HT1.out (hb2.trans hgz) (by simp))
    have HS2 := Lib.hid (Shs_grown hs2 hgz (by simp))
    have HS1b := Lib.hid (Shs_grown HS1.out (hb2.trans hgz) (by simp))
    have HB2 := Lib.hid (HB1.out.trans (hb2.trans hgz))
    have hr2 : rowOf ((w2.alloc (.cells zlit 30)).setRow w2.heap.size (stc s bo cap2)) w2.heap.size = stc s bo cap2 := rowOf_own _ _ _ _
    have hr1 : rowOf ((w2.alloc (.cells zlit 30)).setRow w2.heap.size (stc s bo cap2)) w1.heap.size = stc s ao cap := by
      rw [keep_row (hb2.trans hgz) _ HLZ.out, HR1.out]
    clear hs2 hgz ho2 hb2 HS1 HT1 HB1
    go_wp2_with fail
    refine (refSame_own s ao bo cap cap2 _ HS1b.out HS2.out (by have := HL8.out; simp only [maxLen]; omega)).mono ?_
    rintro E w3 ⟨rfl, hb3⟩
    have HT3 := Lib.hid (tab_grown HT2.out hb3 (by simp))
    have HB3 := Lib.hid (HB2.out.trans hb3)
    clear hb3 hr1 hr2
    go_wp2_with fail
    refine (works_c _ HT3.out).mono ?_
    rintro E w4 ⟨rfl, hb4⟩
    go_wp2
    go_ret
    exact ⟨rfl, HB3.out.trans hb4⟩
theorem law_takes (s : ByteArray) (w : World) (w0 : s.size ≤ maxLen) (ht : Tab w) :
    Calls Tryd.prog 4 #[.string s] w fun E w' => E = .returned (.bool true) ∧ Below w.heap.size w w' := by
  rw [str_of s]
  exact (lawTakes _ w (by have h := str_size s.data.toList; rw [← str_of] at h; omega) ht).mono fun E w' h => ⟨h.1, below_of_grown h.2⟩
end Go.Proofs.YtbmkmmkebophpaaDoor
