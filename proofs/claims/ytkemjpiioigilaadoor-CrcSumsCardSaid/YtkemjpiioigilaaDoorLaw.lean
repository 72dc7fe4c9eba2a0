/- The statements' own small function, awake, and the statements CrcSums, CrcJoins, CrcKnown, CrcParts, CrcTail of layer 3: the Go functions return true. Conditions: the table of four steps lies in its variable. -/
import Derived.Test.YtkemjpiioigilaaDoorRef
namespace Go.Proofs.YtkemjpiioigilaaDoor
open Go.RowKit
set_option linter.unusedVariables false

theorem sumAt (s : List UInt8) (r : Int) (w : World) (hs : s.length ≤ maxLen) (ht : Tab w) (h : ((upd 0 s : Nat) : Int) = r) :
    Calls Tryd.prog 10 #[.string (str s)] w fun E w' => E = .returned (.int .u32 r) ∧ w.grownBy w' none := by subst h; exact sum s w hs ht
theorem updateAt (c : Int) (s : List UInt8) (r : Int) (w : World) (hc : 0 ≤ c) (hc2 : c < 4294967296) (hs : s.length ≤ maxLen) (ht : Tab w) (h : ((upd c.toNat s : Nat) : Int) = r) :
    Calls Tryd.prog 12 #[.int .u32 c, .string (str s)] w fun E w' => E = .returned (.int .u32 r) ∧ w.grownBy w' none := by
  obtain ⟨k, rfl⟩ := Int.eq_ofNat_of_zero_le hc
  subst h; exact update k s w (by omega) hs ht
theorem joinAt (a b n r : Int) (w : World) (ha : 0 ≤ a) (ha2 : a < 4294967296) (hb : 0 ≤ b) (hb2 : b < 4294967296) (ht : Tab w) (h : ((joined a.toNat b.toNat (clip n) : Nat) : Int) = r) :
    Calls Tryd.prog 14 #[.int .u32 a, .int .u32 b, .int .i64 n] w fun E w' => E = .returned (.int .u32 r) ∧ w = w' := by
  obtain ⟨j, rfl⟩ := Int.eq_ofNat_of_zero_le ha
  obtain ⟨k, rfl⟩ := Int.eq_ofNat_of_zero_le hb
  subst h; exact join j k n w (by omega) (by omega) ht
theorem awake (w : World) (ht : Tab w) :
    Calls Tryd.prog 9 #[] w fun E w' => E = .returned (.bool true) ∧ w.grownBy w' none := by
  have HT := Lib.hid ht
  clear ht
  go_enter Tryd.func9, Tryd.ntmps9
  go_wp2_with fail
  refine (sumAt [49, 50, 51, 52, 53, 54, 55, 56, 57] 3421780262 _ (by decide) HT.out (by decide +kernel)).mono ?_
  rintro E w1 ⟨rfl, hg1⟩
  have HG1 := Lib.hid hg1
  have HT1 := Lib.hid (tab_grown HT.out hg1)
  clear hg1
  go_wp2_with fail
  refine (sumAt [] 0 _ (by decide) HT1.out (by decide +kernel)).mono ?_
  rintro E w2 ⟨rfl, hg2⟩
  have HG2 := Lib.hid (HG1.out.trans hg2)
  have HT2 := Lib.hid (tab_grown HT1.out hg2)
  clear hg2
  go_wp2_with fail
  refine (joinAt 7 9 (-1) 14 _ (by decide) (by decide) (by decide) (by decide) HT2.out (by decide +kernel)).mono ?_
  rintro E w3 ⟨rfl, rfl⟩
  go_wp2
  go_ret
  exact ⟨rfl, HG2.out⟩
/-- What a walk of a statement shows. -/
def Yes (w : World) (E : Ending) (w' : World) : Prop := E = .returned (.bool true) ∧ Below w.heap.size w w'
theorem yes_of {w w' : World} (h : w.grownBy w' none) : Yes w (.returned (.bool true)) w' := ⟨rfl, ⟨h.os, h.tape, h.output, h.size, fun k hk => h.block k hk (by simp)⟩⟩
theorem lawSums (c : Nat) (s : List UInt8) (w : World) (hc : c < 4294967296) (hs : s.length ≤ maxLen) (ht : Tab w) :
    Calls Tryd.prog 3 #[.int .u32 c, .string (str s)] w (Yes w) := by
  have HT := Lib.hid ht
  have hsz := str_size s
  have HS := Lib.hid hs
  unfold maxLen at hs
  clear ht
  by_cases hbig : 20000 < s.length
  · go_enter Tryd.func3, Tryd.ntmps3
    go_wp2_with fail
    refine (awake _ HT.out).mono ?_
    rintro E w1 ⟨rfl, hg1⟩
    go_wp2
    go_ret
    exact yes_of hg1
  · go_enter Tryd.func3, Tryd.ntmps3
    go_wp2_with fail
    refine (sum s _ HS.out HT.out).mono ?_
    rintro E w1 ⟨rfl, hg1⟩
    have HG1 := Lib.hid hg1
    have HT1 := Lib.hid (tab_grown HT.out hg1)
    clear hg1
    go_wp2_with fail
    refine (refSum s _ HS.out).mono ?_
    rintro E w2 ⟨rfl, rfl⟩
    go_wp2_with fail
    refine (update c s _ hc HS.out HT1.out).mono ?_
    rintro E w2 ⟨rfl, hg2⟩
    have HG2 := Lib.hid (HG1.out.trans hg2)
    have HT2 := Lib.hid (tab_grown HT1.out hg2)
    clear hg2
    go_wp2_with fail
    refine (refUpdate c s _ hc HS.out).mono ?_
    rintro E w3 ⟨rfl, rfl⟩
    go_wp2_with fail
    refine (awake _ HT2.out).mono ?_
    rintro E w3 ⟨rfl, hg3⟩
    go_wp2
    go_ret
    exact yes_of (HG2.out.trans hg3)
theorem lawJoins (a b : Nat) (n : Int) (w : World) (ha : a < 4294967296) (hb : b < 4294967296) (ht : Tab w) :
    Calls Tryd.prog 4 #[.int .u32 a, .int .u32 b, .int .i64 n] w (Yes w) := by
  have HT := Lib.hid ht
  clear ht
  have h3 : (20000 < n ∧ n ≤ 1048576) ∨ n ≤ 20000 ∨ (20000 < n ∧ 1048576 < n) := by omega
  rcases h3 with ⟨h3, h4⟩ | h3 | ⟨h3, h4⟩
  · go_enter Tryd.func4, Tryd.ntmps4
    go_wp2_with fail
    refine (awake _ HT.out).mono ?_
    rintro E w1 ⟨rfl, hg1⟩
    go_wp2
    go_ret
    exact yes_of hg1
  all_goals
    go_enter Tryd.func4, Tryd.ntmps4
    go_wp2_with fail
    refine (join a b n _ ha hb HT.out).mono ?_
    rintro E w1 ⟨rfl, rfl⟩
    go_wp2_with fail
    refine (refJoin a b n _ ha hb).mono ?_
    rintro E w2 ⟨rfl, hg2⟩
    have HG2 := Lib.hid hg2
    have HT2 := Lib.hid (tab_grown HT.out hg2)
    clear hg2
    go_wp2_with fail
    refine (awake _ HT2.out).mono ?_
    rintro E w3 ⟨rfl, hg3⟩
    go_wp2
    go_ret
    exact yes_of (HG2.out.trans hg3)
end Go.Proofs.YtkemjpiioigilaaDoor
