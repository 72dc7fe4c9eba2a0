/- What layer 6's statements ask of themselves: fails, works. -/
import Derived.Test.YtkhecaohbmlnlaaIw
import Derived.Test.YtkhecaohbmlnlaaIp
namespace Go.Proofs.Ytkhecaohbmlnlaa
open Go.RowKit
set_option linter.unusedVariables false

/-- The answer is yes, and nothing that was there has turned. -/
def Yes (w : World) (E : Ending) (w' : World) : Prop := E = .returned (.bool true) ∧ Below w.heap.size w w'
theorem yes_of {w w1 w2 : World} (h : Below w.heap.size w w1) {E : Ending} (k : Yes w1 E w2) : Yes w E w2 := ⟨k.1, h.trans (k.2.mono h.size)⟩
theorem fails_c (s : List UInt8) (m e : Int) (w : World) (hs : s.length ≤ 1099511627776) (hm1 : -9223372036854775808 ≤ m) (hm2 : m < 9223372036854775808) (h : upE (mo m) s = e) (he : e ≠ 0) :
    Calls Try.prog 27 #[.string (str s), .int .i64 m, .int .i64 e] w (Yes w) := by
  have hL := upL_bad _ _ (show upE (mo m) s ≠ 0 by rw [h]; exact he)
  have hu := unpack_c s m w hs hm1 hm2
  have HU := Lib.hid hu
  have HE := Lib.hid h
  have HL := Lib.hid hL
  clear h hL hu he
  go_enter Try.func27, Try.ntmps27
  go_wp2_with fail
  refine HU.out.mono ?_
  rintro E w1 ⟨ao, cap, rfl, _, hb⟩
  rw [HL.out, HE.out]
  go_wp2
  go_ret
  exact ⟨rfl, hb⟩
theorem str_eq_true (l : List UInt8) : ((str l).toList == l) = true := by rw [ByteArray.toList_eq, str_data]; exact beq_self_eq_true _
theorem four_ins (w : World) (t : TypeId) : Ins (w.alloc (.cells #[.int .u8 5, .int .u8 5, .int .u8 5, .int .u8 0] t)) (some ⟨w.heap.size, 0, none⟩) [5, 5, 5, 0] := fun k hk => by
  refine ⟨w.heap.size, 0, rfl, ?_⟩
  rw [(Cells.made w t _).cell]
  have : k < 4 := hk
  rcases (by omega : k = 0 ∨ k = 1 ∨ k = 2 ∨ k = 3) with rfl | rfl | rfl | rfl <;> rfl
set_option maxHeartbeats 2000000 in
theorem works_c (w : World) : Calls Try.prog 18 #[] w (Yes w) := by
  have e1 : along 6 1 2 = 1 := by decide
  have e2 : along 6 4 8 = -1 := by decide
  have e3 : upE (mo 4) [2, 3, 5, 1, 0] = 0 := by decide
  have e4 : upL (mo 4) [2, 3, 5, 1, 0] = [5, 5, 5, 0] := by decide
  have e5 : pk [5, 5, 5, 0] = [2, 3, 5, 1, 0] := by decide
  have e6 : upE (mo 9) [] = 10 := by decide
  have HE := Lib.hid (And.intro e1 (And.intro e2 (And.intro e3 (And.intro e4 (And.intro e5 e6)))))
  clear e1 e2 e3 e4 e5 e6
  go_enter Try.func18, Try.ntmps18
  go_wp2_with fail
  refine (dir_c 6 _ (by omega)).mono ?_
  rintro E w1 ⟨rfl, rfl⟩
  rw [HE.out.1, HE.out.2.1]
  go_wp2_with fail
  refine (unpack_c [2, 3, 5, 1, 0] 4 _ (by simp) (by omega) (by omega)).mono ?_
  rintro E w1 ⟨ao, cap, rfl, _, hb1⟩
  rw [HE.out.2.2.1, HE.out.2.2.2.1]
  go_wp2_with fail
  have hb1a : Below w.heap.size w (w1.alloc (.cells #[.int .u8 5, .int .u8 5, .int .u8 5, .int .u8 0] 22)) := hb1.alloc hb1.size _
  refine (pack_c (some ⟨w1.heap.size, 0, none⟩) 4 [5, 5, 5, 0] _ (four_ins w1 _) (by simp) (by simp) (by simp [maxLen])).mono ?_
  rintro E w2 ⟨rfl, hb2⟩
  rw [HE.out.2.2.2.2.1]
  have hb2a : Below w.heap.size w w2 := hb1a.trans (hb2.mono hb1a.size)
  clear hb1a hb2
  have hq := str_eq_true [2, 3, 5, 1, 0]
  go_wp2_with fail
  refine (fails_c [] 9 10 _ (by simp) (by omega) (by omega) HE.out.2.2.2.2.2 (by decide)).mono ?_
  rintro E w3 ⟨rfl, hb3⟩
  have hb3a : Below w.heap.size w w3 := hb2a.trans (hb3.mono hb2a.size)
  clear hb3 hb2a hq
  go_wp2
  go_ret
  exact ⟨rfl, hb3a⟩

theorem two_ins (w : World) (t : TypeId) : Ins (w.alloc (.cells #[.int .u8 1, .int .u8 2] t)) (some ⟨w.heap.size, 0, none⟩) [1, 2] := fun k hk => by
  refine ⟨w.heap.size, 0, rfl, ?_⟩
  rw [(Cells.made w t _).cell]
  have : k < 2 := hk
  rcases (by omega : k = 0 ∨ k = 1) with rfl | rfl <;> rfl
theorem one_ins (w : World) (t : TypeId) : Ins (w.alloc (.cells #[.int .u8 64] t)) (some ⟨w.heap.size, 0, none⟩) [64] := fun k hk => by
  refine ⟨w.heap.size, 0, rfl, ?_⟩
  rw [(Cells.made w t _).cell]
  have : k < 1 := hk
  rcases (by omega : k = 0) with rfl
  rfl
abbrev badCells : Array Value := #[.string ⟨#[2, 1, 5, 1, 5]⟩, .string ⟨#[1, 0, 5]⟩, .string ⟨#[1, 1, 64]⟩, .string ⟨#[0, 0]⟩]
theorem bad_at {w : World} {g k : Nat} (h : Cells w g 9 badCells) (hk : k < 4) :
    ∃ s, w.cell? ⟨g, k, none⟩ = some (.string (str s)) ∧ s.length ≤ 1099511627776 ∧ upE (mo 9) s = 4 := by
  rcases (by omega : k = 0 ∨ k = 1 ∨ k = 2 ∨ k = 3) with rfl | rfl | rfl | rfl
  · exact ⟨[2, 1, 5, 1, 5], by rw [h.cell]; rfl, by decide, by decide⟩
  · exact ⟨[1, 0, 5], by rw [h.cell]; rfl, by decide, by decide⟩
  · exact ⟨[1, 1, 64], by rw [h.cell]; rfl, by decide, by decide⟩
  · exact ⟨[0, 0], by rw [h.cell]; rfl, by decide, by decide⟩
set_option maxHeartbeats 4000000 in
theorem lawKnown (w : World) : Calls Try.prog 9 #[] w (Yes w) := by
  have e1 : along 1 1 2 = -1 := by decide
  have e2 : along 1 4 8 = 0 := by decide
  have e3 : along 3 1 2 = 0 := by decide
  have e4 : along 3 4 8 = 0 := by decide
  have e5 : along 9 1 2 = -1 := by decide
  have e6 : along 9 4 8 = 1 := by decide
  have e7 : pk [] = [0] := by decide
  have e8 : pk [64] = [] := by decide
  have H1 := Lib.hid e1
  have H2 := Lib.hid e2
  have H3 := Lib.hid e3
  have H4 := Lib.hid e4
  have H5 := Lib.hid e5
  have H6 := Lib.hid e6
  have H7 := Lib.hid e7
  have H8 := Lib.hid e8
  clear e1 e2 e3 e4 e5 e6 e7 e8
  go_enter Try.func9, Try.ntmps9
  go_wp2_with fail
  refine (dir_c 1 _ (by omega)).mono ?_
  rintro E w1 ⟨rfl, rfl⟩
  rw [H1.out, H2.out]
  go_wp2_with fail
  refine (dir_c 3 _ (by omega)).mono ?_
  rintro E w1 ⟨rfl, rfl⟩
  rw [H3.out, H4.out]
  go_wp2_with fail
  refine (dir_c 9 _ (by omega)).mono ?_
  rintro E w1 ⟨rfl, rfl⟩
  rw [H5.out, H6.out]
  go_wp2_with fail
  refine (works_c _).mono ?_
  rintro E w1 ⟨rfl, hb1⟩
  go_wp2_with fail
  refine (pack_c none 0 [] _ (ins_nil _ _) (by simp) (by simp) (by simp [maxLen])).mono ?_
  rintro E w2 ⟨rfl, hb2⟩
  rw [H7.out]
  have B2 : Below w.heap.size w w2 := hb1.trans (hb2.mono hb1.size)
  have hq1 := str_eq_true [0]
  have B2a : Below w.heap.size w (w2.alloc (.cells #[.int .u8 64] 22)) := B2.alloc B2.size _
  clear hb1 hb2
  go_wp2_with fail
  refine (pack_c (some ⟨w2.heap.size, 0, none⟩) 1 [64] _ (one_ins w2 _) (by simp) (by simp) (by simp [maxLen])).mono ?_
  rintro E w3 ⟨rfl, hb3⟩
  rw [H8.out]
  have B3 : Below w.heap.size w w3 := B2a.trans (hb3.mono B2a.size)
  have hq2 : (str []).toList.isEmpty = true := by rw [str_empty]; rfl
  clear hb3 B2 B2a hq1
  go_wp2_with fail
  refine (legal_c 63 _).mono ?_
  rintro E w4 ⟨rfl, rfl⟩
  rw [show decide (63 < 64) = true from by decide]
  clear hq2
  go_wp2_with fail
  refine (legal_c 64 _).mono ?_
  rintro E w4 ⟨rfl, rfl⟩
  rw [show decide (64 < 64) = false from by decide]
  go_wp2_with fail
  refine (fire_c 16 _ (by omega)).mono ?_
  rintro E w4 ⟨rfl, rfl⟩
  rw [show hasb 16 16 = true from by decide]
  go_wp2_with fail
  refine (fire_c 47 _ (by omega)).mono ?_
  rintro E w4 ⟨rfl, rfl⟩
  rw [show hasb 47 16 = false from by decide]
  go_wp2_with fail
  refine (dash_c 32 _ (by omega)).mono ?_
  rintro E w4 ⟨rfl, rfl⟩
  rw [show hasb 32 32 = true from by decide]
  go_wp2_with fail
  refine (dash_c 31 _ (by omega)).mono ?_
  rintro E w4 ⟨rfl, rfl⟩
  rw [show hasb 31 32 = false from by decide]
  have hcs := Cells.made w3 9 badCells
  have hb4 : Below w.heap.size w (w3.alloc (.cells badCells 9)) := B3.alloc B3.size _
  have HCS := Lib.hid hcs
  have HB4 := Lib.hid hb4
  clear hcs hb4
  go_wp2
  go_loopw [8] (fun s8 wr => ∃ k : Nat, k ≤ 4 ∧ s8 = .int .i64 k ∧ Cells wr w3.heap.size 9 badCells ∧ Below w.heap.size w wr) (fun i _ => 4 - (intOf i).toNat)
  case atStart => exact ⟨0, by omega, rfl, HCS.out, HB4.out⟩
  case round =>
    obtain ⟨k, hk, rfl, hcs, hb⟩ := hrel
    have HC := Lib.hid hcs
    have HB := Lib.hid hb
    clear HCS HB4 B3 hb
    by_cases hlt : k < 4
    · obtain ⟨s, hc, hsl, hu⟩ := bad_at hcs hlt
      clear hcs
      go_wp2_with fail
      refine (fails_c s 9 4 _ hsl (by omega) (by omega) hu (by decide)).mono ?_
      rintro E w5 ⟨rfl, hb5⟩
      have HB5 := Lib.hid hb5
      clear hb5
      go_wp2
      go_roundw
      case rel => exact ⟨k + 1, by omega, by go_num, HC.out.below HB5.out HC.out.lt, HB.out.trans (HB5.out.mono HB.out.size)⟩
      case measure => simp [intOf]; omega
    · have hx : k = 4 := by omega
      subst hx
      have hb := HB.out
      clear HB HC hcs
      go_wp2_with fail
      refine (fails_c [2, 3, 5, 1, 0] 3 3 _ (by simp) (by omega) (by omega) (by decide +kernel) (by decide)).mono ?_
      rintro E w5 ⟨rfl, hb5⟩
      replace hb := hb.trans (hb5.mono hb.size)
      clear hb5
      go_wp2_with fail
      refine (fails_c [1] 9 10 _ (by simp) (by omega) (by omega) (by decide +kernel) (by decide)).mono ?_
      rintro E w5 ⟨rfl, hb5⟩
      replace hb := hb.trans (hb5.mono hb.size)
      clear hb5
      go_wp2_with fail
      refine (fails_c [1, 1] 9 10 _ (by simp) (by omega) (by omega) (by decide +kernel) (by decide)).mono ?_
      rintro E w5 ⟨rfl, hb5⟩
      replace hb := hb.trans (hb5.mono hb.size)
      clear hb5
      go_wp2_with fail
      refine (fails_c [1, 129, 32, 5] 4611686018427387904 3 _ (by simp) (by omega) (by omega) (by decide +kernel) (by decide)).mono ?_
      rintro E w5 ⟨rfl, hb5⟩
      replace hb := hb.trans (hb5.mono hb.size)
      clear hb5
      go_wp2_with fail
      refine (fails_c [10] 9 3 _ (by simp) (by omega) (by omega) (by decide +kernel) (by decide)).mono ?_
      rintro E w5 ⟨rfl, hb5⟩
      replace hb := hb.trans (hb5.mono hb.size)
      clear hb5
      go_wp2_with fail
      refine (fails_c [1, 1, 5] (-1) 3 _ (by simp) (by omega) (by omega) (by decide +kernel) (by decide)).mono ?_
      rintro E w5 ⟨rfl, hb5⟩
      replace hb := hb.trans (hb5.mono hb.size)
      clear hb5
      go_wp2_with fail
      refine (predict_c (some ⟨_, 0, none⟩) 2 [1, 2] _ (two_ins _ _) (by simp [maxLen])).mono ?_
      rintro E w7 ⟨rfl, rfl⟩
      rw [show lastV [1, 2] = 2 from rfl]
      replace hb := hb.alloc hb.size (.cells #[.int .u8 1, .int .u8 2] 22)
      go_wp2_with fail
      refine (predict_c none 0 [] _ (ins_nil _ _) (by simp [maxLen])).mono ?_
      rintro E w8 ⟨rfl, rfl⟩
      rw [show lastV [] = 0 from rfl]
      go_wp2_with fail
      refine (works_c _).mono ?_
      rintro E w9 ⟨rfl, hb9⟩
      replace hb := hb.trans (hb9.mono hb.size)
      clear hb9
      go_wp2
      go_ret
      exact ⟨rfl, hb⟩
end Go.Proofs.Ytkhecaohbmlnlaa
