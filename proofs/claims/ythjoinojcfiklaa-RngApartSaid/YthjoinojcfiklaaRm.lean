/- The Go functions RngKnown and RngWithin, called with numbers of their kinds, return true, and what lay in memory stays. Conditions: the numbers lie in their kinds' ranges. -/
import Derived.Test.YthjoinojcfiklaaRl
namespace Go.Proofs.Ythjoinojcfiklaa
open Go.RowKit
set_option linter.unusedVariables false
set_option maxRecDepth 20000

theorem below_on {B : Nat} {a b c : World} (h : Below B a b) (k : Below b.heap.size b c) (hB : B ≤ b.heap.size) : Below B a c := h.trans (k.mono hB)
set_option maxHeartbeats 1000000 in
theorem lawKnown (w : World) :
    Calls Try.prog 6 #[] w fun e w' => e = .returned (.bool true) ∧ Below w.heap.size w w' := by
  have X1 := Lib.hid (fun w => by have := next 1234567 w (by decide); rwa [show mx (skp 1234567 1) = 6457827717110365317 by decide, show skp 1234567 1 = 11400714819324433052 by decide] at this)
  have X2 := Lib.hid (fun w => by have := next 11400714819324433052 w (by decide); rwa [show mx (skp 11400714819324433052 1) = 3203168211198807973 by decide, show skp 11400714819324433052 1 = 4354685564938079921 by decide] at this)
  have X3 := Lib.hid (fun w => by have := below_many 0 6 w (by decide) (by decide) (by decide); rwa [show bl 0 6 = 5 by decide, show skp 0 1 = 11400714819323198485 by decide] at this)
  have X4 := Lib.hid (fun w => below_one 9 0 w (by decide))
  have X5 := Lib.hid (fun w => by have := below_many 9 1 w (by decide) (by decide) (by decide); rwa [show bl 9 1 = 0 by decide, show skp 9 1 = 11400714819323198494 by decide] at this)
  have X6 := Lib.hid (fun w => by have := at_c 1234567 1 w; rwa [show mx (skp 1234567 (1 + 1)) = 3203168211198807973 by decide] at this)
  go_enter Try.func6, Try.ntmps6
  go_wp2_with fail
  refine (X1.out _).mono ?_
  rintro E w1 ⟨rfl, hb⟩
  have HB1 := Lib.hid hb
  clear hb
  have HA1 := Lib.hid (Cells.made w1 24 #[.int .u64 11400714819324433052])
  go_wp2_with fail
  refine (X2.out _).mono ?_
  rintro E w2 ⟨rfl, hb⟩
  have HB2 := Lib.hid (below_on (HB1.out.alloc HB1.out.size _) hb (by have := HB1.out.size; simp; omega))
  clear hb
  go_wp2_with fail
  refine (X3.out _).mono ?_
  rintro E w3 ⟨rfl, hb⟩
  have HB3 := Lib.hid (below_on (HB2.out.alloc HB2.out.size _) hb (by have := HB2.out.size; simp; omega))
  clear hb
  go_wp2_with fail
  refine (X4.out _).mono ?_
  rintro E w4 ⟨rfl, hb⟩
  have HB4 := Lib.hid (below_on (HB3.out.alloc HB3.out.size _) hb (by have := HB3.out.size; simp; omega))
  clear hb
  have HT4 := Lib.hid (Cells.made w4 24 #[.int .u64 9])
  go_wp2_with fail
  refine (X5.out _).mono ?_
  rintro E w5 ⟨rfl, hb⟩
  have HB5 := Lib.hid (below_on (HB4.out.alloc HB4.out.size _) hb (by have := HB4.out.size; simp; omega))
  have t5 := HT4.out.below hb HT4.out.lt
  have HT5 := Lib.hid (t5.alloc (.cells #[.int .u64 11400714819323198494] 24))
  have HU5 := Lib.hid (Cells.made w5 24 #[.int .u64 11400714819323198494])
  clear hb t5 HT4
  have k5 := cell1 HT5.out
  go_wp2_with fail
  clear k5
  refine (X6.out _).mono ?_
  rintro E w6 ⟨rfl, hb⟩
  have HB6 := Lib.hid (below_on (HB5.out.alloc HB5.out.size _) hb (by have := HB5.out.size; simp; omega))
  clear hb
  go_wp2_with fail
  refine (awake _).mono ?_
  rintro E w7 ⟨rfl, hb⟩
  have HB7 := Lib.hid (below_on HB6.out hb HB6.out.size)
  clear hb
  go_wp2
  go_ret
  exact ⟨rfl, HB7.out⟩
theorem lawWithin (s : Nat) (n : Int) (w : World) (h : s < 18446744073709551616) (h2 : n ≤ 9223372036854775807) :
    Calls Try.prog 9 #[.int .u64 (s : Int), .int .i64 n] w fun e w' => e = .returned (.bool true) ∧ Below w.heap.size w w' := by
  by_cases h1 : n < 1
  · go_enter Try.func9, Try.ntmps9
    go_wp2_with fail
    refine (below_one s n _ h1).mono ?_
    rintro E w1 ⟨rfl, hb⟩
    have HB := Lib.hid hb
    clear hb
    go_wp2_with fail
    refine (awake _).mono ?_
    rintro E w2 ⟨rfl, hb2⟩
    have HB2 := Lib.hid ((HB.out.alloc HB.out.size _).trans (hb2.mono (by have := HB.out.size; simp; omega)))
    clear hb2
    go_wp2
    go_ret
    exact ⟨rfl, HB2.out⟩
  · obtain ⟨m, rfl⟩ : ∃ m : Nat, n = m := ⟨n.toNat, by omega⟩
    have HBL := Lib.hid (below_many s m w (by omega) (by omega) h)
    have HS := Lib.hid (fun w => skip s 1 w)
    have hk : bl s m < m := Nat.lt_of_lt_of_le (bel_lt mx_lt (by unfold cut; split <;> omega)) (by unfold cut; split <;> omega)
    obtain ⟨k, HK⟩ : ∃ k, k = bl s m := ⟨_, rfl⟩
    obtain ⟨q, HQ⟩ : ∃ q, q = skp s 1 := ⟨_, rfl⟩
    rw [← HK] at hk HBL
    rw [← HQ] at HBL HS
    clear HK HQ
    go_enter Try.func9, Try.ntmps9
    go_wp2_with fail
    refine HBL.out.mono ?_
    rintro E w1 ⟨rfl, hb⟩
    have HB := Lib.hid (hb.alloc hb.size (.cells #[.int .u64 (q : Int)] 24))
    have HC := Lib.hid (Cells.made w1 24 #[.int .u64 (q : Int)])
    clear hb
    go_wp2
    have hc0 := cell1 HC.out.drew
    have hsz := HB.out.size
    go_region_held3 (fun w' => w'.cell? ⟨w1.heap.size, 0, none⟩ = some (.int .u64 (q : Int))) (first | assumption | exact hc0) (first | (go_at_call 16; refine (HS.out _).mono ?_; rintro E w2 ⟨rfl, hb2⟩; have c2 := Cells.below HC.out.drew hb2 HC.out.drew.lt; have k2 := cell1 c2; have B2 := Lib.hid (below_on HB.out.drew hb2 HB.out.size)) | (go_at_call 14; refine (awake _).mono ?_; rintro E w3 ⟨rfl, hb3⟩; have c3 := Cells.below c2 hb3 c2.lt; have k3 := cell1 c3; have B3 := Lib.hid (below_on B2.out hb3 B2.out.size)))
    all_goals go_wp2
    all_goals go_ret
    all_goals exact ⟨rfl, B3.out⟩
end Go.Proofs.Ythjoinojcfiklaa
