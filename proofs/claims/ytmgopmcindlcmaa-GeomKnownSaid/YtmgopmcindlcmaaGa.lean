/- Plain mathematics of boxes, and the functions that leave memory as it is: one contract each. Nothing is assumed beyond each contract's own bounds. -/
import Derived.Test.YtmgopmcindlcmaaRows
import Derived.WalkKit
import Derived.ProofKit
import Derived.OpenShut
import Derived.Handy
import Derived.Below
import Derived.Lib.Hide
import Derived.StillTailTactics
import Derived.BigQuiet
import Derived.Deep.RegionHeld3
import Derived.Test.YtmgopmcindlcmaaMem
namespace Go.Proofs.Ytmgopmcindlcmaa
open Go.RowKit
set_option linter.unusedVariables false
set_option maxRecDepth 20000

theorem ret_int {k : IntKind} {a b : Int} (h : a = b) : Ending.returned (.int k a) = .returned (.int k b) := by rw [h]
theorem ret_bool {a b : Bool} (h : a = b) : Ending.returned (.bool a) = .returned (.bool b) := by rw [h]
theorem ret_iv {a b c d : Int} (h : a = c) (k : b = d) : Ending.returned (.agg #[.int .i64 a, .int .i64 b]) = .returned (.agg #[.int .i64 c, .int .i64 d]) := by rw [h, k]
/-- A number of 32 bits. -/
def in32 (n : Int) : Prop := -2147483648 ≤ n ∧ n ≤ 2147483647
/-- A number that is far from the ends of 64 bits. -/
def in40 (n : Int) : Prop := -1099511627776 ≤ n ∧ n ≤ 1099511627776
/-- A number within two others. -/
def cl (n l h : Int) : Int := max l (min n h)

theorem clip64 (n l u : Int) (w : World) :
    Calls Try.prog 29 #[.int .i64 n, .int .i64 l, .int .i64 u] w fun e w' => e = .returned (.int .i64 (cl n l u)) ∧ w = w' := by
  go_enter Try.func29, Try.ntmps29
  go_wp2
  all_goals go_ret
  all_goals exact ⟨ret_int (by unfold cl; omega), rfl⟩
theorem clip32 (n l u : Int) (w : World) :
    Calls Try.prog 39 #[.int .i32 n, .int .i32 l, .int .i32 u] w fun e w' => e = .returned (.int .i32 (cl n l u)) ∧ w = w' := by
  go_enter Try.func39, Try.ntmps39
  go_wp2
  all_goals go_ret
  all_goals exact ⟨ret_int (by unfold cl; omega), rfl⟩
/-- A number made one of 32 bits. -/
def bo (n : Int) : Int := cl n (-2147483648) 2147483647
theorem bo_in (n : Int) : in32 (bo n) := by unfold bo cl in32; omega
theorem w32_in {n : Int} (h : in32 n) : wrap32 n = n := by
  unfold in32 at h
  unfold wrap32
  omega
theorem bound (n : Int) (w : World) :
    Calls Try.prog 30 #[.int .i64 n] w fun e w' => e = .returned (.int .i32 (bo n)) ∧ w = w' := by
  have HB := Lib.hid (w32_in (bo_in n))
  go_enter Try.func30, Try.ntmps30
  go_wp2_with fail
  refine (clip64 n (-2147483648) 2147483647 _).mono ?_
  rintro E w1 ⟨rfl, rfl⟩
  go_wp2
  go_ret
  exact ⟨ret_int HB.out, rfl⟩
/-- How fast a move goes on. -/
def mv (x v l u : Int) : Int := if u < l ∨ cl (x + v) l u ≠ x + v then 0 else v
theorem move (x v l u : Int) (w : World) (hx : in32 x) (hv : in32 v) (hl : in32 l) (hu : in32 u) :
    Calls Try.prog 14 #[.int .i32 x, .int .i32 v, .int .i32 l, .int .i32 u] w fun e w' => e = .returned (.tuple #[.int .i32 (cl (x + v) l u), .int .i32 (mv x v l u)]) ∧ w = w' := by
  obtain ⟨hc1, hc2⟩ : in32 (cl (x + v) l u) := by unfold in32 cl at *; omega
  have HM : Hid (mv x v l u = if u < l ∨ cl (x + v) l u ≠ x + v then 0 else v) := rfl
  have HC := Lib.hid (clip64 (x + v) l u)
  generalize cl (x + v) l u = c at *
  generalize mv x v l u = m at *
  obtain ⟨hx1, hx2⟩ := hx
  obtain ⟨hv1, hv2⟩ := hv
  obtain ⟨hl1, hl2⟩ := hl
  obtain ⟨hu1, hu2⟩ := hu
  by_cases h1 : u < l
  · have hm : m = 0 := by rw [HM.out]; exact if_pos (.inl h1)
    subst hm
    go_enter Try.func14, Try.ntmps14
    go_wp2_with fail
    refine (HC.out _).mono ?_
    rintro E w1 ⟨rfl, rfl⟩
    go_wp2
    go_ret2
    exact ⟨rfl, rfl⟩
  · by_cases h2 : c = x + v
    · have hm : m = v := by rw [HM.out]; exact if_neg (by omega)
      have H2 := Lib.hid h2
      subst hm
      clear h2
      go_enter Try.func14, Try.ntmps14
      go_wp2_with fail
      refine (HC.out _).mono ?_
      rintro E w1 ⟨rfl, rfl⟩
      go_wp2
      all_goals go_ret2
      all_goals first | exact ⟨rfl, rfl⟩ | (exfalso; have := H2.out; rename_i hh; simp at hh; omega)
    · have hm : m = 0 := by rw [HM.out]; exact if_pos (.inr h2)
      have H2 := Lib.hid h2
      subst hm
      clear h2
      go_enter Try.func14, Try.ntmps14
      go_wp2_with fail
      refine (HC.out _).mono ?_
      rintro E w1 ⟨rfl, rfl⟩
      go_wp2
      all_goals go_ret2
      all_goals first | exact ⟨rfl, rfl⟩ | (exfalso; have := H2.out; rename_i hh; simp at hh; omega)
theorem refMove (x v l u : Int) (w : World) (hx : in32 x) (hv : in32 v) (hl : in32 l) (hu : in32 u) :
    Calls Try.prog 15 #[.int .i32 x, .int .i32 v, .int .i32 l, .int .i32 u] w fun e w' => e = .returned (.tuple #[.int .i32 (cl (x + v) l u), .int .i32 (mv x v l u)]) ∧ w = w' := by
  have HM : Hid (mv x v l u = if u < l ∨ cl (x + v) l u ≠ x + v then 0 else v) := rfl
  have HC : Hid (cl (x + v) l u = max l (min (x + v) u)) := rfl
  generalize cl (x + v) l u = c at *
  generalize mv x v l u = m at *
  obtain ⟨hx1, hx2⟩ := hx
  obtain ⟨hv1, hv2⟩ := hv
  obtain ⟨hl1, hl2⟩ := hl
  obtain ⟨hu1, hu2⟩ := hu
  have hm : Hid (u < l ∧ c = l ∧ m = 0 ∨ ¬ u < l ∧ x + v < l ∧ c = l ∧ m = 0 ∨ ¬ u < l ∧ u < x + v ∧ c = u ∧ m = 0 ∨ ¬ u < l ∧ ¬ x + v < l ∧ ¬ u < x + v ∧ c = x + v ∧ m = v) := by
    have h1 := HM.out
    have h2 := HC.out
    split at h1 <;> show _ <;> unfold Hid <;> omega
  clear HM HC
  rcases hm.out with ⟨h1, rfl, rfl⟩ | ⟨h1, h2, rfl, rfl⟩ | ⟨h1, h2, rfl, rfl⟩ | ⟨h1, h2, h3, rfl, rfl⟩
  all_goals clear hm
  all_goals go_enter Try.func15, Try.ntmps15
  all_goals go_wp2
  all_goals go_ret2
  all_goals exact ⟨rfl, rfl⟩
/-- The greater one. -/
theorem greater (a b : Int) (w : World) :
    Calls Try.prog 27 #[.int .i64 a, .int .i64 b] w fun e w' => e = .returned (.int .i64 (max a b)) ∧ w = w' := by
  by_cases h : b < a
  all_goals go_enter Try.func27, Try.ntmps27
  all_goals go_wp2
  all_goals go_ret
  all_goals exact ⟨ret_int (by omega), rfl⟩
theorem bounded (n : Int) (w : World) :
    Calls Try.prog 32 #[.int .i64 n] w fun e w' => e = .returned (.int .i32 (bo n)) ∧ w = w' := by
  have HB : Hid (bo n = max (-2147483648) (min n 2147483647)) := rfl
  generalize bo n = c at *
  by_cases h : 2147483647 < n
  · go_enter Try.func32, Try.ntmps32
    go_wp2
    go_ret
    exact ⟨ret_int (by have := HB.out; omega), rfl⟩
  · by_cases h2 : n < -2147483648
    all_goals go_enter Try.func32, Try.ntmps32
    all_goals go_wp2
    all_goals go_ret
    all_goals exact ⟨ret_int (by have := HB.out; omega), rfl⟩
/-- A length from 0 on. -/
def po (n : Int) : Int := max 0 n
theorem half (n : Int) (w : World) (h : in32 n) :
    Calls Try.prog 33 #[.int .i32 n] w fun e w' => e = .returned (.int .i64 (po n / 2)) ∧ w = w' := by
  obtain ⟨h1, h2⟩ := h
  by_cases hn : n < 0
  all_goals go_enter Try.func33, Try.ntmps33
  all_goals go_wp2
  all_goals go_ret
  all_goals exact ⟨ret_int (by unfold po; omega), rfl⟩
/-- The gap between two intervals, by their ends. -/
def gp (a b c d : Int) : Int := max (max (c - b) (a - d)) 0
theorem refGap (p n q m : Int) (w : World) (hp : in32 p) (hn : in32 n) (hq : in32 q) (hm : in32 m) :
    Calls Try.prog 35 #[.int .i64 p, .int .i64 n, .int .i64 q, .int .i64 m] w fun e w' => e = .returned (.int .i64 (gp p (p + po n) q (q + po m))) ∧ w = w' := by
  obtain ⟨hp1, hp2⟩ := hp
  obtain ⟨hn1, hn2⟩ := hn
  obtain ⟨hq1, hq2⟩ := hq
  obtain ⟨hm1, hm2⟩ := hm
  have HG : Hid (gp p (p + po n) q (q + po m) = max (max (q - (p + max 0 n)) (p - (q + max 0 m))) 0) := rfl
  generalize gp p (p + po n) q (q + po m) = c at *
  by_cases h1 : n < 0 <;> by_cases h2 : m < 0
  all_goals go_enter Try.func35, Try.ntmps35
  all_goals go_wp2
  all_goals go_ret
  all_goals exact ⟨ret_int (by have := HG.out; omega), rfl⟩
end Go.Proofs.Ytmgopmcindlcmaa
