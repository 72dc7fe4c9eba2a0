/- Texts of elder layers, one behind the other. -/
import Derived.Test.YtgmbdadkahcpcaaDoorProg
import Derived.WalkKit
import Derived.Laws.BitsAllLaws
import Derived.Lib.Hide
import Derived.Test.YtgmbdadkahcpcaaDoorRows
import Derived.ProofKit
import Derived.OpenShut
import Derived.Handy
import Derived.Below
import Derived.StillTailTactics
import Derived.Test.YtgmbdadkahcpcaaDoorAa
/- Plain mathematics of numbers that a seed tells: the mix is one to one on the numbers of 64 bits; a number below another one is so. Nothing is assumed beyond each fact's own bounds. -/
namespace Go.Proofs.YtgmbdadkahcpcaaDoor
open Go.RowKit
set_option linter.unusedVariables false

/-- A number xored with its own quotient by p. -/
def sh (p z : Nat) : Nat := z ^^^ z / p
/-- The mix. -/
def mx (n : Nat) : Nat := sh 2147483648 (sh 134217728 (sh 1073741824 n * 13787848793156543929 % 18446744073709551616) * 10723151780598845931 % 18446744073709551616)
/-- The source behind n calls. -/
def skp (s n : Nat) : Nat := (s + n * 11400714819323198485) % 18446744073709551616
/-- A number's upper half, made a number below n. -/
def bel (x n : Nat) : Nat := x / 4294967296 * n / 4294967296

theorem sh_lt {p z : Nat} (h : z < 18446744073709551616) : sh p z < 18446744073709551616 :=
  Nat.xor_lt_two_pow (n := 64) h (Nat.lt_of_le_of_lt (Nat.div_le_self _ _) h)
theorem mx_lt {n : Nat} : mx n < 18446744073709551616 := sh_lt (Nat.mod_lt _ (by decide))
theorem skp_lt (s n : Nat) : skp s n < 18446744073709551616 := Nat.mod_lt _ (by decide)
theorem xor_zero {x y : Nat} (h : x ^^^ y = 0) : x = y := by
  have : (x ^^^ y) ^^^ y = x := by rw [Nat.xor_assoc, Nat.xor_self, Nat.xor_zero]
  rw [h, Nat.zero_xor] at this
  exact this.symm
theorem sh_inj {k : Nat} (hk : 0 < k) {a b : Nat} (h : sh (2 ^ k) a = sh (2 ^ k) b) : a = b := by
  unfold sh at h
  have hz : a ^^^ b = (a ^^^ b) / 2 ^ k := by
    rw [Nat.xor_div_two_pow]
    have h2 : (a ^^^ a / 2 ^ k) ^^^ (b ^^^ b / 2 ^ k) = 0 := by rw [h, Nat.xor_self]
    have h3 : (a ^^^ b) ^^^ (a / 2 ^ k ^^^ b / 2 ^ k) = 0 := by
      rw [← h2]
      simp only [Nat.xor_assoc]
      congr 1
      rw [← Nat.xor_assoc, ← Nat.xor_assoc, Nat.xor_comm b]
    exact xor_zero h3
  have hp : 2 ≤ 2 ^ k := by
    calc 2 = 2 ^ 1 := rfl
      _ ≤ 2 ^ k := Nat.pow_le_pow_right (by decide) hk
  have h0 : a ^^^ b = 0 := by
    rcases Nat.eq_zero_or_pos (a ^^^ b) with h | h
    · exact h
    · have := Nat.div_lt_self h (k := 2 ^ k) (by omega)
      omega
  exact xor_zero h0
theorem mul_inj {c d : Nat} (hcd : c * d % 18446744073709551616 = 1) {a b : Nat} (ha : a < 18446744073709551616) (hb : b < 18446744073709551616) (h : a * c % 18446744073709551616 = b * c % 18446744073709551616) : a = b := by
  have hi : ∀ x, x < 18446744073709551616 → x * c % 18446744073709551616 * d % 18446744073709551616 = x := by
    intro x hx
    rw [Nat.mod_mul_mod, Nat.mul_assoc, Nat.mul_mod, hcd, Nat.mul_one, Nat.mod_mod, Nat.mod_eq_of_lt hx]
  rw [← hi a ha, ← hi b hb, h]
theorem mx_inj {a b : Nat} (ha : a < 18446744073709551616) (hb : b < 18446744073709551616) (h : mx a = mx b) : a = b := by
  have h1 := sh_inj (k := 31) (by decide) h
  have h2 := mul_inj (d := 3573116690164977347) (by decide) (sh_lt (Nat.mod_lt _ (by decide))) (sh_lt (Nat.mod_lt _ (by decide))) h1
  have h3 := sh_inj (k := 27) (by decide) h2
  have h4 := mul_inj (d := 10871156337175269513) (by decide) (sh_lt ha) (sh_lt hb) h3
  exact sh_inj (k := 30) (by decide) h4
theorem skp_skp (s a b : Nat) : skp (skp s a) b = skp s (a + b) := by
  unfold skp
  rw [Nat.mod_add_mod, Nat.add_mul, Nat.add_assoc]
theorem skp_mod (s a : Nat) : skp s (a % 18446744073709551616) = skp s a := by
  unfold skp
  rw [Nat.add_mod, Nat.mod_mul_mod, ← Nat.add_mod]
theorem bel_lt {x n : Nat} (hx : x < 18446744073709551616) (h : 0 < n) : bel x n < n := by
  unfold bel
  apply Nat.div_lt_of_lt_mul
  exact Nat.mul_lt_mul_of_pos_right (by omega) h
theorem bel_prod {x n : Nat} (hx : x < 18446744073709551616) (h : n ≤ 2147483648) : x / 4294967296 * n < 9223372036854775808 := by
  have h1 : x / 4294967296 ≤ 4294967295 := by omega
  have := Nat.mul_le_mul h1 h
  omega
end Go.Proofs.YtgmbdadkahcpcaaDoor
/- The functions of package rng, and the document's answers, as the walk of the program's text gives them: one contract each. Nothing is assumed beyond each contract's own bounds. -/
namespace Go.Proofs.YtgmbdadkahcpcaaDoor.R
open Go.RowKit
set_option linter.unusedVariables false
set_option maxRecDepth 20000

theorem ret_int {k : IntKind} {a b : Int} (h : a = b) : Ending.returned (.int k a) = .returned (.int k b) := by rw [h]
theorem ret_src {a b : Int} (h : a = b) : Ending.returned (.agg #[.int .u64 a]) = .returned (.agg #[.int .u64 b]) := by rw [h]
theorem xor_30 (n : Nat) (h : n < 18446744073709551616) : bits .xor .u64 (n : Int) ((n : Int) / 1073741824) = ((sh 1073741824 n : Nat) : Int) :=
  u64_xor_nat n (n / 1073741824) h (by omega)
theorem xor_27 (n : Nat) (h : n < 18446744073709551616) : bits .xor .u64 (n : Int) ((n : Int) / 134217728) = ((sh 134217728 n : Nat) : Int) :=
  u64_xor_nat n (n / 134217728) h (by omega)
theorem xor_31 (n : Nat) (h : n < 18446744073709551616) : bits .xor .u64 (n : Int) ((n : Int) / 2147483648) = ((sh 2147483648 n : Nat) : Int) :=
  u64_xor_nat n (n / 2147483648) h (by omega)
theorem wrap_u64 (n : Nat) : IntKind.u64.wrap (n : Int) = ((n % 18446744073709551616 : Nat) : Int) := by
  simp [IntKind.wrap, IntKind.signed, IntKind.bits]
theorem mul_one30 (a : Nat) : IntKind.u64.wrap ((a : Int) * 13787848793156543929) = ((a * 13787848793156543929 % 18446744073709551616 : Nat) : Int) := wrap_u64 (a * 13787848793156543929)
theorem mul_two27 (a : Nat) : IntKind.u64.wrap ((a : Int) * 10723151780598845931) = ((a * 10723151780598845931 % 18446744073709551616 : Nat) : Int) := wrap_u64 (a * 10723151780598845931)
theorem mix_says (n : Nat) (h : n < 18446744073709551616) :
    bits .xor .u64 (IntKind.u64.wrap (bits .xor .u64 (IntKind.u64.wrap (bits .xor .u64 (n : Int) ((n : Int) / 1073741824) * 13787848793156543929)) (IntKind.u64.wrap (bits .xor .u64 (n : Int) ((n : Int) / 1073741824) * 13787848793156543929) / 134217728) * 10723151780598845931)) (IntKind.u64.wrap (bits .xor .u64 (IntKind.u64.wrap (bits .xor .u64 (n : Int) ((n : Int) / 1073741824) * 13787848793156543929)) (IntKind.u64.wrap (bits .xor .u64 (n : Int) ((n : Int) / 1073741824) * 13787848793156543929) / 134217728) * 10723151780598845931) / 2147483648) = ((mx n : Nat) : Int) := by
  rw [xor_30 n h, mul_one30, xor_27 _ (Nat.mod_lt _ (by decide)), mul_two27, xor_31 _ (Nat.mod_lt _ (by decide))]
  rfl

theorem mix (n : Nat) (w : World) (h : n < 18446744073709551616) :
    Calls Tryd.prog 99 #[.int .u64 n] w fun e w' => e = .returned (.int .u64 ((mx n : Nat) : Int)) ∧ w = w' := by
  have HM := Lib.hid (mix_says n h)
  go_enter Tryd.func99, Tryd.ntmps99
  go_wp2
  go_ret
  exact ⟨ret_int HM.out, rfl⟩
theorem refMix (n : Nat) (w : World) (h : n < 18446744073709551616) :
    Calls Tryd.prog 101 #[.int .u64 n] w fun e w' => e = .returned (.int .u64 ((mx n : Nat) : Int)) ∧ w = w' := by
  have HM := Lib.hid (mix_says n h)
  go_enter Tryd.func101, Tryd.ntmps101
  go_wp2
  go_ret
  exact ⟨ret_int HM.out, rfl⟩
theorem stride (w : World) :
    Calls Tryd.prog 100 #[] w fun e w' => e = .returned (.int .u64 11400714819323198485) ∧ w = w' := by
  go_enter Tryd.func100, Tryd.ntmps100
  go_wp2
  go_ret
  exact ⟨rfl, rfl⟩
theorem skp_says (s n : Nat) : IntKind.u64.wrap ((s : Int) + IntKind.u64.wrap ((n : Int) * 11400714819323198485)) = ((skp s n : Nat) : Int) := by
  have h1 : IntKind.u64.wrap ((n : Int) * 11400714819323198485) = ((n * 11400714819323198485 % 18446744073709551616 : Nat) : Int) := wrap_u64 (n * 11400714819323198485)
  rw [h1]
  have h2 := wrap_u64 (s + n * 11400714819323198485 % 18446744073709551616)
  unfold skp
  rw [Nat.add_mod_mod] at h2
  exact h2
section
variable {w w' : World} {g : Nat} {t : TypeId} {v : Value}
theorem cell1 (h : Cells w g t #[v]) : w.cell? ⟨g, 0, none⟩ = some v := h.cell 0
end
theorem skip (s n : Nat) (w : World) :
    Calls Tryd.prog 98 #[.agg #[.int .u64 (s : Int)], .int .u64 n] w fun e w' => e = .returned (.agg #[.int .u64 ((skp s n : Nat) : Int)]) ∧ Below w.heap.size w w' := by
  have HM := Lib.hid (skp_says s n)
  go_enter Tryd.func98, Tryd.ntmps98
  go_wp2
  go_returns
  exact ⟨ret_src HM.out, by go_grown⟩
theorem next (s : Nat) (w : World) (h : s < 18446744073709551616) :
    Calls Tryd.prog 87 #[.agg #[.int .u64 (s : Int)]] w fun e w' => e = .returned (.tuple #[.int .u64 ((mx (skp s 1) : Nat) : Int), (.agg #[.int .u64 ((skp s 1 : Nat) : Int)])]) ∧ Below w.heap.size w w' := by
  go_enter Tryd.func87, Tryd.ntmps87
  have HB0 := Lib.hid (show Below w.heap.size w ((w.alloc (.cells #[.int .u64 s] 105)).alloc (.cells #[.int .u64 0] 105)) by go_grown)
  have C0 := Lib.hid ((Cells.made w 105 #[.int .u64 s]).alloc (.cells #[.int .u64 0] 105))
  have C1 := Lib.hid (Cells.made (w.alloc (.cells #[.int .u64 s] 105)) 105 #[.int .u64 0])
  go_wp2_with fail
  refine (skip s 1 _).mono ?_
  rintro E w1 ⟨rfl, hb⟩
  have c0 : Cells w1 w.heap.size 105 #[.int .u64 s] := C0.out.below hb (by simp; omega)
  have c1 : Cells w1 (w.heap.size + 1) 105 #[.int .u64 0] := (by simpa using C1.out : Cells _ (w.heap.size + 1) _ _).below hb (by simp)
  have HB1 := Lib.hid (HB0.out.trans (hb.mono (by simp; omega)))
  have z0 := c0.frozen 0
  have k0 := cell1 c0
  have C0' := Lib.hid (c0.set 0 (.int .u64 ((skp s 1 : Nat) : Int)))
  have C1' := Lib.hid (c1.far (p := ⟨w.heap.size, 0, none⟩) (by simp) (.int .u64 ((skp s 1 : Nat) : Int)))
  have HB2 := Lib.hid (HB1.out.setCell (p := ⟨w.heap.size, 0, none⟩) (Nat.le_refl _) (.int .u64 ((skp s 1 : Nat) : Int)))
  clear hb c0 c1
  go_wp2
  clear z0 k0
  generalize w1.setCell ⟨w.heap.size, 0, none⟩ (.int .u64 ((skp s 1 : Nat) : Int)) = w2 at *
  obtain ⟨w3, hw3⟩ : ∃ w3 : World, { w2 with drawn := w2.drawn + 1 } = w3 := ⟨_, rfl⟩
  have k2 : w3.cell? ⟨w.heap.size, 0, none⟩ = some (.int .u64 ((skp s 1 : Nat) : Int)) := hw3 ▸ cell1 C0'.out
  refine wp_region_still_tail 5 (by kernel_rfl) (by kernel_rfl) ?_
  simp only [List.take_succ_cons, List.take_zero, List.drop_succ_cons, List.drop_zero]
  rw [hw3]
  still_step
  still_step
  still_call ((mix (skp s 1) _ (skp_lt _ _)).mono fun _ _ ⟨h1, h2⟩ => ⟨h1, h2.symm⟩)
  still_step
  still_step
  refine wpStill_nil ?_
  have C1w : Cells w3 (w.heap.size + 1) 105 #[.int .u64 0] := by rw [← hw3]; exact C1'.out
  have HB3 := Lib.hid (show Below w.heap.size w w3 by rw [← hw3]; exact HB2.out.drew)
  clear hw3
  have k3 := cell1 C1w
  have z3 := C1w.frozen 0
  have k4 := cell1 (v := .int .u64 ((skp s 1 : Nat) : Int)) (C1w.set 0 _)
  clear C1w
  go_wp2
  refine bodyPost_ret (v := .tuple #[.int .u64 ((mx (skp s 1) : Nat) : Int), .agg #[.int .u64 ((skp s 1 : Nat) : Int)]]) (by simp [results, Tryd.results87, go_sem, k4]) rfl ?_
  exact ⟨rfl, HB3.out.setCell (Nat.le_succ _) _⟩
theorem refNext (s : Nat) (w : World) (h : s < 18446744073709551616) :
    Calls Tryd.prog 94 #[.int .u64 s] w fun e w' => e = .returned (.tuple #[.int .u64 ((mx (skp s 1) : Nat) : Int), .int .u64 ((skp s 1 : Nat) : Int)]) ∧ w = w' := by
  have HS := Lib.hid (show IntKind.u64.wrap ((s : Int) + 11400714819323198485) = ((skp s 1 : Nat) : Int) from by
    have := wrap_u64 (s + 1 * 11400714819323198485)
    simpa [skp] using this)
  go_enter Tryd.func94, Tryd.ntmps94
  go_wp2_with fail
  refine (stride _).mono ?_
  rintro E w1 ⟨rfl, rfl⟩
  have hs := HS.out
  go_wp2_with fail
  clear hs
  refine (refMix (skp s 1) _ (skp_lt _ _)).mono ?_
  rintro E w1 ⟨rfl, rfl⟩
  go_wp2
  go_ret2
  exact ⟨rfl, rfl⟩
end Go.Proofs.YtgmbdadkahcpcaaDoor.R
/- The rest of package rng, and of the document's answers: one contract each; some of the chapter's answers. Nothing is assumed beyond each contract's own bounds. -/
namespace Go.Proofs.YtgmbdadkahcpcaaDoor.R
open Go.RowKit
set_option linter.unusedVariables false
set_option maxRecDepth 20000

theorem scale (x n : Nat) (w : World) (hx : x < 18446744073709551616) (hn : n ≤ 2147483648) :
    Calls Tryd.prog 88 #[.int .u64 x, .int .u64 n] w fun e w' => e = .returned (.int .i64 ((bel x n : Nat) : Int)) ∧ w = w' := by
  have hp := bel_prod hx hn
  have HB : Hid (bel x n = x / 4294967296 * n / 4294967296) := rfl
  have h1 : IntKind.u64.wrap ((x : Int) / 4294967296 * (n : Int)) = ((x / 4294967296 * n : Nat) : Int) := by
    have := wrap_u64 (x / 4294967296 * n)
    rw [Nat.mod_eq_of_lt (by omega)] at this
    exact this
  generalize x / 4294967296 * n = p at *
  go_enter Tryd.func88, Tryd.ntmps88
  go_wp2
  go_ret
  exact ⟨ret_int (by rw [HB.out]; rfl), rfl⟩
/-- A count, made one that is not above 2147483648. -/
def cut (n : Nat) : Nat := if n ≤ 2147483648 then n else 2147483648
theorem cut_le (n : Nat) : cut n ≤ 2147483648 := by unfold cut; split <;> omega
/-- What Below tells of a source, and the source behind it. -/
def bl (s n : Nat) : Nat := bel (mx (skp s 1)) (cut n)
theorem below_one (s : Nat) (n : Int) (w : World) (h : n < 1) :
    Calls Tryd.prog 69 #[.agg #[.int .u64 (s : Int)], .int .i64 n] w fun e w' => e = .returned (.tuple #[.int .i64 0, .agg #[.int .u64 (s : Int)]]) ∧ Below w.heap.size w w' := by
  go_enter Tryd.func69, Tryd.ntmps69
  go_wp2
  go_region
  all_goals go_wp2
  all_goals (refine bodyPost_ret (v := .tuple #[.int .i64 0, .agg #[.int .u64 (s : Int)]]) (by simp [results, Tryd.results69, go_sem]) rfl ?_)
  all_goals exact ⟨rfl, by go_grown⟩
theorem below_many (s m : Nat) (w : World) (h : 0 < m) (hm : m < 9223372036854775808) (hs : s < 18446744073709551616) :
    Calls Tryd.prog 69 #[.agg #[.int .u64 (s : Int)], .int .i64 (m : Int)] w fun e w' => e = .returned (.tuple #[.int .i64 ((bl s m : Nat) : Int), .agg #[.int .u64 ((skp s 1 : Nat) : Int)]]) ∧ Below w.heap.size w w' := by
  have HB0 := Lib.hid (show Below w.heap.size w ((w.alloc (.cells #[.int .u64 s] 105)).alloc (.cells #[.int .u64 0] 105)) by go_grown)
  have C1 := Lib.hid (show Cells ((w.alloc (.cells #[.int .u64 s] 105)).alloc (.cells #[.int .u64 0] 105)) (w.heap.size + 1) 105 #[.int .u64 0] by simpa using Cells.made (w.alloc (.cells #[.int .u64 s] 105)) 105 #[.int .u64 0])
  go_enter Tryd.func69, Tryd.ntmps69
  go_wp2_with fail
  refine (next s _ hs).mono ?_
  rintro E w1 ⟨rfl, hb⟩
  have c1 := C1.out.below hb (by simp)
  have HB1 := Lib.hid (HB0.out.trans (hb.mono (by simp; omega)))
  have HZ := Lib.hid (show w.heap.size + 1 < w1.heap.size from c1.lt)
  have C1' := Lib.hid (c1.alloc (.cells #[.int .u64 ((skp s 1 : Nat) : Int)] 105))
  have C2' := Lib.hid (Cells.made w1 105 #[.int .u64 ((skp s 1 : Nat) : Int)])
  have HB2 := Lib.hid (HB1.out.alloc (by have := HZ.out; omega) (.cells #[.int .u64 ((skp s 1 : Nat) : Int)] 105))
  clear hb c1
  go_wp2
  have HN := Lib.hid (show (if (2147483648 : Int) < IntKind.u64.wrap (m : Int) then 2147483648 else IntKind.u64.wrap (m : Int)) = ((cut m : Nat) : Int) from by
    rw [wrap_u64, Nat.mod_eq_of_lt (by omega)]
    unfold cut
    split <;> split <;> omega)
  generalize w1.alloc (.cells #[.int .u64 ((skp s 1 : Nat) : Int)] 105) = w2 at *
  obtain ⟨w3, hw3⟩ : ∃ w3 : World, { w2 with drawn := w2.drawn + 1 } = w3 := ⟨_, rfl⟩
  have k2 : w3.cell? ⟨w1.heap.size, 0, none⟩ = some (.int .u64 ((skp s 1 : Nat) : Int)) := hw3 ▸ cell1 C2'.out
  have C1w : Cells w3 (w.heap.size + 1) 105 #[.int .u64 0] := by rw [← hw3]; exact C1'.out
  have HB3 := Lib.hid (show Below w.heap.size w w3 by rw [← hw3]; exact HB2.out.drew)
  refine wp_region_still_tail 7 (by kernel_rfl) (by kernel_rfl) ?_
  simp only [List.take_succ_cons, List.take_zero, List.drop_succ_cons, List.drop_zero]
  rw [hw3]
  clear hw3
  have HC := Lib.hid (scale (mx (skp s 1)) (cut m) w3 mx_lt (cut_le m))
  have k3 := cell1 C1w
  have z3 := C1w.frozen 0
  have k4 := cell1 (v := .int .u64 ((skp s 1 : Nat) : Int)) (C1w.set 0 _)
  clear C1w
  still_step
  still_step
  still_step
  still_step
  rw [HN.out]
  still_call (HC.out.mono fun _ _ ⟨h1, h2⟩ => ⟨h1, h2.symm⟩)
  still_step
  still_step
  refine wpStill_nil ?_
  go_wp2
  refine bodyPost_ret (v := .tuple #[.int .i64 ((bl s m : Nat) : Int), .agg #[.int .u64 ((skp s 1 : Nat) : Int)]]) (by simp [results, Tryd.results69, go_sem, k4, bl]) rfl ?_
  exact ⟨rfl, HB3.out.setCell (Nat.le_succ _) _⟩
theorem refBelow_one (s : Nat) (n : Int) (w : World) (h : n < 1) :
    Calls Tryd.prog 80 #[.int .u64 (s : Int), .int .i64 n] w fun e w' => e = .returned (.tuple #[.int .i64 0, .int .u64 (s : Int)]) ∧ w = w' := by
  go_enter Tryd.func80, Tryd.ntmps80
  go_wp2
  go_ret2
  exact ⟨rfl, rfl⟩
theorem bel_two (x n : Nat) (hx : x < 18446744073709551616) (hn : n ≤ 2147483648) :
    wrap64 (IntKind.u64.wrap ((IntKind.u64.wrap (IntKind.u64.wrap ((x : Int) / 4294967296) * (n : Int))).tdiv 4294967296)) = ((bel x n : Nat) : Int) := by
  have hp := bel_prod hx hn
  have h0 := wrap_u64 (x / 4294967296)
  rw [Nat.mod_eq_of_lt (by omega)] at h0
  have h1 := wrap_u64 (x / 4294967296 * n)
  rw [Nat.mod_eq_of_lt (by omega)] at h1
  rw [show (x : Int) / 4294967296 = ((x / 4294967296 : Nat) : Int) from rfl, h0]
  rw [show ((x / 4294967296 : Nat) : Int) * (n : Int) = ((x / 4294967296 * n : Nat) : Int) from rfl, h1]
  unfold bel
  generalize x / 4294967296 * n = p at *
  have h2 : (p : Int).tdiv 4294967296 = ((p / 4294967296 : Nat) : Int) := rfl
  have h3 := wrap_u64 (p / 4294967296)
  rw [Nat.mod_eq_of_lt (by omega)] at h3
  rw [h2, h3]
  unfold wrap64
  omega
theorem bel_big (x : Nat) (hx : x < 18446744073709551616) :
    wrap64 (IntKind.u64.wrap ((IntKind.u64.wrap (IntKind.u64.wrap ((x : Int) / 4294967296) * 2147483648)).tdiv 4294967296)) = ((bel x 2147483648 : Nat) : Int) :=
  bel_two x 2147483648 hx (Nat.le_refl _)
theorem ret_two {a b c : Int} (h : a = b) : Ending.returned (.tuple #[.int .i64 a, .int .u64 c]) = .returned (.tuple #[.int .i64 b, .int .u64 c]) := by rw [h]
theorem refBelow_many (s m : Nat) (w : World) (h : 0 < m) (hm : m < 9223372036854775808) (hs : s < 18446744073709551616) :
    Calls Tryd.prog 80 #[.int .u64 (s : Int), .int .i64 (m : Int)] w fun e w' => e = .returned (.tuple #[.int .i64 ((bl s m : Nat) : Int), .int .u64 ((skp s 1 : Nat) : Int)]) ∧ w = w' := by
  unfold bl
  by_cases hc : m ≤ 2147483648
  · have HP := Lib.hid (bel_two (mx (skp s 1)) m mx_lt hc)
    rw [show cut m = m from if_pos hc]
    go_enter Tryd.func80, Tryd.ntmps80
    go_wp2_with fail
    refine (refNext s _ hs).mono ?_
    rintro E w1 ⟨rfl, rfl⟩
    go_wp2
    go_ret2
    exact ⟨ret_two HP.out, rfl⟩
  · have HP := Lib.hid (bel_big (mx (skp s 1)) mx_lt)
    rw [show cut m = 2147483648 from if_neg hc]
    generalize bel (mx (skp s 1)) 2147483648 = q at *
    go_enter Tryd.func80, Tryd.ntmps80
    go_wp2_with fail
    refine (refNext s _ hs).mono ?_
    rintro E w1 ⟨rfl, rfl⟩
    go_wp2
    go_ret2
    exact ⟨ret_two HP.out, rfl⟩
end Go.Proofs.YtgmbdadkahcpcaaDoor.R
/- The plain mathematics of layer 6: runs of equal inputs, their bytes, what bytes are as a list of inputs. Nothing of the program. -/
namespace Go.Proofs.YtgmbdadkahcpcaaDoor.I
open Go.RowKit
set_option linter.unusedVariables false

/-- How often a stands at the head. -/
def cnt (a : UInt8) : List UInt8 → Nat
  | [] => 0
  | b :: r => if b = a then cnt a r + 1 else 0
/-- The runs of a list that stands behind p: what still belongs to p's run is left out. -/
def gp : Option UInt8 → List UInt8 → List (Nat × UInt8)
  | _, [] => []
  | p, a :: r => if p = some a then gp p r else (cnt a r + 1, a) :: gp (some a) r
def er : List (Nat × UInt8) → List UInt8
  | [] => []
  | x :: r => vr x.1 ++ x.2 :: er r
def ex : List (Nat × UInt8) → List UInt8
  | [] => []
  | x :: r => List.replicate x.1 x.2 ++ ex r
def ok64 (l : List UInt8) : Prop := ∀ a ∈ l, a.toNat < 64
instance (l : List UInt8) : Decidable (ok64 l) := by unfold ok64; infer_instance
/-- A list's bytes. -/
def enc (l : List UInt8) : List UInt8 := vr (gp none l).length ++ er (gp none l)
def pk (l : List UInt8) : List UInt8 := if ok64 l then enc l else []
/-- Runs as they must be, behind p. -/
def Pr : Option UInt8 → List (Nat × UInt8) → Prop
  | _, [] => True
  | p, x :: r => 0 < x.1 ∧ x.1 < 18446744073709551616 ∧ x.2.toNat < 64 ∧ p ≠ some x.2 ∧ Pr (some x.2) r

theorem ok_nil : ok64 [] := by intro a h; simp at h
theorem ok_cons {a : UInt8} {r : List UInt8} : ok64 (a :: r) ↔ a.toNat < 64 ∧ ok64 r := by simp [ok64]
theorem ok_append {a b : List UInt8} : ok64 (a ++ b) ↔ ok64 a ∧ ok64 b := by
  unfold ok64
  constructor
  · intro h; exact ⟨fun x hx => h x (List.mem_append.2 (.inl hx)), fun x hx => h x (List.mem_append.2 (.inr hx))⟩
  · rintro ⟨h1, h2⟩ x hx
    rcases List.mem_append.1 hx with h | h
    · exact h1 x h
    · exact h2 x h
theorem ok_rep {n : Nat} {a : UInt8} (h : a.toNat < 64) : ok64 (List.replicate n a) := by
  intro x hx
  rw [(List.mem_replicate.1 hx).2]; exact h
theorem cnt_le (a : UInt8) : ∀ l, cnt a l ≤ l.length
  | [] => by simp [cnt]
  | b :: r => by
    have := cnt_le a r
    unfold cnt
    split <;> simp <;> omega
theorem cnt_at (a : UInt8) : ∀ (l : List UInt8) (k : Nat), k < cnt a l → l[k]? = some a
  | [], k, h => by simp [cnt] at h
  | b :: r, k, h => by
    unfold cnt at h
    split at h
    · rename_i e
      subst e
      cases k with
      | zero => rfl
      | succ k => simpa using cnt_at b r k (by omega)
    · omega
theorem cnt_end (a : UInt8) : ∀ (l : List UInt8), l[cnt a l]? ≠ some a
  | [] => by simp
  | b :: r => by
    unfold cnt
    split
    · have := cnt_end a r
      simpa using this
    · rename_i e
      simpa using e
theorem cnt_unique (a : UInt8) (l : List UInt8) (n : Nat) (hn : n ≤ l.length) (h1 : ∀ k, k < n → l[k]? = some a) (h2 : l[n]? ≠ some a) : cnt a l = n := by
  rcases Nat.lt_trichotomy (cnt a l) n with h | h | h
  · exact absurd (h1 _ h) (cnt_end a l)
  · exact h
  · exact absurd (cnt_at a l n h) h2
theorem gp_drop (a : UInt8) : ∀ l, gp (some a) l = gp none (l.drop (cnt a l))
  | [] => by simp [gp]
  | b :: r => by
    by_cases e : b = a
    · subst e
      rw [gp, if_pos rfl, gp_drop b r]
      simp [cnt]
    · have h : ¬ (some a = some b) := fun h => e (by injection h with h; exact h.symm)
      simp [cnt, e, gp, Ne.symm e]
/-- The first run, and what is behind it. -/
theorem gp_cons (a : UInt8) (r : List UInt8) : gp none (a :: r) = (cnt a (a :: r), a) :: gp none ((a :: r).drop (cnt a (a :: r))) := by
  rw [gp, if_neg (by simp), gp_drop]
  simp [cnt]
theorem rep_split (a : UInt8) : ∀ l, List.replicate (cnt a l) a ++ l.drop (cnt a l) = l
  | [] => by simp [cnt]
  | b :: r => by
    unfold cnt
    split
    · rename_i e
      subst e
      simp [List.replicate_succ, rep_split b r]
    · simp
theorem ex_gp : ∀ (l : List UInt8), ex (gp none l) = l ∧ ∀ a, ex (gp (some a) l) = l.drop (cnt a l)
  | [] => by simp [gp, ex]
  | b :: r => by
    obtain ⟨_, ih⟩ := ex_gp r
    have h1 : ex ((cnt b r + 1, b) :: gp (some b) r) = b :: r := by
      simp only [ex, ih b, List.replicate_succ, List.cons_append, rep_split]
    refine ⟨by rw [gp, if_neg (by simp), h1], fun a => ?_⟩
    by_cases e : b = a
    · subst e
      rw [gp, if_pos rfl, ih]
      simp [cnt]
    · rw [gp, if_neg (fun h => e (by injection h with h; exact h.symm)), h1]
      simp [cnt, e]
theorem pr_gp : ∀ (l : List UInt8) (p : Option UInt8), ok64 l → l.length < 18446744073709551616 → Pr p (gp p l)
  | [], p, _, _ => by simp [gp, Pr]
  | a :: r, p, h, hl => by
    rw [ok_cons] at h
    have hc := cnt_le a r
    simp at hl
    unfold gp
    split
    · exact pr_gp r p h.2 (by omega)
    · rename_i e
      exact ⟨by simp, by show cnt a r + 1 < _; omega, h.1, e, pr_gp r (some a) h.2 (by omega)⟩
theorem cnt_rep (a : UInt8) (t : List UInt8) : ∀ n, cnt a (List.replicate n a ++ t) = n + cnt a t
  | 0 => by simp
  | n + 1 => by simp [List.replicate_succ, cnt, cnt_rep a t n]; omega
theorem gp_rep (a : UInt8) (t : List UInt8) : ∀ n, gp (some a) (List.replicate n a ++ t) = gp (some a) t
  | 0 => by simp
  | n + 1 => by simp [List.replicate_succ, gp, gp_rep a t n]
theorem cnt_ex {a : UInt8} : ∀ {rs : List (Nat × UInt8)}, Pr (some a) rs → cnt a (ex rs) = 0
  | [], _ => by simp [ex, cnt]
  | x :: r, h => by
    obtain ⟨h1, _, _, h4, _⟩ := h
    obtain ⟨m, hm⟩ : ∃ m, x.1 = m + 1 := ⟨x.1 - 1, by omega⟩
    have : ¬ (x.2 = a) := fun e => h4 (by rw [e])
    simp [ex, hm, List.replicate_succ, cnt, this]
theorem gp_ex : ∀ (rs : List (Nat × UInt8)) (p : Option UInt8), Pr p rs → gp p (ex rs) = rs
  | [], p, _ => by simp [ex, gp]
  | x :: r, p, h => by
    obtain ⟨h1, _, _, h4, h5⟩ := h
    obtain ⟨m, hm⟩ : ∃ m, x.1 = m + 1 := ⟨x.1 - 1, by omega⟩
    have ih := gp_ex r (some x.2) h5
    simp only [ex, hm, List.replicate_succ, List.cons_append]
    rw [gp, if_neg h4, gp_rep, cnt_rep, cnt_ex h5, ih]
    congr 1
    rw [show m + 0 + 1 = x.1 from by omega]
theorem ok_ex : ∀ (rs : List (Nat × UInt8)) (p : Option UInt8), Pr p rs → ok64 (ex rs)
  | [], _, _ => ok_nil
  | x :: r, p, h => by
    obtain ⟨_, _, h3, _, h5⟩ := h
    exact ok_append.2 ⟨ok_rep h3, ok_ex r _ h5⟩
theorem len_ex : ∀ (rs : List (Nat × UInt8)) (p : Option UInt8), Pr p rs → rs.length ≤ (ex rs).length
  | [], _, _ => by simp [ex]
  | x :: r, p, h => by
    have := len_ex r _ h.2.2.2.2
    have := h.1
    simp [ex]; omega
theorem gp_len (l : List UInt8) : ∀ p, (gp p l).length ≤ l.length := by
  induction l with
  | nil => simp [gp]
  | cons a r ih =>
    intro p
    unfold gp
    split
    · have := ih p; simp; omega
    · have := ih (some a); simp; omega
theorem er_len : ∀ (rs : List (Nat × UInt8)), (er rs).length ≤ 11 * rs.length
  | [] => by simp [er]
  | x :: r => by
    have := er_len r
    have := (vr_len x.1).2
    simp [er]; omega
theorem er_append : ∀ (a b : List (Nat × UInt8)), er (a ++ b) = er a ++ er b
  | [], b => by simp [er]
  | x :: a, b => by simp [er, er_append a b]

/-- What is wrong with a run at the head, read behind p, with room for so many. -/
def rerr (l : List UInt8) : Int := fin (vd 0 l).err (num 1 (vd 0 l).rest).err
def rbyt (l : List UInt8) : Nat := (num 1 (vd 0 l).rest).val
def rrst (l : List UInt8) : List UInt8 := (num 1 (vd 0 l).rest).rest
def rbad (p : Option UInt8) (room : Nat) (l : List UInt8) : Int :=
  if rerr l ≠ 0 then rerr l else if (vd 0 l).val = 0 ∨ 64 ≤ rbyt l ∨ p = some (UInt8.ofNat (rbyt l)) then 4 else if room < (vd 0 l).val then 3 else 0
def rnew (acc l : List UInt8) : List UInt8 := acc ++ List.replicate (vd 0 l).val (UInt8.ofNat (rbyt l))
def ur (M : Nat) : Nat → List UInt8 → List UInt8 → Got (List UInt8)
  | 0, acc, l => ⟨0, acc, l⟩
  | k + 1, acc, l => if rbad acc.getLast? (M - acc.length) l = 0 then ur M k (rnew acc l) (rrst l) else ⟨rbad acc.getLast? (M - acc.length) l, [], []⟩
/-- What any bytes are. -/
def upE (M : Nat) (s : List UInt8) : Int :=
  if (vd 0 s).err ≠ 0 then (vd 0 s).err else if M < (vd 0 s).val then 3
  else if (ur M (vd 0 s).val [] (vd 0 s).rest).err ≠ 0 then (ur M (vd 0 s).val [] (vd 0 s).rest).err else if (ur M (vd 0 s).val [] (vd 0 s).rest).rest ≠ [] then 4 else 0
def upL (M : Nat) (s : List UInt8) : List UInt8 := if upE M s = 0 then (ur M (vd 0 s).val [] (vd 0 s).rest).val else []
def mo (m : Int) : Nat := (min (max m 0) 4096).toNat

theorem mo_le (m : Int) : mo m ≤ 4096 := by unfold mo; omega
theorem num_one (a : UInt8) (t : List UInt8) : num 1 (a :: t) = ⟨0, a.toNat, t⟩ := by simp [num, un]
theorem num_nil : num 1 [] = ⟨10, 0, []⟩ := by simp [num]
theorem ofNat_toNat (a : UInt8) : UInt8.ofNat a.toNat = a := by simp
theorem rbyt_lt (l : List UInt8) : rbyt l < 256 := by
  unfold rbyt num
  split
  · have := un_lt ((vd 0 l).rest.take 1)
    rename_i h
    rw [List.length_take, Nat.min_eq_left h] at this
    simpa using this
  · simp
theorem vd_val_lt (l : List UInt8) : (vd 0 l).val < 18446744073709551616 := by
  by_cases h : (vd 0 l).err = 0
  · exact (vr_vd l h).2
  · rw [(vd_err h).2]; omega
/-- A run's own bytes are read as the run. -/
theorem run_read (n : Nat) (a : UInt8) (t : List UInt8) (hn : n < 18446744073709551616) :
    vd 0 (vr n ++ a :: t) = ⟨0, n, a :: t⟩ ∧ rerr (vr n ++ a :: t) = 0 ∧ rbyt (vr n ++ a :: t) = a.toNat ∧ rrst (vr n ++ a :: t) = t := by
  have h := vd_vr n (a :: t) hn
  refine ⟨h, ?_, ?_, ?_⟩
  · unfold rerr; rw [h, num_one]; rfl
  · unfold rbyt; rw [h, num_one]
  · unfold rrst; rw [h, num_one]
theorem run_ok (p : Option UInt8) (room n : Nat) (a : UInt8) (t : List UInt8) (hn : n < 18446744073709551616) (h0 : 0 < n) (ha : a.toNat < 64) (hp : p ≠ some a) :
    rbad p room (vr n ++ a :: t) = (if room < n then 3 else 0) ∧ ∀ acc, rnew acc (vr n ++ a :: t) = acc ++ List.replicate n a := by
  obtain ⟨h1, h2, h3, h4⟩ := run_read n a t hn
  refine ⟨?_, fun acc => ?_⟩
  · unfold rbad
    rw [h2, h1, h3, ofNat_toNat, if_neg (by simp), if_neg (by
      rintro (h | h | h)
      · have h' : n = 0 := h
        omega
      · omega
      · exact hp h)]
  · unfold rnew
    rw [h1, h3, ofNat_toNat]
theorem last_rep (acc : List UInt8) (n : Nat) (a : UInt8) (h : 0 < n) : (acc ++ List.replicate n a).getLast? = some a := by
  obtain ⟨m, rfl⟩ : ∃ m, n = m + 1 := ⟨n - 1, by omega⟩
  rw [List.replicate_succ', ← List.append_assoc, List.getLast?_append]
  simp
/-- Runs are read as they are, or are too long. -/
theorem ur_er (M : Nat) (t : List UInt8) : ∀ (rs : List (Nat × UInt8)) (acc : List UInt8), Pr acc.getLast? rs → acc.length ≤ M →
    ur M rs.length acc (er rs ++ t) = if acc.length + (ex rs).length ≤ M then ⟨0, acc ++ ex rs, t⟩ else ⟨3, [], []⟩
  | [], acc, _, h => by simp [ur, er, ex, h]
  | x :: r, acc, hp, h => by
    obtain ⟨h1, h2, h3, h4, h5⟩ := hp
    obtain ⟨k1, k2⟩ := run_ok acc.getLast? (M - acc.length) x.1 x.2 (er r ++ t) h2 h1 h3 h4
    have k3 := (run_read x.1 x.2 (er r ++ t) h2).2.2.2
    have e : er (x :: r) ++ t = vr x.1 ++ x.2 :: (er r ++ t) := by simp [er]
    rw [e]
    simp only [List.length_cons, ur, k1, k2, k3]
    by_cases hr : M - acc.length < x.1
    · rw [if_pos hr, if_neg (by decide), if_neg (by simp [ex]; omega)]
    · rw [if_neg hr, if_pos rfl, ur_er M t r _ (by rw [last_rep _ _ _ h1]; exact h5) (by simp; omega)]
      simp only [List.length_append, List.length_replicate, ex, List.append_assoc, Nat.add_assoc]
/-- A proper beginning of runs lacks bytes. -/
theorem ur_cut (M : Nat) : ∀ (rs : List (Nat × UInt8)) (acc p s : List UInt8), Pr acc.getLast? rs → acc.length + (ex rs).length ≤ M → er rs = p ++ s → s ≠ [] → (ur M rs.length acc p).err = 10
  | [], acc, p, s, _, _, he, hs => by simp [er] at he; exact absurd he.2 hs
  | x :: r, acc, p, s, hp, hM, he, hs => by
    obtain ⟨h1, h2, h3, h4, h5⟩ := hp
    have hT : rerr p = 10 → (ur M (x :: r).length acc p).err = 10 := fun h => by
      have : rbad acc.getLast? (M - acc.length) p = 10 := by unfold rbad; rw [h]; simp
      simp [ur, this]
    simp only [er] at he
    rcases List.append_eq_append_iff.1 he with ⟨q, e1, e2⟩ | ⟨q, e1, e2⟩
    · -- p = vr n ++ q
      cases q with
      | nil =>
        simp at e1
        refine hT ?_
        have := vd_vr x.1 [] h2
        rw [List.append_nil] at this
        unfold rerr
        rw [e1, this, num_nil]; rfl
      | cons b q =>
        simp only [List.cons_append, List.cons.injEq] at e2
        obtain ⟨rfl, e2⟩ := e2
        obtain ⟨k1, k2⟩ := run_ok acc.getLast? (M - acc.length) x.1 x.2 q h2 h1 h3 h4
        have k3 := (run_read x.1 x.2 q h2).2.2.2
        simp only [ex, List.length_append, List.length_replicate] at hM
        rw [e1]
        have hz : ¬ (M - acc.length < x.1) := by omega
        simp only [List.length_cons, ur, k1, k2, k3, if_neg hz, if_true]
        exact ur_cut M r _ q s (by rw [last_rep _ _ _ h1]; exact h5) (by simp; omega) e2 hs
    · -- vr n = p ++ q
      cases q with
      | nil =>
        simp at e1 e2
        refine hT ?_
        have := vd_vr x.1 [] h2
        rw [List.append_nil] at this
        unfold rerr
        rw [← e1, this, num_nil]; rfl
      | cons b q =>
        refine hT ?_
        have := vd_vrF_cut 9 0 x.1 p (b :: q) e1 (by simp) (by omega)
        unfold rerr
        rw [this, num_nil]; rfl
/-- What was read as runs has their bytes. -/
theorem ur_inv (M : Nat) : ∀ (k : Nat) (acc l : List UInt8), acc.length ≤ M → (ur M k acc l).err = 0 →
    ∃ rs, rs.length = k ∧ Pr acc.getLast? rs ∧ l = er rs ++ (ur M k acc l).rest ∧ (ur M k acc l).val = acc ++ ex rs ∧ (ur M k acc l).val.length ≤ M
  | 0, acc, l, h, _ => ⟨[], rfl, trivial, by simp [er, ur], by simp [ex, ur], h⟩
  | k + 1, acc, l, h, he => by
    have hb : rbad acc.getLast? (M - acc.length) l = 0 := by
      by_cases hb : rbad acc.getLast? (M - acc.length) l = 0
      · exact hb
      · simp only [ur, if_neg hb] at he; exact absurd he hb
    simp only [ur, if_pos hb] at he ⊢
    unfold rbad at hb
    split at hb
    · rename_i h1; exact absurd hb h1
    · rename_i h1
      split at hb
      · omega
      · rename_i h2
        split at hb
        · omega
        · rename_i h3
          simp only [not_or] at h2
          obtain ⟨h2a, h2b, h2c⟩ := h2
          have hv0 : (vd 0 l).err = 0 := by
            by_cases e : (vd 0 l).err = 0
            · exact e
            · refine absurd ?_ h1
              unfold rerr fin; rw [if_neg e]; exact e
          have hl1 := vr_vd l hv0
          have hn0 : (num 1 (vd 0 l).rest).err = 0 := by
            by_cases e : (num 1 (vd 0 l).rest).err = 0
            · exact e
            · refine absurd ?_ h1
              unfold rerr; rw [hv0, fin_of]; exact e
          obtain ⟨b, t, hbt⟩ : ∃ b t, (vd 0 l).rest = b :: t := by
            cases hr : (vd 0 l).rest with
            | nil => rw [hr, num_nil] at hn0; simp at hn0
            | cons b t => exact ⟨b, t, rfl⟩
          have hby : rbyt l = b.toNat := by unfold rbyt; rw [hbt, num_one]
          have hrs : rrst l = t := by unfold rrst; rw [hbt, num_one]
          have hnw : rnew acc l = acc ++ List.replicate (vd 0 l).val b := by unfold rnew; rw [hby, ofNat_toNat]
          rw [hby] at h2b
          rw [hby, ofNat_toNat] at h2c
          rw [hnw, hrs] at he ⊢
          obtain ⟨rs, e1, e2, e3, e4, e5⟩ := ur_inv M k (acc ++ List.replicate (vd 0 l).val b) t (by simp; omega) he
          refine ⟨((vd 0 l).val, b) :: rs, by simp [e1], ⟨by show 0 < _; omega, hl1.2, by show b.toNat < 64; omega, h2c, ?_⟩, ?_, ?_, e5⟩
          · rw [last_rep _ _ _ (by omega)] at e2; exact e2
          · rw [er, List.append_assoc, List.cons_append, ← e3, ← hbt]; exact hl1.1
          · rw [e4]; simp [ex]

/-- What Pack tells is read as the list, or is too long. -/
theorem up_enc (M : Nat) (m : List UInt8) (h : ok64 m) (hl : m.length ≤ 4096) : upE M (enc m) = (if m.length ≤ M then 0 else 3) ∧ upL M (enc m) = (if m.length ≤ M then m else []) := by
  have hp := pr_gp m none h (by omega)
  have hx := (ex_gp m).1
  have hg := gp_len m none
  generalize hrs : gp none m = rs at *
  have hv := vd_vr rs.length (er rs) (by omega)
  have hu := ur_er M [] rs [] hp (by simp)
  rw [List.append_nil] at hu
  simp only [List.length_nil, Nat.zero_add, List.nil_append, hx] at hu
  have hE : upE M (enc m) = if m.length ≤ M then 0 else 3 := by
    unfold upE enc
    rw [hrs, hv]
    simp only [hu]
    by_cases hm : m.length ≤ M
    · rw [if_pos hm]
      simp
      omega
    · rw [if_neg hm]
      simp
      omega
  refine ⟨hE, ?_⟩
  unfold upL
  rw [hE]
  unfold enc
  rw [hrs, hv, hu]
  by_cases hm : m.length ≤ M
  · rw [if_pos hm]; simp [hm]
  · rw [if_neg hm]; simp [hm]
theorem enc_pos (m : List UInt8) : 0 < (enc m).length := by
  have := vr_len (gp none m).length
  simp [enc]; omega
theorem enc_len (m : List UInt8) : (enc m).length ≤ 10 + 11 * m.length := by
  have := vr_len (gp none m).length
  have := er_len (gp none m)
  have := gp_len m none
  simp [enc]; omega
/-- A proper beginning lacks bytes. -/
theorem up_cut (m : List UInt8) (h : ok64 m) (hl : m.length ≤ 4096) (c : Nat) (hc : c < (enc m).length) : upE 4096 ((enc m).take c) = 10 := by
  have hp := pr_gp m none h (by omega)
  have hx := (ex_gp m).1
  have hg := gp_len m none
  have hsp : (enc m) = (enc m).take c ++ (enc m).drop c := (List.take_append_drop c _).symm
  have hne : (enc m).drop c ≠ [] := by
    intro e
    have := congrArg List.length e
    simp at this; omega
  generalize (enc m).take c = p at *
  generalize (enc m).drop c = s at *
  unfold enc at hsp
  generalize hrs : gp none m = rs at *
  rcases List.append_eq_append_iff.1 hsp with ⟨q, e1, e2⟩ | ⟨q, e1, e2⟩
  · have hv := vd_vr rs.length q (by omega)
    have hu := ur_cut 4096 rs [] q s hp (by rw [hx]; simpa using hl) e2 hne
    unfold upE
    rw [e1, hv]
    simp [hu]
    omega
  · cases q with
    | nil =>
      simp at e1 e2
      have hv := vd_vr rs.length [] (by omega)
      rw [List.append_nil, e1] at hv
      have hu := ur_cut 4096 rs [] [] s hp (by rw [hx]; simpa using hl) (by simpa using e2.symm) hne
      unfold upE
      rw [hv]
      simp [hu]
      omega
    | cons b q =>
      have hv := vd_vrF_cut 9 0 rs.length p (b :: q) e1 (by simp) (by omega)
      unfold upE
      rw [hv]
      simp
/-- What was read has that text. -/
theorem up_inv (M : Nat) (s : List UInt8) (hM : M ≤ 4096) (h : upE M s = 0) : pk (upL M s) = s ∧ (upL M s).length ≤ M := by
  have hL : upL M s = (ur M (vd 0 s).val [] (vd 0 s).rest).val := by unfold upL; rw [if_pos h]
  have hv : (vd 0 s).err = 0 := by
    by_cases e : (vd 0 s).err = 0
    · exact e
    · unfold upE at h; rw [if_pos e] at h; exact absurd h e
  have hu : (ur M (vd 0 s).val [] (vd 0 s).rest).err = 0 ∧ (ur M (vd 0 s).val [] (vd 0 s).rest).rest = [] := by
    unfold upE at h
    rw [if_neg (by simp [hv])] at h
    split at h
    · omega
    · split at h
      · rename_i e; exact absurd h e
      · rename_i e
        split at h
        · omega
        · rename_i e2
          exact ⟨by simpa using e, by simpa using e2⟩
  obtain ⟨rs, e1, e2, e3, e4, e5⟩ := ur_inv M _ [] (vd 0 s).rest (by simp) hu.1
  rw [hu.2, List.append_nil] at e3
  rw [List.nil_append] at e4
  rw [hL]
  refine ⟨?_, e5⟩
  have hg := gp_ex rs none e2
  rw [e4]
  unfold pk enc
  rw [if_pos (ok_ex rs _ e2), hg, e1, ← e3]
  exact (vr_vd s hv).1.symm
theorem upL_len (M : Nat) (s : List UInt8) (hM : M ≤ 4096) : (upL M s).length ≤ 4096 := by
  by_cases h : upE M s = 0
  · have := (up_inv M s hM h).2; omega
  · unfold upL; rw [if_neg h]; simp
theorem upL_bad (M : Nat) (s : List UInt8) (h : upE M s ≠ 0) : upL M s = [] := by unfold upL; rw [if_neg h]
end Go.Proofs.YtgmbdadkahcpcaaDoor.I
/- What one input says: its bits, its direction; the program's and the document's: one contract each. -/
namespace Go.Proofs.YtgmbdadkahcpcaaDoor.I
open Go.RowKit
set_option linter.unusedVariables false

def hasb (i b : Nat) : Bool := decide (i &&& b ≠ 0)
def along (i a b : Nat) : Int := (if hasb i b then 1 else 0) - (if hasb i a then 1 else 0)
def bitb (i n : Nat) : Bool := decide (i / 2 ^ n % 2 = 1)
def against (a b : Bool) : Int := if a && !b then -1 else if b && !a then 1 else 0

theorem has_c (i b : Nat) (w : World) (hi : i < 256) (hb : b < 256) :
    Calls Tryd.prog 82 #[.int .u8 i, .int .u8 b] w fun E w' => E = .returned (.bool (hasb i b)) ∧ w = w' := by
  have h : bits .and .u8 (i : Int) (b : Int) = ((i &&& b : Nat) : Int) := u8_and_nat i b hi hb
  have hx : (((i &&& b : Nat) : Int) != 0) = hasb i b := by
    unfold hasb
    by_cases e : i &&& b = 0
    · rw [e]; rfl
    · have : ((i &&& b : Nat) : Int) ≠ 0 := by omega
      simp [e]
  have HX := Lib.hid hx
  clear hx
  go_enter Tryd.func82, Tryd.ntmps82
  go_wp2
  go_ret
  exact ⟨congrArg (fun x => Ending.returned (Value.bool x)) HX.out, rfl⟩
theorem legal_c (i : Nat) (w : World) : Calls Tryd.prog 34 #[.int .u8 i] w fun E w' => E = .returned (.bool (decide (i < 64))) ∧ w = w' := by
  go_enter Tryd.func34, Tryd.ntmps34
  go_wp2
  go_ret
  exact ⟨congrArg (fun x => Ending.returned (Value.bool x)) (by simp only [decide_eq_decide]; omega : decide ((i : Int) < 64) = decide (i < 64)), rfl⟩
theorem refLegal (i : Nat) (w : World) : Calls Tryd.prog 48 #[.int .u8 i] w fun E w' => E = .returned (.bool (decide (i < 64))) ∧ w = w' := by
  go_enter Tryd.func48, Tryd.ntmps48
  go_wp2
  go_ret
  exact ⟨congrArg (fun x => Ending.returned (Value.bool x)) (by simp only [decide_eq_decide]; omega : decide ((i : Int) < 64) = decide (i < 64)), rfl⟩
theorem along_c (i a b : Nat) (w : World) (hi : i < 256) (ha : a < 256) (hb : b < 256) :
    Calls Tryd.prog 81 #[.int .u8 i, .int .u8 a, .int .u8 b] w fun E w' => E = .returned (.int .i32 (along i a b)) ∧ w = w' := by
  have HX := Lib.hid (show along i a b = (if hasb i b then 1 else 0) - (if hasb i a then 1 else 0) from rfl)
  have h1 := has_c i a w hi ha
  have h2 := has_c i b w hi hb
  generalize along i a b = r at *
  cases ha : hasb i a <;> cases hb : hasb i b <;> (
    rw [ha] at h1
    rw [hb] at h2
    have hz := HX.out
    rw [ha, hb] at hz
    have HZ := Lib.hid hz
    clear hz
    clear HX ha hb
    go_enter Tryd.func81, Tryd.ntmps81
    go_wp2_with fail
    refine h1.mono ?_
    rintro E w1 ⟨rfl, rfl⟩
    go_wp2_with fail
    refine h2.mono ?_
    rintro E w1 ⟨rfl, rfl⟩
    go_wp2
    go_ret
    exact ⟨by rw [HZ.out]; rfl, rfl⟩)
theorem dir_c (i : Nat) (w : World) (hi : i < 256) :
    Calls Tryd.prog 54 #[.int .u8 i] w fun E w' => E = .returned (.tuple #[.int .i32 (along i 1 2), .int .i32 (along i 4 8)]) ∧ w = w' := by
  have h1 := along_c i 1 2 w hi (by omega) (by omega)
  have h2 := along_c i 4 8 w hi (by omega) (by omega)
  generalize along i 1 2 = x at *
  generalize along i 4 8 = y at *
  go_enter Tryd.func54, Tryd.ntmps54
  go_wp2_with fail
  refine (h1).mono ?_
  rintro E w1 ⟨rfl, rfl⟩
  go_wp2_with fail
  refine (h2).mono ?_
  rintro E w1 ⟨rfl, rfl⟩
  go_wp2
  go_ret2
  exact ⟨rfl, rfl⟩
theorem fire_c (i : Nat) (w : World) (hi : i < 256) :
    Calls Tryd.prog 59 #[.int .u8 i] w fun E w' => E = .returned (.bool (hasb i 16)) ∧ w = w' := by
  have h1 := has_c i 16 w hi (by omega)
  go_enter Tryd.func59, Tryd.ntmps59
  go_wp2_with fail
  refine (h1).mono ?_
  rintro E w1 ⟨rfl, rfl⟩
  go_wp2
  go_ret
  exact ⟨rfl, rfl⟩
theorem dash_c (i : Nat) (w : World) (hi : i < 256) :
    Calls Tryd.prog 56 #[.int .u8 i] w fun E w' => E = .returned (.bool (hasb i 32)) ∧ w = w' := by
  have h1 := has_c i 32 w hi (by omega)
  go_enter Tryd.func56, Tryd.ntmps56
  go_wp2_with fail
  refine (h1).mono ?_
  rintro E w1 ⟨rfl, rfl⟩
  go_wp2
  go_ret
  exact ⟨rfl, rfl⟩
theorem refBit (i n : Nat) (w : World) (hi : i < 256) (hn : n < 6) :
    Calls Tryd.prog 91 #[.int .u8 i, .int .i64 n] w fun E w' => E = .returned (.bool (bitb i n)) ∧ w = w' := by
  have hx : ((((i : Int) / 2 ^ n).tmod 2 == 1) = bitb i n) := by
    have e : ((i : Int) / 2 ^ n) = ((i / 2 ^ n : Nat) : Int) := by push_cast; rfl
    rw [e]
    show (((i / 2 ^ n % 2 : Nat) : Int) == 1) = decide (i / 2 ^ n % 2 = 1)
    generalize i / 2 ^ n % 2 = q
    by_cases h : q = 1
    · subst h; rfl
    · have : (q : Int) ≠ 1 := by omega
      simp [h, this]
  have HX := Lib.hid hx
  clear hx
  generalize bitb i n = r at *
  go_enter Tryd.func91, Tryd.ntmps91
  go_wp2
  go_ret
  exact ⟨congrArg (fun x => Ending.returned (Value.bool x)) HX.out, rfl⟩
theorem refAgainst (a b : Bool) (w : World) :
    Calls Tryd.prog 90 #[.bool a, .bool b] w fun E w' => E = .returned (.int .i32 (against a b)) ∧ w = w' := by
  cases a <;> cases b <;> (
    go_enter Tryd.func90, Tryd.ntmps90
    go_wp2
    go_ret
    exact ⟨rfl, rfl⟩)
theorem refDir (i : Nat) (w : World) (hi : i < 256) :
    Calls Tryd.prog 72 #[.int .u8 i] w fun E w' => E = .returned (.tuple #[.int .i32 (against (bitb i 0) (bitb i 1)), .int .i32 (against (bitb i 2) (bitb i 3))]) ∧ w = w' := by
  have h1 := refBit i 0 w hi (by omega)
  have h2 := refBit i 1 w hi (by omega)
  have h3 := refBit i 2 w hi (by omega)
  have h4 := refBit i 3 w hi (by omega)
  generalize bitb i 0 = b0 at *
  generalize bitb i 1 = b1 at *
  generalize bitb i 2 = b2 at *
  generalize bitb i 3 = b3 at *
  have h5 := refAgainst b0 b1 w
  have h6 := refAgainst b2 b3 w
  generalize against b0 b1 = x at *
  generalize against b2 b3 = y at *
  go_enter Tryd.func72, Tryd.ntmps72
  go_wp2_with fail
  refine (h1).mono ?_
  rintro E w1 ⟨rfl, rfl⟩
  go_wp2_with fail
  refine (h2).mono ?_
  rintro E w1 ⟨rfl, rfl⟩
  go_wp2_with fail
  refine (h5).mono ?_
  rintro E w1 ⟨rfl, rfl⟩
  go_wp2_with fail
  refine (h3).mono ?_
  rintro E w1 ⟨rfl, rfl⟩
  go_wp2_with fail
  refine (h4).mono ?_
  rintro E w1 ⟨rfl, rfl⟩
  go_wp2_with fail
  refine (h6).mono ?_
  rintro E w1 ⟨rfl, rfl⟩
  go_wp2
  go_ret2
  exact ⟨rfl, rfl⟩
theorem refFire (i : Nat) (w : World) (hi : i < 256) :
    Calls Tryd.prog 75 #[.int .u8 i] w fun E w' => E = .returned (.bool (bitb i 4)) ∧ w = w' := by
  have h1 := refBit i 4 w hi (by omega)
  go_enter Tryd.func75, Tryd.ntmps75
  go_wp2_with fail
  refine (h1).mono ?_
  rintro E w1 ⟨rfl, rfl⟩
  go_wp2
  go_ret
  exact ⟨rfl, rfl⟩
theorem refDash (i : Nat) (w : World) (hi : i < 256) :
    Calls Tryd.prog 73 #[.int .u8 i] w fun E w' => E = .returned (.bool (bitb i 5)) ∧ w = w' := by
  have h1 := refBit i 5 w hi (by omega)
  go_enter Tryd.func73, Tryd.ntmps73
  go_wp2_with fail
  refine (h1).mono ?_
  rintro E w1 ⟨rfl, rfl⟩
  go_wp2
  go_ret
  exact ⟨rfl, rfl⟩

/-- Both say the same. -/
theorem bits_same : ∀ i : Fin 256, along i.val 1 2 = against (bitb i.val 0) (bitb i.val 1) ∧ along i.val 4 8 = against (bitb i.val 2) (bitb i.val 3) ∧ hasb i.val 16 = bitb i.val 4 ∧ hasb i.val 32 = bitb i.val 5 := by decide +kernel
/-- With left and right changed about, and up and down. -/
def swap (i : Nat) : Nat := (i &&& 1) * 2 ||| (i / 2 &&& 1) ||| (i &&& 4) * 2 ||| (i / 2 &&& 4) ||| (i &&& 240)
theorem swap_says : ∀ i : Fin 256, swap i.val < 256 ∧ along (swap i.val) 1 2 = - along i.val 1 2 ∧ along (swap i.val) 4 8 = - along i.val 4 8 ∧ along (i.val &&& 15) 1 2 = along i.val 1 2 ∧ along (i.val &&& 15) 4 8 = along i.val 4 8 := by decide +kernel
theorem along_within (i a b : Nat) : -1 ≤ along i a b ∧ along i a b ≤ 1 := by unfold along; split <;> split <;> omega
end Go.Proofs.YtgmbdadkahcpcaaDoor.I
