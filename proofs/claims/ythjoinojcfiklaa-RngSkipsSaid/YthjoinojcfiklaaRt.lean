/- The rest of package rng, and of the document's answers: one contract each; some of the chapter's answers. Nothing is assumed beyond each contract's own bounds. -/
import Derived.Test.YthjoinojcfiklaaRs
namespace Go.Proofs.Ythjoinojcfiklaa
open Go.RowKit
set_option linter.unusedVariables false
set_option maxRecDepth 20000

theorem scale (x n : Nat) (w : World) (hx : x < 18446744073709551616) (hn : n ≤ 2147483648) :
    Calls Try.prog 20 #[.int .u64 x, .int .u64 n] w fun e w' => e = .returned (.int .i64 ((bel x n : Nat) : Int)) ∧ w = w' := by
  have hp := bel_prod hx hn
  have HB : Hid (bel x n = x / 4294967296 * n / 4294967296) := rfl
  have h1 : IntKind.u64.wrap ((x : Int) / 4294967296 * (n : Int)) = ((x / 4294967296 * n : Nat) : Int) := by
    have := wrap_u64 (x / 4294967296 * n)
    rw [Nat.mod_eq_of_lt (by omega)] at this
    exact this
  generalize x / 4294967296 * n = p at *
  go_enter Try.func20, Try.ntmps20
  go_wp2
  go_ret
  exact ⟨ret_int (by rw [HB.out]; rfl), rfl⟩
/-- A count, made one that is not above 2147483648. -/
def cut (n : Nat) : Nat := if n ≤ 2147483648 then n else 2147483648
theorem cut_le (n : Nat) : cut n ≤ 2147483648 := by unfold cut; split <;> omega
/-- What Below tells of a source, and the source behind it. -/
def bl (s n : Nat) : Nat := bel (mx (skp s 1)) (cut n)
theorem below_one (s : Nat) (n : Int) (w : World) (h : n < 1) :
    Calls Try.prog 18 #[.agg #[.int .u64 (s : Int)], .int .i64 n] w fun e w' => e = .returned (.tuple #[.int .i64 0, .agg #[.int .u64 (s : Int)]]) ∧ Below w.heap.size w w' := by
  go_enter Try.func18, Try.ntmps18
  go_wp2
  go_region
  all_goals go_wp2
  all_goals (refine bodyPost_ret (v := .tuple #[.int .i64 0, .agg #[.int .u64 (s : Int)]]) (by simp [results, Try.results18, go_sem]) rfl ?_)
  all_goals exact ⟨rfl, by go_grown⟩
theorem below_many (s m : Nat) (w : World) (h : 0 < m) (hm : m < 9223372036854775808) (hs : s < 18446744073709551616) :
    Calls Try.prog 18 #[.agg #[.int .u64 (s : Int)], .int .i64 (m : Int)] w fun e w' => e = .returned (.tuple #[.int .i64 ((bl s m : Nat) : Int), .agg #[.int .u64 ((skp s 1 : Nat) : Int)]]) ∧ Below w.heap.size w w' := by
  have HB0 := Lib.hid (show Below w.heap.size w ((w.alloc (.cells #[.int .u64 s] 24)).alloc (.cells #[.int .u64 0] 24)) by go_grown)
  have C1 := Lib.hid (show Cells ((w.alloc (.cells #[.int .u64 s] 24)).alloc (.cells #[.int .u64 0] 24)) (w.heap.size + 1) 24 #[.int .u64 0] by simpa using Cells.made (w.alloc (.cells #[.int .u64 s] 24)) 24 #[.int .u64 0])
  go_enter Try.func18, Try.ntmps18
  go_wp2_with fail
  refine (next s _ hs).mono ?_
  rintro E w1 ⟨rfl, hb⟩
  have c1 := C1.out.below hb (by simp)
  have HB1 := Lib.hid (HB0.out.trans (hb.mono (by simp; omega)))
  have HZ := Lib.hid (show w.heap.size + 1 < w1.heap.size from c1.lt)
  have C1' := Lib.hid (c1.alloc (.cells #[.int .u64 ((skp s 1 : Nat) : Int)] 24))
  have C2' := Lib.hid (Cells.made w1 24 #[.int .u64 ((skp s 1 : Nat) : Int)])
  have HB2 := Lib.hid (HB1.out.alloc (by have := HZ.out; omega) (.cells #[.int .u64 ((skp s 1 : Nat) : Int)] 24))
  clear hb c1
  go_wp2
  have HN := Lib.hid (show (if (2147483648 : Int) < IntKind.u64.wrap (m : Int) then 2147483648 else IntKind.u64.wrap (m : Int)) = ((cut m : Nat) : Int) from by
    rw [wrap_u64, Nat.mod_eq_of_lt (by omega)]
    unfold cut
    split <;> split <;> omega)
  generalize w1.alloc (.cells #[.int .u64 ((skp s 1 : Nat) : Int)] 24) = w2 at *
  obtain ⟨w3, hw3⟩ : ∃ w3 : World, { w2 with drawn := w2.drawn + 1 } = w3 := ⟨_, rfl⟩
  have k2 : w3.cell? ⟨w1.heap.size, 0, none⟩ = some (.int .u64 ((skp s 1 : Nat) : Int)) := hw3 ▸ cell1 C2'.out
  have C1w : Cells w3 (w.heap.size + 1) 24 #[.int .u64 0] := by rw [← hw3]; exact C1'.out
  have HB3 := Lib.hid (show Below w.heap.size w w3 by rw [← hw3]; exact HB2.out.drew)
  refine wp_region_still_tail 7 (by kernel_rfl) (by kernel_rfl) ?_
  simp only [List.take_succ_cons, List.take_zero, List.drop_succ_cons, List.drop_zero]
  rw [hw3]
  clear hw3
  have HC := Lib.hid (scale (mx (skp s 1)) (cut m) w3 mx_lt (cut_le m))
  have k3 := cell1 C1w
  have z3 := C1w.frozen 0
  have k4 := cell1 (v := .int .u64 ((skp s 1 : Nat) : Int)) (C1w.set 0 _)
  clear C1w
  still_step
  still_step
  still_step
  still_step
  rw [HN.out]
  still_call (HC.out.mono fun _ _ ⟨h1, h2⟩ => ⟨h1, h2.symm⟩)
  still_step
  still_step
  refine wpStill_nil ?_
  go_wp2
  refine bodyPost_ret (v := .tuple #[.int .i64 ((bl s m : Nat) : Int), .agg #[.int .u64 ((skp s 1 : Nat) : Int)]]) (by simp [results, Try.results18, go_sem, k4, bl]) rfl ?_
  exact ⟨rfl, HB3.out.setCell (Nat.le_succ _) _⟩
theorem refBelow_one (s : Nat) (n : Int) (w : World) (h : n < 1) :
    Calls Try.prog 19 #[.int .u64 (s : Int), .int .i64 n] w fun e w' => e = .returned (.tuple #[.int .i64 0, .int .u64 (s : Int)]) ∧ w = w' := by
  go_enter Try.func19, Try.ntmps19
  go_wp2
  go_ret2
  exact ⟨rfl, rfl⟩
theorem bel_two (x n : Nat) (hx : x < 18446744073709551616) (hn : n ≤ 2147483648) :
    wrap64 (IntKind.u64.wrap ((IntKind.u64.wrap (IntKind.u64.wrap ((x : Int) / 4294967296) * (n : Int))).tdiv 4294967296)) = ((bel x n : Nat) : Int) := by
  have hp := bel_prod hx hn
  have h0 := wrap_u64 (x / 4294967296)
  rw [Nat.mod_eq_of_lt (by omega)] at h0
  have h1 := wrap_u64 (x / 4294967296 * n)
  rw [Nat.mod_eq_of_lt (by omega)] at h1
  rw [show (x : Int) / 4294967296 = ((x / 4294967296 : Nat) : Int) from rfl, h0]
  rw [show ((x / 4294967296 : Nat) : Int) * (n : Int) = ((x / 4294967296 * n : Nat) : Int) from rfl, h1]
  unfold bel
  generalize x / 4294967296 * n = p at *
  have h2 : (p : Int).tdiv 4294967296 = ((p / 4294967296 : Nat) : Int) := rfl
  have h3 := wrap_u64 (p / 4294967296)
  rw [Nat.mod_eq_of_lt (by omega)] at h3
  rw [h2, h3]
  unfold wrap64
  omega
theorem bel_big (x : Nat) (hx : x < 18446744073709551616) :
    wrap64 (IntKind.u64.wrap ((IntKind.u64.wrap (IntKind.u64.wrap ((x : Int) / 4294967296) * 2147483648)).tdiv 4294967296)) = ((bel x 2147483648 : Nat) : Int) :=
  bel_two x 2147483648 hx (Nat.le_refl _)
theorem ret_two {a b c : Int} (h : a = b) : Ending.returned (.tuple #[.int .i64 a, .int .u64 c]) = .returned (.tuple #[.int .i64 b, .int .u64 c]) := by rw [h]
theorem refBelow_many (s m : Nat) (w : World) (h : 0 < m) (hm : m < 9223372036854775808) (hs : s < 18446744073709551616) :
    Calls Try.prog 19 #[.int .u64 (s : Int), .int .i64 (m : Int)] w fun e w' => e = .returned (.tuple #[.int .i64 ((bl s m : Nat) : Int), .int .u64 ((skp s 1 : Nat) : Int)]) ∧ w = w' := by
  unfold bl
  by_cases hc : m ≤ 2147483648
  · have HP := Lib.hid (bel_two (mx (skp s 1)) m mx_lt hc)
    rw [show cut m = m from if_pos hc]
    go_enter Try.func19, Try.ntmps19
    go_wp2_with fail
    refine (refNext s _ hs).mono ?_
    rintro E w1 ⟨rfl, rfl⟩
    go_wp2
    go_ret2
    exact ⟨ret_two HP.out, rfl⟩
  · have HP := Lib.hid (bel_big (mx (skp s 1)) mx_lt)
    rw [show cut m = 2147483648 from if_neg hc]
    generalize bel (mx (skp s 1)) 2147483648 = q at *
    go_enter Try.func19, Try.ntmps19
    go_wp2_with fail
    refine (refNext s _ hs).mono ?_
    rintro E w1 ⟨rfl, rfl⟩
    go_wp2
    go_ret2
    exact ⟨ret_two HP.out, rfl⟩
theorem at_c (s n : Nat) (w : World) :
    Calls Try.prog 17 #[.int .u64 s, .int .u64 n] w fun e w' => e = .returned (.int .u64 ((mx (skp s (n + 1)) : Nat) : Int)) ∧ Below w.heap.size w w' := by
  have hmf : ∀ (fn : Fn) (first cap : Array Value) (w : World), (Instr.makeFunc fn first cap).run Try.prog w = .ok (.func fn first cap) w := fun _ _ _ _ => rfl
  have HM := Lib.hid (skp_skp s n 1)
  go_enter Try.func17, Try.ntmps17
  go_wp2_with fail
  refine (skip s n _).mono ?_
  rintro E w1 ⟨rfl, hb⟩
  go_wp2_with fail
  refine (next (skp s n) _ (skp_lt _ _)).mono ?_
  rintro E w2 ⟨rfl, hb2⟩
  have HB := Lib.hid (hb.trans (hb2.mono hb.size))
  clear hb hb2
  go_wp2
  go_ret
  exact ⟨ret_int (by rw [HM.out]), HB.out.alloc HB.out.size _⟩
set_option maxHeartbeats 1000000 in
theorem awake (w : World) :
    Calls Try.prog 14 #[] w fun e w' => e = .returned (.bool true) ∧ Below w.heap.size w w' := by
  have e1 : mx (skp 0 1) = 16294208416658607535 := by decide
  have e2 : skp 0 1 = 11400714819323198485 := by decide
  have e3 : mx 0 = 0 := by decide
  have HX := next 0 w (by decide)
  rw [e1, e2] at HX
  have HX := Lib.hid HX
  have HM := fun w => mix 0 w (by decide)
  rw [e3] at HM
  have HM := Lib.hid HM
  clear e1 e2 e3
  go_enter Try.func14, Try.ntmps14
  go_wp2_with fail
  refine HX.out.mono ?_
  rintro E w1 ⟨rfl, hb⟩
  have HB := Lib.hid hb
  clear hb
  go_wp2_with fail
  refine (HM.out _).mono ?_
  rintro E w2 ⟨rfl, rfl⟩
  go_wp2
  go_ret
  exact ⟨rfl, HB.out.alloc HB.out.size _⟩
end Go.Proofs.Ythjoinojcfiklaa
