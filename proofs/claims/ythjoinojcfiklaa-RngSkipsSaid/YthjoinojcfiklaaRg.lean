/- The Go function RngGoes, called with numbers of their kinds, returns true, and what lay in memory stays. Conditions: the numbers lie in their kinds' ranges. -/
import Derived.Test.YthjoinojcfiklaaRm
namespace Go.Proofs.Ythjoinojcfiklaa
open Go.RowKit
set_option linter.unusedVariables false
set_option maxRecDepth 20000

theorem skp_turn (s a : Nat) : skp s (a % 18446744073709551616 + 1) = skp s (a + 1) := by
  rw [← skp_skp, skp_mod, skp_skp]
theorem next_at (seed a : Nat) (w : World) : Calls Try.prog 10 #[.agg #[.int .u64 ((skp seed a : Nat) : Int)]] w fun e w' => e = .returned (.tuple #[.int .u64 ((mx (skp seed (a + 1)) : Nat) : Int), .agg #[.int .u64 ((skp seed (a + 1) : Nat) : Int)]]) ∧ Below w.heap.size w w' := by
  have := next (skp seed a) w (skp_lt _ _)
  rwa [skp_skp] at this
theorem at_turn (seed a : Nat) (w : World) : Calls Try.prog 17 #[.int .u64 (seed : Int), .int .u64 ((a % 18446744073709551616 : Nat) : Int)] w fun e w' => e = .returned (.int .u64 ((mx (skp seed (a + 1)) : Nat) : Int)) ∧ Below w.heap.size w w' := by
  have := at_c seed (a % 18446744073709551616) w
  rwa [skp_turn] at this
theorem skip_turn (seed a : Nat) (w : World) : Calls Try.prog 16 #[.agg #[.int .u64 (seed : Int)], .int .u64 ((a % 18446744073709551616 : Nat) : Int)] w fun e w' => e = .returned (.agg #[.int .u64 ((skp seed a : Nat) : Int)]) ∧ Below w.heap.size w w' := by
  have := skip seed (a % 18446744073709551616) w
  rwa [skp_mod] at this
theorem rest_says (start many : Nat) (h : many < 65536) : IntKind.u64.wrap ((start : Int) + IntKind.u64.wrap ((many : Int).tmod 300)) = IntKind.u64.wrap ((start + many % 300 : Nat) : Int) := by
  have h1 : (many : Int).tmod 300 = ((many % 300 : Nat) : Int) := rfl
  rw [h1, wrap_u64 (many % 300), Nat.mod_eq_of_lt (show many % 300 < 18446744073709551616 by omega)]
  rfl
/-- A round of RngGoes, at its head: the source lies in block g. -/
def GoRel (W : World) (g seed start n : Nat) (i : Value) (w : World) : Prop :=
  ∃ k : Nat, k ≤ n ∧ i = .int .u64 (k : Int) ∧ Cells w g 24 #[.int .u64 ((skp seed (start + k) : Nat) : Int)] ∧ Below W.heap.size W w
theorem lawGoes (seed start many : Nat) (w : World) (h1 : seed < 18446744073709551616) (h2 : start < 18446744073709551616) (h3 : many < 65536) :
    Calls Try.prog 7 #[.int .u64 (seed : Int), .int .u64 (start : Int), .int .u16 (many : Int)] w fun e w' => e = .returned (.bool true) ∧ Below w.heap.size w w' := by
  have hn : many % 300 < 300 := Nat.mod_lt _ (by decide)
  have HS0 := Lib.hid (skip seed start)
  go_enter Try.func7, Try.ntmps7
  go_wp2_with fail
  refine (HS0.out _).mono ?_
  rintro E w1 ⟨rfl, hb⟩
  have HB := Lib.hid (hb.alloc hb.size (.cells #[.int .u64 ((skp seed start : Nat) : Int)] 24))
  have HC := Lib.hid (Cells.made w1 24 #[.int .u64 ((skp seed start : Nat) : Int)])
  have HW1 := Lib.hid hb.size
  clear hb
  go_wp2
  go_loopw [8] (fun i wr => GoRel w w1.heap.size seed start (many % 300) i wr) (fun i _ => many % 300 - (intOf i).toNat)
  case atStart => exact ⟨0, by omega, rfl, HC.out, HB.out⟩
  case round =>
    obtain ⟨k, hk, rfl, hc, hbw⟩ := hrel
    have HB1 := Lib.hid hbw
    clear hbw
    by_cases hlt : k < many % 300
    · have HN := Lib.hid (next_at seed (start + k))
      have HA := Lib.hid (at_turn seed (start + k))
      have HW := Lib.hid (wrap_u64 (start + k))
      obtain ⟨q, HQ⟩ : ∃ q, q = skp seed (start + k) := ⟨_, rfl⟩
      obtain ⟨r, HR⟩ : ∃ r, r = skp seed (start + k + 1) := ⟨_, rfl⟩
      obtain ⟨x, HX⟩ : ∃ x, x = mx r := ⟨_, rfl⟩
      obtain ⟨m, HM⟩ : ∃ m, m = (start + k) % 18446744073709551616 := ⟨_, rfl⟩
      rw [← HR, ← HX] at HA HN
      rw [← HQ] at HN hc
      rw [← HM] at HW HA
      have HC1 := Lib.hid hc
      have HR' := Lib.hid HR
      clear HQ HR HX HM
      have k1 := cell1 hc
      go_wp2_with fail
      clear k1
      refine (HN.out _).mono ?_
      rintro E w2 ⟨rfl, hb2⟩
      have HC2 := Lib.hid (HC1.out.below hb2 HC1.out.lt)
      have HB2 := Lib.hid (below_on HB1.out hb2 HB1.out.size)
      clear hb2
      have HC3 := Lib.hid (HC2.out.alloc (.cells #[.int .u64 (r : Int)] 24))
      have HT3 := Lib.hid (Cells.made w2 24 #[.int .u64 (r : Int)])
      have HB3 := Lib.hid (HB2.out.alloc HB2.out.size (.cells #[.int .u64 (r : Int)] 24))
      have hw : IntKind.u64.wrap ((start : Int) + (k : Int)) = (m : Int) := HW.out
      go_wp2_with fail
      clear hw
      refine (HA.out _).mono ?_
      rintro E w4 ⟨rfl, hb4⟩
      have hc4 := HC3.out.below hb4 HC3.out.lt
      have ht4 := HT3.out.below hb4 HT3.out.lt
      have HB4 := Lib.hid (below_on HB3.out hb4 HB3.out.size)
      have HC4 := Lib.hid hc4
      clear hb4
      have k4 := cell1 hc4
      have z4 := hc4.frozen 0
      have t4 := cell1 ht4
      clear hc4 ht4
      go_wp2
      go_roundw
      case rel => exact ⟨k + 1, by omega, by go_num, by rw [← Nat.add_assoc, ← HR'.out]; exact HC4.out.set 0 _, HB4.out.setCell HW1.out _⟩
      case measure => simp [intOf]; omega
    · obtain rfl : k = many % 300 := by omega
      have HS := Lib.hid (skip_turn seed (start + many % 300))
      have HW := Lib.hid (wrap_u64 (start + many % 300))
      obtain ⟨q, HQ⟩ : ∃ q, q = skp seed (start + many % 300) := ⟨_, rfl⟩
      obtain ⟨m, HM⟩ : ∃ m, m = (start + many % 300) % 18446744073709551616 := ⟨_, rfl⟩
      rw [← HQ] at HS hc
      rw [← HM] at HW HS
      clear HQ HM
      have HC1 := Lib.hid hc.drew
      have hc0 := cell1 hc.drew
      clear hc
      have hw := rest_says start many h3
      rw [HW.out] at hw
      go_wp2
      go_region_held3 (fun w' => w'.cell? ⟨w1.heap.size, 0, none⟩ = some (.int .u64 (q : Int))) (first | assumption | exact hc0) (first | (go_at_call 16; refine (HS.out _).mono ?_; rintro E w2 ⟨rfl, hb2⟩; have c2 := Cells.below HC1.out hb2 HC1.out.lt; have k2 := cell1 c2; have B2 := Lib.hid (below_on HB1.out.drew hb2 HB1.out.size)) | (go_at_call 14; refine (awake _).mono ?_; rintro E w3 ⟨rfl, hb3⟩; have c3 := Cells.below c2 hb3 c2.lt; have k3 := cell1 c3; have B3 := Lib.hid (below_on B2.out hb3 B2.out.size)))
      all_goals go_wp2
      all_goals go_ret
      all_goals exact ⟨rfl, B3.out⟩
end Go.Proofs.Ythjoinojcfiklaa
