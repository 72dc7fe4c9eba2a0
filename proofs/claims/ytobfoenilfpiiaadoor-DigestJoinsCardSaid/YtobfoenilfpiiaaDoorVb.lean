/- The functions of package digest on numbers, texts and pairs, and the document's answers: one contract each. Nothing is assumed beyond each contract's own bounds. -/
import Derived.Test.YtobfoenilfpiiaaDoorTk
import Derived.Test.YtobfoenilfpiiaaDoorVa
namespace Go.Proofs.YtobfoenilfpiiaaDoor
open Go.RowKit
set_option linter.unusedVariables false
set_option maxRecDepth 20000
theorem ret_u64 {a b : Int} (h : a = b) : Ending.returned (.int .u64 a) = .returned (.int .u64 b) := by rw [h]
theorem dst_says (d b : Nat) (hd : d < 18446744073709551616) (hb : b < 256) : IntKind.u64.wrap (bits .xor .u64 (d : Int) (b : Int) * 1099511628211) = ((dst d b : Nat) : Int) := by
  rw [u64_xor_nat d b hd (by omega)]
  exact (show ∀ n : Nat, IntKind.u64.wrap (n : Int) = ((n % 18446744073709551616 : Nat) : Int) from fun n => by simp [IntKind.wrap, IntKind.signed, IntKind.bits]) ((d ^^^ b) * 1099511628211)
theorem stepped_c (d b : Nat) (w : World) (hd : d < 18446744073709551616) (hb : b < 256) :
    Calls Tryd.prog 19 #[.int .u64 (d : Int), .int .u8 (b : Int)] w fun E w' => E = .returned (.int .u64 ((dst d b : Nat) : Int)) ∧ w = w' := by
  have HM := Lib.hid (dst_says d b hd hb)
  go_enter Tryd.func19, Tryd.ntmps19
  go_wp2
  go_ret
  exact ⟨ret_u64 HM.out, rfl⟩
theorem refStep_c (d b : Nat) (w : World) (hd : d < 18446744073709551616) (hb : b < 256) :
    Calls Tryd.prog 20 #[.int .u64 (d : Int), .int .u8 (b : Int)] w fun E w' => E = .returned (.int .u64 ((dst d b : Nat) : Int)) ∧ w = w' := by
  have HM := Lib.hid (dst_says d b hd hb)
  go_enter Tryd.func20, Tryd.ntmps20
  go_wp2
  go_ret
  exact ⟨ret_u64 HM.out, rfl⟩
theorem str_at (l : List UInt8) (k : Nat) (h : k < l.length) : ((str l)[k]'(by rw [str_size]; exact h)) = l[k] := by
  simp [str, ByteArray.getElem_eq_getElem_data]
theorem join_c (d : Nat) (l : List UInt8) (w : World) (hd : d < 18446744073709551616) (hl : l.length ≤ maxLen) :
    Calls Tryd.prog 9 #[.int .u64 (d : Int), .string (str l)] w fun E w' => E = .returned (.int .u64 ((djn d l : Nat) : Int)) ∧ w = w' := by
  have hsz := str_size l
  have hlm : l.length ≤ 9223372036854775807 := Nat.le_trans hl (by decide)
  go_enter Tryd.func9, Tryd.ntmps9
  go_wp2
  go_loop [0, 8] (fun v i => ∃ k : Nat, k ≤ l.length ∧ i = .int .i64 k ∧ v = .int .u64 ((djn d (l.take k) : Nat) : Int)) (fun _ i => l.length - (intOf i).toNat)
  case atStart => exact ⟨0, by omega, rfl, rfl⟩
  case round =>
    obtain ⟨k, hk, rfl, rfl⟩ := hrel
    have hlt64 := djn_lt (l.take k) d hd
    by_cases hlt : k < l.length
    · have HN := Lib.hid (djn_more l d k hlt)
      go_wp2_with fail
      refine (stepped_c _ (l[k]'hlt).toNat _ hlt64 (UInt8.toNat_lt _)).mono ?_
      rintro E w1 ⟨rfl, rfl⟩
      go_wp2
      go_round
      case rel => exact ⟨k + 1, by omega, by go_num, by rw [HN.out]⟩
      case measure => simp [intOf]; omega
    · obtain rfl : k = l.length := by omega
      rw [List.take_length]
      go_wp2
      go_ret
      exact ⟨rfl, rfl⟩
theorem refJoin_c (d : Nat) (l : List UInt8) (w : World) (hd : d < 18446744073709551616) (hl : l.length ≤ maxLen) :
    Calls Tryd.prog 10 #[.int .u64 (d : Int), .string (str l)] w fun E w' => E = .returned (.int .u64 ((djn d l : Nat) : Int)) ∧ w = w' := by
  have hsz := str_size l
  have hlm : l.length ≤ 9223372036854775807 := Nat.le_trans hl (by decide)
  go_enter Tryd.func10, Tryd.ntmps10
  go_wp2
  go_loop [0, 5] (fun v i => ∃ k : Nat, k ≤ l.length ∧ i = .int .i64 k ∧ v = .int .u64 ((djn d (l.take k) : Nat) : Int)) (fun _ i => l.length - (intOf i).toNat)
  case atStart => exact ⟨0, by omega, rfl, rfl⟩
  case round =>
    obtain ⟨k, hk, rfl, rfl⟩ := hrel
    have hlt64 := djn_lt (l.take k) d hd
    by_cases hlt : k < l.length
    · have HN := Lib.hid (djn_more l d k hlt)
      go_wp2_with fail
      refine (refStep_c _ (l[k]'hlt).toNat _ hlt64 (UInt8.toNat_lt _)).mono ?_
      rintro E w1 ⟨rfl, rfl⟩
      go_wp2
      go_round
      case rel => exact ⟨k + 1, by omega, by go_num, by rw [HN.out]⟩
      case measure => simp [intOf]; omega
    · obtain rfl : k = l.length := by omega
      rw [List.take_length]
      go_wp2
      go_ret
      exact ⟨rfl, rfl⟩
theorem mix_c (d a b : Nat) (w : World) (hd : d < 18446744073709551616) (ha : a < 256) (hb : b < 256) :
    Calls Tryd.prog 13 #[.int .u64 (d : Int), .agg #[.int .u8 (a : Int), .int .u8 (b : Int)]] w fun E w' => E = .returned (.int .u64 ((dmx d (a, b) : Nat) : Int)) ∧ Below w.heap.size w w' := by
  have HB := Lib.hid (show Below w.heap.size w (w.alloc (.cells #[.int .u8 (a : Int), .int .u8 (b : Int)] 37)) by go_grown)
  have C := Cells.made w 37 #[.int .u8 (a : Int), .int .u8 (b : Int)]
  have k0 : (w.alloc (.cells #[.int .u8 (a : Int), .int .u8 (b : Int)] 37)).cell? ⟨w.heap.size, 0, none⟩ = some (.int .u8 (a : Int)) := C.cell 0
  have k1 : (w.alloc (.cells #[.int .u8 (a : Int), .int .u8 (b : Int)] 37)).cell? ⟨w.heap.size, 1, none⟩ = some (.int .u8 (b : Int)) := C.cell 1
  clear C
  go_enter Tryd.func13, Tryd.ntmps13
  go_wp2
  generalize w.alloc (.cells #[.int .u8 (a : Int), .int .u8 (b : Int)] 37) = wa at *
  have h1 := dst_lt d a
  go_loop [0, 6] (fun v i => (i = .int .i64 0 ∧ v = .int .u64 (d : Int)) ∨ (i = .int .i64 1 ∧ v = .int .u64 ((dst d a : Nat) : Int)) ∨ (i = .int .i64 2 ∧ v = .int .u64 ((dst (dst d a) b : Nat) : Int))) (fun _ i => 2 - (intOf i).toNat)
  case atStart => exact Or.inl ⟨rfl, rfl⟩
  case round =>
    rcases hrel with ⟨rfl, rfl⟩ | ⟨rfl, rfl⟩ | ⟨rfl, rfl⟩
    · go_wp2_with fail
      refine (stepped_c d a _ hd ha).mono ?_
      rintro E w1 ⟨rfl, rfl⟩
      go_wp2
      go_round
      case rel => exact Or.inr (Or.inl ⟨rfl, rfl⟩)
      case measure => simp [intOf]
    · go_wp2_with fail
      refine (stepped_c _ b _ h1 hb).mono ?_
      rintro E w1 ⟨rfl, rfl⟩
      go_wp2
      go_round
      case rel => exact Or.inr (Or.inr ⟨rfl, rfl⟩)
      case measure => simp [intOf]
    · go_wp2
      go_ret
      exact ⟨rfl, HB.out⟩
theorem refMix_e (d a b e1 e2 : Nat) (w : World) (q0 : ∀ W, Calls Tryd.prog 20 #[.int .u64 (d : Int), .int .u8 (a : Int)] W fun E w' => E = .returned (.int .u64 (e1 : Int)) ∧ w' = W)
    (q1 : ∀ W, Calls Tryd.prog 20 #[.int .u64 (e1 : Int), .int .u8 (b : Int)] W fun E w' => E = .returned (.int .u64 (e2 : Int)) ∧ w' = W) :
    Calls Tryd.prog 14 #[.int .u64 (d : Int), .agg #[.int .u8 (a : Int), .int .u8 (b : Int)]] w fun E w' => E = .returned (.int .u64 (e2 : Int)) ∧ Below w.heap.size w w' := by
  have HB := Lib.hid (show Below w.heap.size w (w.alloc (.cells #[.int .u8 (a : Int), .int .u8 (b : Int)] 37)) by go_grown)
  have C := Cells.made w 37 #[.int .u8 (a : Int), .int .u8 (b : Int)]
  have HQ0 := Lib.hid q0
  have HQ1 := Lib.hid q1
  clear q0 q1
  go_enter Tryd.func14, Tryd.ntmps14
  go_upto_region 1 with fail
  have k0 : (w.alloc (.cells #[.int .u8 (a : Int), .int .u8 (b : Int)] 37)).cell? ⟨w.heap.size, 0, none⟩ = some (.int .u8 (a : Int)) := C.cell 0
  have k1 : (w.alloc (.cells #[.int .u8 (a : Int), .int .u8 (b : Int)] 37)).cell? ⟨w.heap.size, 1, none⟩ = some (.int .u8 (b : Int)) := C.cell 1
  clear C
  generalize w.alloc (.cells #[.int .u8 (a : Int), .int .u8 (b : Int)] 37) = wa at *
  go_quiet (first
    | (go_at_call 20; with_reducible exact Calls.quiet_of_same (HQ0.out _))
    | (go_at_call 20; with_reducible exact Calls.quiet_of_same (HQ1.out _)))
  go_wp2
  go_ret
  exact ⟨rfl, below_drewN HB.out _⟩
theorem refMix_c (d a b : Nat) (w : World) (hd : d < 18446744073709551616) (ha : a < 256) (hb : b < 256) :
    Calls Tryd.prog 14 #[.int .u64 (d : Int), .agg #[.int .u8 (a : Int), .int .u8 (b : Int)]] w fun E w' => E = .returned (.int .u64 ((dmx d (a, b) : Nat) : Int)) ∧ Below w.heap.size w w' :=
  refMix_e d a b (dst d a) (dst (dst d a) b) w (fun W => (refStep_c d a W hd ha).mono fun _ _ hh => ⟨hh.1, hh.2.symm⟩) (fun W => (refStep_c _ b W (dst_lt _ _) hb).mono fun _ _ hh => ⟨hh.1, hh.2.symm⟩)
end Go.Proofs.YtobfoenilfpiiaaDoor
