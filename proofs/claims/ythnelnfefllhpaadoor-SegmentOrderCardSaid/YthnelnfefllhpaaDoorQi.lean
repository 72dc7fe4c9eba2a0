/- The document's number at a place, lengths, and what may be: one contract each. -/
import Derived.Test.YthnelnfefllhpaaDoorQh
namespace Go.Proofs.YthnelnfefllhpaaDoor
open Go.RowKit
set_option linter.unusedVariables false
set_option linter.unusedSimpArgs false
set_option maxRecDepth 20000

theorem un_back {l : List UInt8} {a j : Nat} (h : a + 8 ≤ l.length) (hj : j < 8) : un ((l.drop (a + (8 - (j + 1)))).take (j + 1)) = (l[a + (8 - (j + 1))]'(by omega)).toNat + 256 * un ((l.drop (a + (8 - j))).take j) := by
  rw [List.drop_eq_getElem_cons (by omega : a + (8 - (j + 1)) < l.length), List.take_succ_cons, un, show a + (8 - (j + 1)) + 1 = a + (8 - j) by omega]
theorem un_small {l : List UInt8} (a j : Nat) : un ((l.drop a).take j) < 256 ^ j := by
  refine Nat.lt_of_lt_of_le (un_lt _) (Nat.pow_le_pow_right (by omega) ?_)
  rw [List.length_take]; omega
def NuR (l : List UInt8) (a : Nat) (v i : Value) : Prop := ∃ j n : Nat, j ≤ 8 ∧ i = .int .i64 (7 - (j : Int)) ∧ v = .int .u64 (n : Int) ∧ n = un ((l.drop (a + (8 - j))).take j)
theorem number_c (l : List UInt8) (a : Nat) (w : World) (h : a + 8 ≤ l.length) (hl : l.length ≤ 1099511627776) :
    Calls Tryd.prog 29 #[.string (str l), .int .i64 (a : Int)] w fun E w' => E = .returned (.int .u64 (fld l a 8 : Int)) ∧ w = w' := by
  have hs := str_size l
  have HB := Lib.hid (fun j hj => un_back (l := l) (a := a) (j := j) h hj)
  have HLT := Lib.hid (fun j => un_small (l := l) (a + (8 - j)) j)
  have HE : Hid (un ((l.drop (a + (8 - 8))).take 8) = fld l a 8) := by show _ = _; rfl
  go_enter Tryd.func29, Tryd.ntmps29
  go_wp2
  go_loop [5, 6] (fun v i => NuR l a v i) (fun _ i => (intOf i + 1).toNat)
  case atStart => exact ⟨0, 0, by omega, rfl, rfl, rfl⟩
  case round =>
    obtain ⟨j, n, hj, rfl, rfl, hn⟩ := hrel
    by_cases hlt : j < 8
    · have HN := Lib.hid hn
      have hlt2 := HLT.out j
      rw [← hn] at hlt2
      have hp : 256 ^ j ≤ 256 ^ 7 := Nat.pow_le_pow_right (by omega) (by omega)
      have hp7 : (256 : Nat) ^ 7 = 72057594037927936 := by decide
      have hn7 : n < 72057594037927936 := by omega
      have hB := HB.out j hlt
      rw [← hn] at hB
      have HBB := Lib.hid hB
      clear hn hB hlt2 hp hp7
      go_wp2
      go_round
      case rel =>
        have hb := (l[a + (8 - (j + 1))]'(by omega)).toNat_lt
        refine ⟨j + 1, _, by omega, by go_num, ?_, HBB.out.symm⟩
        have e : (str l)[a + (7 - j)]'(by rw [hs]; omega) = l[a + (8 - (j + 1))]'(by omega) := by
          show l[a + (7 - j)]'_ = _
          congr 1
          omega
        rw [e]
        generalize (l[a + (8 - (j + 1))]'(by omega)).toNat = b at *
        congr 1
        simp only [IntKind.wrap, IntKind.bits, IntKind.signed]
        simp
        omega
      case measure => simp [intOf]; omega
    · have hx : j = 8 := by omega
      subst hx
      rw [HE.out] at hn
      subst hn
      go_wp2
      go_ret
      exact ⟨rfl, rfl⟩
theorem lng_c (k : Nat) (w : World) (h : k = 1 ∨ k = 2 ∨ k = 3) :
    Calls Tryd.prog 28 #[.int .i64 (k : Int)] w fun E w' => E = .returned (.int .i64 (lng k : Int)) ∧ Below w.heap.size w w' := by
  rcases h with rfl | rfl | rfl
  all_goals
    go_enter Tryd.func28, Tryd.ntmps28
    go_wp2
    go_ret
    refine ⟨rfl, ?_⟩
    go_grown
end Go.Proofs.YthnelnfefllhpaaDoor
