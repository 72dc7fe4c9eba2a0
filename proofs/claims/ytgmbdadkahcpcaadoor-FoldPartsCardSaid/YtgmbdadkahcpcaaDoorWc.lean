/- The document's history: its functions, one contract each. Nothing is assumed beyond each contract's own bounds. -/
import Derived.Test.YtgmbdadkahcpcaaDoorWb
import Derived.Deep.RegionHeld3
import Derived.BigQuiet
import Derived.StillTailTactics
namespace Go.Proofs.YtgmbdadkahcpcaaDoor
open Go.RowKit
set_option linter.unusedVariables false
set_option linter.unusedSimpArgs false
set_option maxRecDepth 20000

/-- The document's history in block r. -/
abbrev RHc (w : World) (r : Nat) (F M : Nat) (lo : Option Addr) (n cap : Nat) : Prop := Cells w r 43 #[.int .u64 (F : Int), .int .i64 (M : Int), .slice lo n cap]
theorem may_c (m : Int) (w : World) : Calls Tryd.prog 14 #[.int .i64 m] w fun E w' => E = .returned (.bool (decide (1 ≤ m ∧ m ≤ 256))) ∧ w = w' := by
  by_cases h1 : 1 ≤ m
  · by_cases h2 : m ≤ 256
    · rw [decide_eq_true (show 1 ≤ m ∧ m ≤ 256 from ⟨h1, h2⟩)]
      go_enter Tryd.func14, Tryd.ntmps14
      go_wp2
      go_ret
      exact ⟨rfl, rfl⟩
    · rw [decide_eq_false (show ¬ (1 ≤ m ∧ m ≤ 256) from fun h => h2 h.2)]
      go_enter Tryd.func14, Tryd.ntmps14
      go_wp2
      go_ret
      exact ⟨rfl, rfl⟩
  · rw [decide_eq_false (show ¬ (1 ≤ m ∧ m ≤ 256) from fun h => h1 h.1)]
    go_enter Tryd.func14, Tryd.ntmps14
    go_wp2
    go_ret
    exact ⟨rfl, rfl⟩
theorem rcount_c (r F M : Nat) (lo : Option Addr) (n cap : Nat) (w : World) (h : RHc w r F M lo n cap) (hn : F + n < 18446744073709551616) :
    Calls Tryd.prog 18 #[.pointer (some ⟨r, 0, none⟩)] w fun E w' => E = .returned (.int .u64 ((F + n : Nat) : Int)) ∧ ∃ k, w' = w.drewN k := by
  have c0 := h.cell 0
  have c2 := h.cell 2
  have e1 : IntKind.u64.wrap (n : Int) = n := u64_id _ (by omega) (by omega)
  have e2 : IntKind.u64.wrap ((F : Int) + n) = ((F + n : Nat) : Int) := u64_id _ (by omega) (by omega)
  clear h
  go_enter Tryd.func18, Tryd.ntmps18
  go_upto_region 1 with fail
  go_quiet (fail)
  go_wp2
  go_ret
  exact ⟨by rfl, _, rfl⟩
theorem pair_neq (a b c e : Int) (w : World) : (binOp .neq 47 (.agg #[.int .u8 a, .int .u8 b]) (.agg #[.int .u8 c, .int .u8 e])).run Tryd.prog w = .ok (.bool (!((a == c) && (b == e)))) w := by
  rw [run_neq_struct]
  have h1 : (Tryd.prog.info? 45).map (·.size) = some 1 := by kernel_rfl
  obtain ⟨i, hi, hs⟩ := Option.map_eq_some_iff.1 h1
  rw [run_equalIn_array w 9999 _ _ Tryd.underlying47 hi, show Tryd.prog.cellsOf 45 = 1 by kernel_rfl]
  simp only [show List.range 2 = [0, 1] from rfl, Op.eqItems]
  cases h0 : (a == c) <;> cases h1 : (b == e) <;> simp [go_sem, h0, h1]
theorem pair_beq {i j p q : Nat} : ((((i : Int) == (p : Int)) && ((j : Int) == (q : Int)))) = decide ((i, j) = (p, q)) := by
  rw [Bool.eq_iff_iff]
  simp
  omega
attribute [local go_sem ↓] ld_pair
set_option maxHeartbeats 1000000 in
theorem rsame_c (a b : List (Nat × Nat)) (ao bo : Option Addr) (c1 c2 : Nat) (w : World) (h1 : Pis w ao a) (h2 : Pis w bo b) (hl1 : a.length ≤ maxLen) (hl2 : b.length ≤ maxLen) :
    Calls Tryd.prog 31 #[.slice ao a.length c1, .slice bo b.length c2] w fun E w' => E = .returned (.bool (decide (a = b))) ∧ Below w.heap.size w w' := by
  have H1 := Lib.hid h1
  have H2 := Lib.hid h2
  have hm : a.length ≤ 9223372036854775807 := Nat.le_trans hl1 (by decide)
  clear h1 h2 hl1 hl2
  by_cases hlen : a.length = b.length
  · rw [show b.length = a.length from hlen.symm]
    have HL := Lib.hid hlen
    clear hlen
    go_enter Tryd.func31, Tryd.ntmps31
    go_wp2
    go_loopw [5] (fun i wr => ∃ k : Nat, k ≤ a.length ∧ i = .int .i64 k ∧ Hid (a.take k = b.take k) ∧ Hid (Below w.heap.size w wr)) (fun i _ => a.length - (intOf i).toNat)
    case atStart => exact ⟨0, by omega, rfl, by show _ = _; simp, Below.refl _ _⟩
    case round =>
      obtain ⟨k, hk, rfl, HE, HB⟩ := hrel
      by_cases hlt : k < a.length
      · have hltb : k < b.length := by rw [← HL.out]; exact hlt
        obtain ⟨b0, o0, i, j, rfl, hi, hj, hx⟩ := H1.out.at k hlt
        obtain ⟨b1, o1, p, q, rfl, hp, hq, hy⟩ := H2.out.at k hltb
        have la : ∀ n, (ldT 47 (.pointer (some ⟨b0, o0 + k * 2, none⟩))).run Tryd.prog (wr.drewN n) = .ok (.agg #[.int .u8 (i : Int), .int .u8 (j : Int)]) (wr.drewN n) := fun n => pis_ld H1.out (below_drewN HB.out n) k hlt hx
        have lb : ∀ n, (ldT 47 (.pointer (some ⟨b1, o1 + k * 2, none⟩))).run Tryd.prog (wr.drewN n) = .ok (.agg #[.int .u8 (p : Int), .int .u8 (q : Int)]) (wr.drewN n) := fun n => pis_ld H2.out (below_drewN HB.out n) k hltb hy
        have hne : ∀ W, (binOp .neq 47 (.agg #[.int .u8 (i : Int), .int .u8 (j : Int)]) (.agg #[.int .u8 (p : Int), .int .u8 (q : Int)])).run Tryd.prog W = .ok (.bool (!decide ((i, j) = (p, q)))) W := fun W => by rw [pair_neq, pair_beq]
        have HX := Lib.hid hx
        have HY := Lib.hid hy
        clear hx hy
        by_cases he : (i, j) = (p, q)
        · rw [decide_eq_true he] at hne
          have HN : Hid (a.take (k + 1) = b.take (k + 1)) := by
            show _ = _
            rw [List.take_succ_eq_append_getElem hlt, List.take_succ_eq_append_getElem hltb, HE.out, HX.out, HY.out, he]
          clear he HX HY
          go_upto_region 6 with fail
          go_quiet (fail)
          go_wp2
          go_roundw
          case rel => exact ⟨k + 1, by omega, by go_num, HN.out, below_drewN HB.out _⟩
          case measure => simp [intOf]; omega
        · rw [decide_eq_false he] at hne
          have HN : Hid (decide (a = b) = false) := decide_eq_false fun e => he (by rw [← HX.out, ← HY.out]; subst e; rfl)
          clear he HX HY
          go_upto_region 6 with fail
          go_quiet (fail)
          go_wp2
          go_ret
          exact ⟨by rw [HN.out]; rfl, below_drewN HB.out _⟩
      · obtain rfl : k = a.length := by omega
        have HN : Hid (decide (a = b) = true) := decide_eq_true (by
          have := HE.out
          rw [List.take_length] at this
          rw [this, HL.out, List.take_length])
        go_wp2
        go_ret
        exact ⟨by rw [HN.out]; rfl, HB.out⟩
  · have hli : ((a.length : Int) != (b.length : Int)) = true := by simp; omega
    have hd : decide (a = b) = false := decide_eq_false fun e => hlen (by rw [e])
    rw [hd]
    go_enter Tryd.func31, Tryd.ntmps31
    go_wp2
    go_ret
    exact ⟨rfl, Below.refl _ _⟩
end Go.Proofs.YtgmbdadkahcpcaaDoor
