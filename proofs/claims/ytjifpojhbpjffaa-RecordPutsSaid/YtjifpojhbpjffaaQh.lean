/- The document's numbers, lengths, and what may be: one contract each. -/
import Derived.Test.YtjifpojhbpjffaaQg
import Derived.Laws.Rows
namespace Go.Proofs.Ytjifpojhbpjffaa
open Go.RowKit
set_option linter.unusedVariables false
set_option linter.unusedSimpArgs false
set_option maxRecDepth 20000

theorem info_by : (Try.prog.info? 5).map (fun i => (i.zero, i.size, i.bytes)) = some (some (.int .u8 0), 1, 1) := by kernel_rfl
/-- A number's row of eight bytes, i of them laid. -/
def z8 (i n : Nat) : Array Value := (bvs (le i n ++ List.replicate (8 - i) 0)).toArray
theorem z8_zero (n : Nat) : madeCells #[.int .u8 0] 8 = z8 0 n := by
  apply Array.ext'
  rw [toList_madeCells_one]
  simp [z8, bvs, le, bv]
theorem z8_size {i n : Nat} (h : i ≤ 8) : (z8 i n).size = 8 := by simp [z8, bvs, le_length]; omega
theorem z8_at {i n : Nat} (h : i < 8) : (z8 i n)[i]? = some (.int .u8 0) := by
  have e : 8 - i = (8 - (i + 1)) + 1 := by omega
  simp [z8, bvs, le_length, e, List.replicate_succ, bv, List.getElem?_append_right]
theorem z8_set {i n b : Nat} (h : i < 8) (hb : b = n / 256 ^ i % 256) : (z8 i n).setIfInBounds i (.int .u8 (b : Int)) = z8 (i + 1) n := by
  have e : 8 - i = (8 - (i + 1)) + 1 := by omega
  have hl := le_length i n
  subst hb
  unfold z8
  rw [le_snoc, e, List.replicate_succ]
  simp only [bvs_append, bvs, List.map_cons, List.setIfInBounds_toArray]
  congr 1
  rw [List.map_append, List.set_append, if_neg (by simp [hl])]
  simp [hl, bv]
theorem grown_setnew {w wr : World} {g : Nat} (h : w.grownBy wr none) (hg : w.heap.size ≤ g) (i : Nat) (u : Value) : w.grownBy (wr.setCell ⟨g, i, none⟩ u) none :=
  ⟨h.os, h.tape, h.output, by have := h.size; simp [World.setCell]; exact this, fun k hk hn => (Below.heap_setCell wr _ u k (by show k ≠ g; omega)).trans (h.block k hk hn)⟩
theorem div_step (n i : Nat) : n / 256 ^ i / 256 = n / 256 ^ (i + 1) := by rw [Nat.div_div_eq_div_mul, Nat.pow_succ]
def LgR (w : World) (n : Nat) (v j : Value) (wr : World) : Prop := ∃ i m : Nat, i ≤ 8 ∧ j = .int .i64 (i : Int) ∧ v = .int .u64 (m : Int) ∧ m = n / 256 ^ i ∧ Hid (Cells wr w.heap.size 5 (z8 i n)) ∧ Hid (w.grownBy wr none)
theorem long_c (n : Nat) (w : World) (hn : n < 18446744073709551616) :
    Calls Try.prog 19 #[.int .u64 (n : Int)] w fun E w' => E = .returned (.string (str (le 8 n))) ∧ Below w.heap.size w w' := by
  have hmk : (Instr.makeSlice 45 (.int .i64 8) (.int .i64 8)).run Try.prog w = .ok (.slice (some ⟨w.heap.size, 0, none⟩) 8 8) (w.alloc (.cells (z8 0 n) 5)) :=
    (z8_zero n) ▸ run_make_row' (P := Try.prog) 45 5 (.int .u8 0) 1 Try.underlying45 info_by rfl .i64 .i64 8 (by omega) (by omega) w
  have HN := Lib.hid hn
  clear hn
  go_enter Try.func19, Try.ntmps19
  go_wp2
  go_loopw [0, 4] (fun v j wr => LgR w n v j wr) (fun _ j _ => 8 - (intOf j).toNat)
  case atStart => exact ⟨0, n, by omega, rfl, rfl, by simp, Cells.made _ _ _, grown_alloc _ _⟩
  case round =>
    obtain ⟨i, m, hi, rfl, rfl, hm, HC, HG⟩ := hrel
    by_cases hlt : i < 8
    · have hz := z8_at (n := n) hlt
      have c0 : wr.cell? ⟨w.heap.size, i, none⟩ = some (.int .u8 0) := by rw [HC.out.cell, hz]
      have f0 := HC.out.frozen i
      obtain ⟨b, hb⟩ : ∃ b, b = n / 256 ^ i % 256 := ⟨_, rfl⟩
      have HS := Lib.hid (z8_set (n := n) hlt hb)
      have HD := Lib.hid (div_step n i)
      have hm1 : IntKind.u8.wrap ((m : Int) % 256) = (b : Int) := by subst hb; rw [← hm]; simp [IntKind.wrap, IntKind.bits, IntKind.signed]
      have hm2 : (m : Int) % 256 = (b : Int) := by subst hb; rw [← hm]; omega
      have HM := Lib.hid hm
      clear hz hb hm
      go_wp2
      go_roundw
      case rel =>
        have hmn : m < 18446744073709551616 := by rw [HM.out]; exact Nat.lt_of_le_of_lt (Nat.div_le_self _ _) HN.out
        refine ⟨i + 1, m / 256, by omega, by go_num, ?_, by rw [HM.out, HD.out], ?_, grown_setnew HG.out (Nat.le_refl _) _ _⟩
        · congr 1
          exact u64_id _ (by omega) (by omega)
        · show Cells _ _ _ _
          rw [← HS.out]
          exact HC.out.set i _
      case measure => simp [intOf]; omega
    · have hx : i = 8 := by omega
      have HX := Lib.hid hx
      have hcv : (convert 45 9 (.slice (some ⟨w.heap.size, 0, none⟩) 8 8)).run Try.prog wr = .ok (.string (str (le 8 n))) wr := by
        have hl := le_length 8 n
        have := run_convert_bytes_back (P := Try.prog) wr 45 9 5 ⟨w.heap.size, 0, none⟩ 8 (le 8 n) Try.underlying45 Try.underlying5 Try.underlying9 (fun j hj => by
          have e : (⟨w.heap.size, 0, none⟩ : Addr).add j = ⟨w.heap.size, j, none⟩ := by unfold Addr.add; split <;> simp_all
          rw [e, HC.out.cell j, hx]
          simp [z8, bvs, bv, List.getElem?_eq_getElem hj])
        rwa [hl] at this
      clear hx
      go_wp2
      go_ret
      exact ⟨rfl, below_of_grown HG.out⟩
end Go.Proofs.Ytjifpojhbpjffaa
