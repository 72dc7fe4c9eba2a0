/- The document's numbers, lengths, and what may be: one contract each. -/
import Derived.Test.YthnelnfefllhpaaDoorQg
import Derived.Laws.Rows
namespace Go.Proofs.YthnelnfefllhpaaDoor
open Go.RowKit
set_option linter.unusedVariables false
set_option linter.unusedSimpArgs false
set_option maxRecDepth 20000

theorem info_by : (Tryd.prog.info? 5).map (fun i => (i.zero, i.size, i.bytes)) = some (some (.int .u8 0), 1, 1) := by kernel_rfl
/-- A number's row of eight bytes, i of them laid. -/
def z8 (i n : Nat) : Array Value := (bvs (le i n ++ List.replicate (8 - i) 0)).toArray
theorem z8_zero (n : Nat) : madeCells #[.int .u8 0] 8 = z8 0 n := by
  apply Array.ext'
  rw [toList_madeCells_one]
  simp [z8, bvs, le, bv]
theorem z8_size {i n : Nat} (h : i ≤ 8) : (z8 i n).size = 8 := by simp [z8, bvs, le_length]; omega
theorem z8_at {i n : Nat} (h : i < 8) : (z8 i n)[i]? = some (.int .u8 0) := by
  have e : 8 - i = (8 - (i + 1)) + 1 := by omega
  simp [z8, bvs, le_length, e, List.replicate_succ, bv, List.getElem?_append_right]
theorem z8_set {i n b : Nat} (h : i < 8) (hb : b = n / 256 ^ i % 256) : (z8 i n).setIfInBounds i (.int .u8 (b : Int)) = z8 (i + 1) n := by
  have e : 8 - i = (8 - (i + 1)) + 1 := by omega
  have hl := le_length i n
  subst hb
  unfold z8
  rw [le_snoc, e, List.replicate_succ]
  simp only [bvs_append, bvs, List.map_cons, List.setIfInBounds_toArray]
  congr 1
  rw [List.map_append, List.set_append, if_neg (by simp [hl])]
  simp [hl, bv]
theorem grown_setnew {w wr : World} {g : Nat} (h : w.grownBy wr none) (hg : w.heap.size ≤ g) (i : Nat) (u : Value) : w.grownBy (wr.setCell ⟨g, i, none⟩ u) none :=
  ⟨h.os, h.tape, h.output, by have := h.size; simp [World.setCell]; exact this, fun k hk hn => (Below.heap_setCell wr _ u k (by show k ≠ g; omega)).trans (h.block k hk hn)⟩
theorem div_step (n i : Nat) : n / 256 ^ i / 256 = n / 256 ^ (i + 1) := by rw [Nat.div_div_eq_div_mul, Nat.pow_succ]
def LgR (w : World) (n : Nat) (v j : Value) (wr : World) : Prop := ∃ i m : Nat, i ≤ 8 ∧ j = .int .i64 (i : Int) ∧ v = .int .u64 (m : Int) ∧ m = n / 256 ^ i ∧ Hid (Cells wr w.heap.size 5 (z8 i n)) ∧ Hid (w.grownBy wr none)
end Go.Proofs.YthnelnfefllhpaaDoor
