/- The document's numbers of eight bytes and of one, and what may be: one contract each. -/
import Derived.Test.YtakejacamkdncaaGreatDoorMg
import Derived.Laws.Rows
namespace Go.Proofs.YtakejacamkdncaaGreatDoor
open Go.RowKit
set_option linter.unusedVariables false
set_option linter.unusedSimpArgs false
set_option maxRecDepth 20000

theorem info_by : (Tryz.prog.info? 5).map (fun i => (i.zero, i.size, i.bytes)) = some (some (.int .u8 0), 1, 1) := by kernel_rfl
/-- A number's row of eight bytes, i of them laid. -/
def z8 (i n : Nat) : Array Value := (bvs (le i n ++ List.replicate (8 - i) 0)).toArray
theorem z8_zero (n : Nat) : madeCells #[.int .u8 0] 8 = z8 0 n := by
  apply Array.ext'
  rw [toList_madeCells_one]
  simp [z8, bvs, le, bv]
theorem z8_size {i n : Nat} (h : i ≤ 8) : (z8 i n).size = 8 := by simp [z8, bvs, le_length]; omega
theorem z8_at {i n : Nat} (h : i < 8) : (z8 i n)[i]? = some (.int .u8 0) := by
  have e : 8 - i = (8 - (i + 1)) + 1 := by omega
  simp [z8, bvs, le_length, e, List.replicate_succ, bv, List.getElem?_append_right]
theorem z8_set {i n b : Nat} (h : i < 8) (hb : b = n / 256 ^ i % 256) : (z8 i n).setIfInBounds i (.int .u8 (b : Int)) = z8 (i + 1) n := by
  have e : 8 - i = (8 - (i + 1)) + 1 := by omega
  have hl := le_length i n
  subst hb
  unfold z8
  rw [le_snoc, e, List.replicate_succ]
  simp only [bvs_append, bvs, List.map_cons, List.setIfInBounds_toArray]
  congr 1
  rw [List.map_append, List.set_append, if_neg (by simp [hl])]
  simp [hl, bv]
theorem grown_setnew {w wr : World} {g : Nat} (h : w.grownBy wr none) (hg : w.heap.size ≤ g) (i : Nat) (u : Value) : w.grownBy (wr.setCell ⟨g, i, none⟩ u) none :=
  ⟨h.os, h.tape, h.output, by have := h.size; simp [World.setCell]; exact this, fun k hk hn => (Below.heap_setCell wr _ u k (by show k ≠ g; omega)).trans (h.block k hk hn)⟩
theorem div_step (n i : Nat) : n / 256 ^ i / 256 = n / 256 ^ (i + 1) := by rw [Nat.div_div_eq_div_mul, Nat.pow_succ]
def LgR (w : World) (n : Nat) (v j : Value) (wr : World) : Prop := ∃ i m : Nat, i ≤ 8 ∧ j = .int .i64 (i : Int) ∧ v = .int .u64 (m : Int) ∧ m = n / 256 ^ i ∧ Hid (Cells wr w.heap.size 5 (z8 i n)) ∧ Hid (w.grownBy wr none)
theorem long_c (n : Nat) (w : World) (hn : n < 18446744073709551616) :
    Calls Tryz.prog 105 #[.int .u64 (n : Int)] w fun E w' => E = .returned (.string (str (le 8 n))) ∧ Below w.heap.size w w' := by
  have hmk : (Instr.makeSlice 113 (.int .i64 8) (.int .i64 8)).run Tryz.prog w = .ok (.slice (some ⟨w.heap.size, 0, none⟩) 8 8) (w.alloc (.cells (z8 0 n) 5)) :=
    (z8_zero n) ▸ run_make_row' (P := Tryz.prog) 113 5 (.int .u8 0) 1 Tryz.underlying113 info_by rfl .i64 .i64 8 (by omega) (by omega) w
  have HN := Lib.hid hn
  clear hn
  go_enter Tryz.func105, Tryz.ntmps105
  go_wp2
  go_loopw [0, 4] (fun v j wr => LgR w n v j wr) (fun _ j _ => 8 - (intOf j).toNat)
  case atStart => exact ⟨0, n, by omega, rfl, rfl, by simp, Cells.made _ _ _, grown_alloc _ _⟩
  case round =>
    obtain ⟨i, m, hi, rfl, rfl, hm, HC, HG⟩ := hrel
    by_cases hlt : i < 8
    · have hz := z8_at (n := n) hlt
      have c0 : wr.cell? ⟨w.heap.size, i, none⟩ = some (.int .u8 0) := by rw [HC.out.cell, hz]
      have f0 := HC.out.frozen i
      obtain ⟨b, hb⟩ : ∃ b, b = n / 256 ^ i % 256 := ⟨_, rfl⟩
      have HS := Lib.hid (z8_set (n := n) hlt hb)
      have HD := Lib.hid (div_step n i)
      have hm1 : IntKind.u8.wrap ((m : Int) % 256) = (b : Int) := by subst hb; rw [← hm]; simp [IntKind.wrap, IntKind.bits, IntKind.signed]
      have hm2 : (m : Int) % 256 = (b : Int) := by subst hb; rw [← hm]; omega
      have HM := Lib.hid hm
      clear hz hb hm
      go_wp2
      go_roundw
      case rel =>
        have hmn : m < 18446744073709551616 := by rw [HM.out]; exact Nat.lt_of_le_of_lt (Nat.div_le_self _ _) HN.out
        refine ⟨i + 1, m / 256, by omega, by go_num, ?_, by rw [HM.out, HD.out], ?_, grown_setnew HG.out (Nat.le_refl _) _ _⟩
        · congr 1
          exact u64_id _ (by omega) (by omega)
        · show Cells _ _ _ _
          rw [← HS.out]
          exact HC.out.set i _
      case measure => simp [intOf]; omega
    · have hx : i = 8 := by omega
      have HX := Lib.hid hx
      have hcv : (convert 113 9 (.slice (some ⟨w.heap.size, 0, none⟩) 8 8)).run Tryz.prog wr = .ok (.string (str (le 8 n))) wr := by
        have hl := le_length 8 n
        have := run_convert_bytes_back (P := Tryz.prog) wr 113 9 5 ⟨w.heap.size, 0, none⟩ 8 (le 8 n) Tryz.underlying113 Tryz.underlying5 Tryz.underlying9 (fun j hj => by
          have e : (⟨w.heap.size, 0, none⟩ : Addr).add j = ⟨w.heap.size, j, none⟩ := by unfold Addr.add; split <;> simp_all
          rw [e, HC.out.cell j, hx]
          simp [z8, bvs, bv, List.getElem?_eq_getElem hj])
        rwa [hl] at this
      clear hx
      go_wp2
      go_ret
      exact ⟨rfl, below_of_grown HG.out⟩
theorem un_back {l : List UInt8} {a j : Nat} (h : a + 8 ≤ l.length) (hj : j < 8) : un ((l.drop (a + (8 - (j + 1)))).take (j + 1)) = (l[a + (8 - (j + 1))]'(by omega)).toNat + 256 * un ((l.drop (a + (8 - j))).take j) := by
  rw [List.drop_eq_getElem_cons (by omega : a + (8 - (j + 1)) < l.length), List.take_succ_cons, un, show a + (8 - (j + 1)) + 1 = a + (8 - j) by omega]
theorem un_small {l : List UInt8} (a j : Nat) : un ((l.drop a).take j) < 256 ^ j := by
  refine Nat.lt_of_lt_of_le (un_lt _) (Nat.pow_le_pow_right (by omega) ?_)
  rw [List.length_take]; omega
def NuR (l : List UInt8) (a : Nat) (v i : Value) : Prop := ∃ j n : Nat, j ≤ 8 ∧ i = .int .i64 (7 - (j : Int)) ∧ v = .int .u64 (n : Int) ∧ n = un ((l.drop (a + (8 - j))).take j)
theorem number_c (l : List UInt8) (a : Nat) (w : World) (ha : a ≤ 1099511627776) (hl : l.length ≤ 1099511627776) :
    Calls Tryz.prog 77 #[.string (str l), .int .i64 (a : Int)] w fun E w' => E = .returned (.int .u64 ((nbAt l a : Nat) : Int)) ∧ w = w' := by
  by_cases h : a + 8 ≤ l.length
  · have hng : ¬ (l.length : Int) < (a : Int) + 8 := by omega
    have hs := str_size l
    have HB := Lib.hid (fun j hj => un_back (l := l) (a := a) (j := j) h hj)
    have HLT := Lib.hid (fun j => un_small (l := l) (a + (8 - j)) j)
    have HE : Hid (un ((l.drop (a + (8 - 8))).take 8) = nbAt l a) := by show _ = _; unfold nbAt; rw [if_pos h]; rfl
    go_enter Tryz.func77, Tryz.ntmps77
    go_wp2
    go_loop [5, 6] (fun v i => NuR l a v i) (fun _ i => (intOf i + 1).toNat)
    case atStart => exact ⟨0, 0, by omega, rfl, rfl, rfl⟩
    case round =>
      obtain ⟨j, n, hj, rfl, rfl, hn⟩ := hrel
      by_cases hlt : j < 8
      · have HN := Lib.hid hn
        have hlt2 := HLT.out j
        rw [← hn] at hlt2
        have hp : 256 ^ j ≤ 256 ^ 7 := Nat.pow_le_pow_right (by omega) (by omega)
        have hp7 : (256 : Nat) ^ 7 = 72057594037927936 := by decide
        have hn7 : n < 72057594037927936 := by omega
        have hB := HB.out j hlt
        rw [← hn] at hB
        have HBB := Lib.hid hB
        clear hn hB hlt2 hp hp7
        go_wp2
        go_round
        case rel =>
          have hb := (l[a + (8 - (j + 1))]'(by omega)).toNat_lt
          refine ⟨j + 1, _, by omega, by go_num, ?_, HBB.out.symm⟩
          have e : (str l)[a + (7 - j)]'(by rw [hs]; omega) = l[a + (8 - (j + 1))]'(by omega) := by
            show l[a + (7 - j)]'_ = _
            congr 1
            omega
          rw [e]
          generalize (l[a + (8 - (j + 1))]'(by omega)).toNat = b at *
          congr 1
          simp only [IntKind.wrap, IntKind.bits, IntKind.signed]
          simp
          omega
        case measure => simp [intOf]; omega
      · have hx : j = 8 := by omega
        subst hx
        rw [HE.out] at hn
        subst hn
        go_wp2
        go_ret
        exact ⟨rfl, rfl⟩
  · have hs := str_size l
    have hng : (l.length : Int) < (a : Int) + 8 := by omega
    have hz : nbAt l a = 0 := if_neg h
    rw [hz]
    go_enter Tryz.func77, Tryz.ntmps77
    go_wp2_with fail
    go_ret
    exact ⟨rfl, rfl⟩
theorem small_c (l : List UInt8) (a : Nat) (w : World) (ha : a ≤ 1099511627776) (hl : l.length ≤ 1099511627776) :
    Calls Tryz.prog 78 #[.string (str l), .int .i64 (a : Int)] w fun E w' => E = .returned (.int .i64 ((smAt l a : Nat) : Int)) ∧ w = w' := by
  have hs := str_size l
  by_cases h : a < l.length
  · have hng : ¬ (l.length : Int) ≤ (a : Int) := by omega
    have hz : Hid (smAt l a = (l[a]'h).toNat) := dif_pos h
    have hg : (str l)[a]'(by rw [hs]; exact h) = l[a]'h := rfl
    have hb := (l[a]'h).toNat_lt
    generalize l[a]'h = b at *
    go_enter Tryz.func78, Tryz.ntmps78
    go_wp2_with fail
    go_ret
    refine ⟨?_, rfl⟩
    rw [hz.out, ← hg]
    rfl
  · have hng : (l.length : Int) ≤ (a : Int) := by omega
    have hz : smAt l a = 0 := dif_neg h
    rw [hz]
    go_enter Tryz.func78, Tryz.ntmps78
    go_wp2_with fail
    go_ret
    exact ⟨rfl, rfl⟩
end Go.Proofs.YtakejacamkdncaaGreatDoor
