/- The program's history: its block of 515 cells, and its functions, one contract each. Nothing is assumed beyond each contract's own bounds. -/
import Derived.Test.YtgmbdadkahcpcaaDoorWb
import Derived.Laws.Tables
import Derived.Deep.RegionHeld3
import Derived.BigQuiet
import Derived.StillTailTactics
namespace Go.Proofs.YtgmbdadkahcpcaaDoor
open Go.RowKit
set_option linter.unusedVariables false
set_option linter.unusedSimpArgs false
set_option maxRecDepth 20000

/-- A history's cells: the ring's, then from, count and most. -/
def hcs (R : List (Nat × Nat)) (f c m : Nat) : Array Value := (prc R ++ [Value.int .u64 (f : Int), Value.int .u64 (c : Int), Value.int .u64 (m : Int)]).toArray
/-- A ring in which nothing was ever laid. -/
def R0 : List (Nat × Nat) := List.replicate 256 (0, 0)
theorem R0_len : R0.length = 256 := by simp [R0]
theorem hcs_size {R : List (Nat × Nat)} (hR : R.length = 256) (f c m : Nat) : (hcs R f c m).size = 515 := by simp [hcs, prc_len, hR]
theorem hcs_f {R : List (Nat × Nat)} (hR : R.length = 256) (f c m : Nat) : (hcs R f c m)[512]? = some (.int .u64 (f : Int)) := by simp [hcs, List.getElem?_append_right, prc_len, hR]
theorem hcs_c {R : List (Nat × Nat)} (hR : R.length = 256) (f c m : Nat) : (hcs R f c m)[513]? = some (.int .u64 (c : Int)) := by simp [hcs, List.getElem?_append_right, prc_len, hR]
theorem hcs_m {R : List (Nat × Nat)} (hR : R.length = 256) (f c m : Nat) : (hcs R f c m)[514]? = some (.int .u64 (m : Int)) := by simp [hcs, List.getElem?_append_right, prc_len, hR]
theorem hcs_setf {R : List (Nat × Nat)} (hR : R.length = 256) (f c m : Nat) (v : Nat) : ((hcs R f c m).toList.take 512 ++ [Value.int .u64 (v : Int)] ++ (hcs R f c m).toList.drop (512 + 1)).toArray = hcs R v c m := by
  simp [hcs, List.take_append, List.drop_append, prc_len, hR, List.take_of_length_le, List.drop_of_length_le]
theorem hcs_setc {R : List (Nat × Nat)} (hR : R.length = 256) (f c m : Nat) (v : Nat) : ((hcs R f c m).toList.take 513 ++ [Value.int .u64 (v : Int)] ++ (hcs R f c m).toList.drop (513 + 1)).toArray = hcs R f v m := by
  simp [hcs, List.take_append, List.drop_append, prc_len, hR, List.take_of_length_le, List.drop_of_length_le]
theorem hcs_at {R : List (Nat × Nat)} (hR : R.length = 256) (f c m : Nat) (k : Nat) (hk : k < 256) : (hcs R f c m)[k * 2]? = some (.int .u8 ((R[k]'(by omega)).1 : Int)) ∧ (hcs R f c m)[k * 2 + 1]? = some (.int .u8 ((R[k]'(by omega)).2 : Int)) := by
  have hl := prc_len R
  constructor
  · simp only [hcs, List.getElem?_toArray]
    rw [List.getElem?_append_left (by omega), prc_get, show k * 2 / 2 = k by omega, show k * 2 % 2 = 0 by omega, List.getElem?_eq_getElem (by omega)]
    rfl
  · simp only [hcs, List.getElem?_toArray]
    rw [List.getElem?_append_left (by omega), prc_get, show (k * 2 + 1) / 2 = k by omega, show (k * 2 + 1) % 2 = 1 by omega, List.getElem?_eq_getElem (by omega)]
    rfl
theorem hcs_pair {R : List (Nat × Nat)} (hR : R.length = 256) (f c m : Nat) (k : Nat) (hk : k < 256) {p q : Nat} (hp : R[k]'(by omega) = (p, q)) : (((hcs R f c m).toList.drop (k * 2)).take 2).toArray = #[Value.int .u8 (p : Int), Value.int .u8 (q : Int)] := by
  have h := hcs_at hR f c m k hk
  rw [hp] at h
  obtain ⟨h0, h1⟩ := h
  rw [← Array.getElem?_toList] at h0 h1
  obtain ⟨l0, e0⟩ := List.getElem?_eq_some_iff.1 h0
  obtain ⟨l1, e1⟩ := List.getElem?_eq_some_iff.1 h1
  rw [List.drop_eq_getElem_cons l0, List.drop_eq_getElem_cons l1, e0, e1]
  rfl
theorem hcs_setp {R : List (Nat × Nat)} (hR : R.length = 256) (f c m : Nat) (k : Nat) (hk : k < 256) (p q : Nat) : ((hcs R f c m).toList.take (k * 2) ++ (#[Value.int .u8 (p : Int), Value.int .u8 (q : Int)] : Array Value).toList ++ (hcs R f c m).toList.drop (k * 2 + 2)).toArray = hcs (R.set k (p, q)) f c m := by
  have hl := prc_len R
  have h := prc_set (xs := prc R) (l := R) (by rw [List.take_of_length_le (by omega)]) k (by omega) p q
  rw [List.take_of_length_le (by simp; omega)] at h
  have h2 : (prc R).length - k * 2 ≥ 2 := by omega
  simp only [hcs]
  rw [← h]
  simp only [List.take_append, List.drop_append, List.append_assoc]
  rw [show k * 2 - (prc R).length = 0 by omega, show k * 2 + 2 - (prc R).length = 0 by omega]
  simp
theorem ty_hist : TyA 60 515 := tya_struct Tryd.underlying60 (by kernel_rfl)
theorem made_hist (f c m : Nat) : ((Tryd.zeroCells60.setIfInBounds 512 (Value.int .u64 (f : Int))).setIfInBounds 513 (Value.int .u64 (c : Int))).setIfInBounds 514 (Value.int .u64 (m : Int)) = hcs R0 f c m := by kernel_rfl
theorem made_zero : Tryd.zeroCells60 = hcs R0 0 0 0 := by kernel_rfl
/-- The program's history in block g. -/
abbrev PHc (w : World) (g : Nat) (R : List (Nat × Nat)) (f c m : Nat) : Prop := Cells w g 60 (hcs R f c m)
theorem place_c (x : Nat) (w : World) : Calls Tryd.prog 35 #[.int .u64 (x : Int)] w fun E w' => E = .returned (.int .u64 ((x % 256 : Nat) : Int)) ∧ w = w' := by
  go_enter Tryd.func35, Tryd.ntmps35
  go_wp2
  go_ret
  exact ⟨by simp, rfl⟩
section
variable {g f c m : Nat} {R : List (Nat × Nat)} {w : World}
theorem from_c (hR : R.length = 256) (h : PHc w g R f c m) : Calls Tryd.prog 16 #[.pointer (some ⟨g, 0, none⟩)] w fun E w' => E = .returned (.int .u64 (f : Int)) ∧ w = w' := by
  have c0 : w.cell? ⟨g, 512, none⟩ = some (.int .u64 (f : Int)) := (h.cell 512).trans (hcs_f hR f c m)
  clear h
  go_enter Tryd.func16, Tryd.ntmps16
  go_wp2
  go_ret
  exact ⟨rfl, rfl⟩
theorem count_c (hR : R.length = 256) (h : PHc w g R f c m) : Calls Tryd.prog 17 #[.pointer (some ⟨g, 0, none⟩)] w fun E w' => E = .returned (.int .u64 (c : Int)) ∧ w = w' := by
  have c0 : w.cell? ⟨g, 513, none⟩ = some (.int .u64 (c : Int)) := (h.cell 513).trans (hcs_c hR f c m)
  clear h
  go_enter Tryd.func17, Tryd.ntmps17
  go_wp2
  go_ret
  exact ⟨rfl, rfl⟩
theorem countNil_c : Calls Tryd.prog 17 #[.pointer none] w fun E w' => E = .returned (.int .u64 0) ∧ w = w' := by
  go_enter Tryd.func17, Tryd.ntmps17
  go_wp2
  go_ret
  exact ⟨rfl, rfl⟩
theorem holds_c (hR : R.length = 256) (h : PHc w g R f c m) (x : Nat) : Calls Tryd.prog 36 #[.pointer (some ⟨g, 0, none⟩), .int .u64 (x : Int)] w fun E w' => E = .returned (.bool (decide (f ≤ x ∧ x < c))) ∧ w = w' := by
  have c0 : w.cell? ⟨g, 512, none⟩ = some (.int .u64 (f : Int)) := (h.cell 512).trans (hcs_f hR f c m)
  have c1 : w.cell? ⟨g, 513, none⟩ = some (.int .u64 (c : Int)) := (h.cell 513).trans (hcs_c hR f c m)
  clear h
  by_cases h1 : f ≤ x
  · by_cases h2 : x < c
    · rw [decide_eq_true (show f ≤ x ∧ x < c from ⟨h1, h2⟩)]
      have i1 : (f : Int) ≤ x := by omega
      have i2 : (x : Int) < c := by omega
      go_enter Tryd.func36, Tryd.ntmps36
      go_wp2
      go_ret
      exact ⟨rfl, rfl⟩
    · rw [decide_eq_false (show ¬ (f ≤ x ∧ x < c) from fun h => h2 h.2)]
      have i1 : (f : Int) ≤ x := by omega
      have i2 : ¬ (x : Int) < c := by omega
      go_enter Tryd.func36, Tryd.ntmps36
      go_wp2
      go_ret
      exact ⟨rfl, rfl⟩
  · rw [decide_eq_false (show ¬ (f ≤ x ∧ x < c) from fun h => h1 h.1)]
    have i1 : ¬ (f : Int) ≤ x := by omega
    go_enter Tryd.func36, Tryd.ntmps36
    go_wp2
    go_ret
    exact ⟨rfl, rfl⟩
theorem holdsNil_c (x : Nat) : Calls Tryd.prog 36 #[.pointer none, .int .u64 (x : Int)] w fun E w' => E = .returned (.bool false) ∧ w = w' := by
  go_enter Tryd.func36, Tryd.ntmps36
  go_wp2
  go_ret
  exact ⟨rfl, rfl⟩
end
theorem new_c (x : Nat) (m : Int) (w : World) (hm : 1 ≤ m ∧ m ≤ 256) : Calls Tryd.prog 13 #[.int .u64 (x : Int), .int .i64 m] w fun E w' => ∃ g R, E = .returned (.pointer (some ⟨g, 0, none⟩)) ∧ R.length = 256 ∧ w.heap.size = g ∧ g < w'.heap.size ∧ PHc w' g R x x m.toNat ∧ Below w.heap.size w w' := by
  obtain ⟨k, rfl⟩ := Int.eq_ofNat_of_zero_le (show 0 ≤ m by omega)
  obtain ⟨h1, h2⟩ := hm
  have i1 : ¬ (k : Int) < 1 := by omega
  have i2 : ¬ (256 : Int) < k := by omega
  have e1 : IntKind.u64.wrap (k : Int) = k := u64_id _ (by omega) (by omega)
  go_enter Tryd.func13, Tryd.ntmps13
  go_wp2
  go_ret
  exact ⟨_, rfl, R0, R0_len, rfl, by simp, made_hist x x k ▸ Cells.made w _ _, (Below.refl _ _).alloc (Nat.le_refl _) _⟩
theorem newNil_c (x : Nat) (m : Int) (w : World) (hm : ¬ (1 ≤ m ∧ m ≤ 256)) : Calls Tryd.prog 13 #[.int .u64 (x : Int), .int .i64 m] w fun E w' => E = .returned (.pointer none) ∧ w = w' := by
  by_cases h1 : m < 1
  · go_enter Tryd.func13, Tryd.ntmps13
    go_wp2
    go_ret
    exact ⟨rfl, rfl⟩
  · have h2 : (256 : Int) < m := by omega
    go_enter Tryd.func13, Tryd.ntmps13
    go_wp2
    go_ret
    exact ⟨rfl, rfl⟩
end Go.Proofs.YtgmbdadkahcpcaaDoor
