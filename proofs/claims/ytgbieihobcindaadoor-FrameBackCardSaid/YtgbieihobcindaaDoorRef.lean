/- The document's answer for layer 3: steps bit by bit, sums, what joining makes: one contract each. -/
import Derived.Test.YtgbieihobcindaaDoorStep
import Derived.Deep.OwnRows
namespace Go.Proofs.YtgbieihobcindaaDoor
open Go.RowKit
set_option linter.unusedVariables false

theorem refStep (c b : Nat) (w : World) (hc : c < 4294967296) (hb : b < 2) :
    Calls Tryd.prog 38 #[.int .u32 c, .int .u32 b] w fun E w' => E = .returned (.int .u32 ((st c b : Nat) : Int)) ∧ w = w' := by
  have hand : bits .and .u32 (c : Int) 1 = ((c % 2 : Nat) : Int) := by
    have := u32_and_nat c 1 hc (by omega)
    rw [nat_mask1] at this
    exact this
  have hxor : bits .xor .u32 ((c : Int) / 2) 3988292384 = ((c / 2 ^^^ pol : Nat) : Int) := u32_xor_nat (c / 2) pol (by omega) (by decide)
  by_cases h : c % 2 = b
  · have HS : Hid (st c b = c / 2) := by show _ = _; unfold st; rw [if_pos (by omega)]
    have ht : decide ((c : Int) % 2 = b) = true := by simp; omega
    go_enter Tryd.func38, Tryd.ntmps38
    go_wp2
    go_ret
    exact ⟨ret_u32 HS.out.symm, rfl⟩
  · have HS : Hid (st c b = c / 2 ^^^ pol) := by show _ = _; unfold st; rw [if_neg (by omega)]
    go_enter Tryd.func38, Tryd.ntmps38
    go_wp2
    go_ret
    exact ⟨ret_u32 HS.out.symm, rfl⟩
theorem bitsOf_snoc : ∀ (k n : Nat), bitsOf (k + 1) n = bitsOf k n ++ [n / 2 ^ k % 2] := fun k n => by
  rw [bitsOf_add k 1 n]; simp [bitsOf]
theorem runs_snoc (c k n : Nat) : runs c (bitsOf (k + 1) n) = st (runs c (bitsOf k n)) (n / 2 ^ k % 2) := by
  rw [bitsOf_snoc, runs_append]; rfl
/-- A round over a byte's bits, at its head. -/
def BitRel (c b : Nat) (v x i : Value) : Prop := ∃ k : Nat, k ≤ 8 ∧ i = .int .i64 k ∧ v = .int .u32 ((runs c (bitsOf k b) : Nat) : Int) ∧ x = .int .u32 ((b / 2 ^ k : Nat) : Int)
/-- A round of Update, at its head. -/
def RefRel (c : Nat) (s : List UInt8) (v i : Value) : Prop := ∃ k : Nat, k ≤ s.length ∧ i = .int .i64 k ∧ v = .int .u32 ((runs c (bitsAll (s.take k)) : Nat) : Int)
set_option maxHeartbeats 1000000 in
theorem refUpdate (c : Nat) (s : List UInt8) (w : World) (hc : c < 4294967296) (hs : s.length ≤ maxLen) :
    Calls Tryd.prog 32 #[.int .u32 c, .string (str s)] w fun E w' => E = .returned (.int .u32 ((upd c s : Nat) : Int)) ∧ w = w' := by
  have hsz := str_size s
  unfold maxLen at hs
  have hxor : bits .xor .u32 (c : Int) 4294967295 = ((c ^^^ ones : Nat) : Int) := u32_xor_nat c ones hc (by decide)
  have h0 : c ^^^ ones < 4294967296 := Nat.xor_lt_two_pow (n := 32) (by omega) (by decide)
  have HU : Hid (upd c s = runs (c ^^^ ones) (bitsAll s) ^^^ ones) := rfl
  go_enter Tryd.func32, Tryd.ntmps32
  go_wp2
  clear hxor
  generalize c ^^^ ones = d at *
  go_loop [0, 5] (fun v i => RefRel d s v i) (fun _ i => s.length - (intOf i).toNat)
  case atStart => exact ⟨0, by omega, rfl, rfl⟩
  case round =>
    obtain ⟨k, hk, rfl, rfl⟩ := hrel
    have hlt32 : runs d (bitsAll (s.take k)) < 4294967296 := runs_lt _ h0
    by_cases hlt : k < s.length
    · have HN := Lib.hid (upd_next d k s hlt)
      have hget : (str s)[k]'(by rw [hsz]; exact hlt) = s[k]'hlt := by simp [str]; rfl
      have hb8 := UInt8.toNat_lt (s[k]'hlt)
      generalize s[k]'hlt = b at *
      generalize runs d (bitsAll (s.take k)) = e at *
      go_wp2
      go_loop [0, 6, 7] (fun v x i => BitRel e b.toNat v x i) (fun _ _ i => 8 - (intOf i).toNat)
      case atStart => exact ⟨0, by omega, rfl, rfl, by simp⟩
      case round =>
        obtain ⟨j, hj, rfl, rfl, rfl⟩ := hrel
        by_cases hj8 : j < 8
        · have hr := runs_lt (bitsOf j b.toNat) hlt32
          have HS := Lib.hid (runs_snoc e j b.toNat)
          have HD : Hid (b.toNat / 2 ^ j / 2 = b.toNat / 2 ^ (j + 1)) := by show _ = _; rw [Nat.div_div_eq_div_mul, Nat.pow_succ]
          have hq : b.toNat / 2 ^ j < 4294967296 := Nat.lt_of_le_of_lt (Nat.div_le_self _ _) (by omega)
          generalize b.toNat / 2 ^ j = q at *
          generalize runs e (bitsOf j b.toNat) = f at *
          go_wp2_with fail
          refine (refStep f (q % 2) _ hr (Nat.mod_lt _ (by omega))).mono ?_
          rintro E w1 ⟨rfl, rfl⟩
          go_wp2
          go_round
          case rel => exact ⟨j + 1, by omega, by go_num, by rw [HS.out], by rw [← HD.out]; go_num⟩
          case measure => simp [intOf]; omega
        · have hj8' : j = 8 := by omega
          subst hj8'
          go_wp2
          go_round
          case rel => exact ⟨k + 1, by omega, by go_num, by rw [← HN.out]⟩
          case measure => simp [intOf]; omega
    · have hx : k = s.length := by omega
      subst hx
      rw [List.take_length] at hlt32 ⊢
      have hxor : bits .xor .u32 ((runs d (bitsAll s) : Nat) : Int) 4294967295 = ((runs d (bitsAll s) ^^^ ones : Nat) : Int) := u32_xor_nat _ ones hlt32 (by decide)
      go_wp2
      go_ret
      exact ⟨ret_u32 HU.out.symm, rfl⟩
theorem refSum (s : List UInt8) (w : World) (hs : s.length ≤ maxLen) :
    Calls Tryd.prog 25 #[.string (str s)] w fun E w' => E = .returned (.int .u32 ((upd 0 s : Nat) : Int)) ∧ w = w' := by
  go_enter Tryd.func25, Tryd.ntmps25
  go_wp2_with fail
  refine (refUpdate 0 s _ (by omega) hs).mono ?_
  rintro E w1 ⟨rfl, rfl⟩
  go_wp2
  go_ret
  exact ⟨rfl, rfl⟩
theorem info_u8 : (Tryd.prog.info? 5).map (fun i => (i.zero, i.size, i.bytes)) = some (some (.int .u8 0), 1, 1) := by kernel_rfl
/-- A new row of zeros, and the string that it reads as. -/
theorem made_zeros (w : World) (k : Nat) (K : Int) (hK : K = k) (hk : k ≤ 1048576) :
    ∃ W, (Instr.makeSlice 40 (.int .i64 K) (.int .i64 K)).run Tryd.prog w = .ok (.slice (some ⟨w.heap.size, 0, none⟩) k k) W ∧
      (convert 40 9 (.slice (some ⟨w.heap.size, 0, none⟩) k k)).run Tryd.prog W = .ok (.string (str (List.replicate k 0))) W ∧ w.grownBy W none := by
  subst hK
  refine ⟨_, run_make_row' (P := Tryd.prog) 40 5 (.int .u8 0) 1 Tryd.underlying40 info_u8 rfl .i64 .i64 k (by omega) (by omega) w, ?_, World.grownBy_alloc w _ none⟩
  have := run_convert_bytes_back (P := Tryd.prog) (w.alloc (.cells (madeCells #[.int .u8 0] k) 5)) 40 9 5 ⟨w.heap.size, 0, none⟩ k (List.replicate k 0) Tryd.underlying40 Tryd.underlying5 Tryd.underlying9 (fun j hj => by
    have hj' : j < k := by simpa using hj
    have e : (⟨w.heap.size, 0, none⟩ : Addr).add j = ⟨w.heap.size, j, none⟩ := by unfold Addr.add; split <;> simp_all
    rw [e, (Cells.made w 5 _).cell j, ← Array.getElem?_toList, toList_madeCells_one]
    simp [hj'])
  rwa [List.length_replicate] at this
theorem join_eq (a b k : Nat) : upd a (List.replicate k 0) ^^^ b ^^^ upd 0 (List.replicate k 0) = joined a b k := by
  unfold upd joined
  rw [bitsAll_zeros]
  have h := runs_xor (zeros (8 * k)) (zeros (8 * k)) (a ^^^ ones) (0 ^^^ ones) rfl
  have hz : List.zipWith (· ^^^ ·) (zeros (8 * k)) (zeros (8 * k)) = zeros (8 * k) := by
    have := zip_zeros (zeros (8 * k))
    rwa [show (zeros (8 * k)).length = 8 * k by simp [zeros]] at this
  rw [hz, Nat.zero_xor, xor_self'] at h
  rw [h]
  generalize runs (a ^^^ ones) (zeros (8 * k)) = p
  rw [Nat.zero_xor]
  generalize runs ones (zeros (8 * k)) = q
  apply Nat.eq_of_testBit_eq
  intro i
  simp only [Nat.testBit_xor]
  cases p.testBit i <;> cases q.testBit i <;> cases ones.testBit i <;> cases b.testBit i <;> rfl
end Go.Proofs.YtgbieihobcindaaDoor
