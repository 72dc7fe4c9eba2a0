/- The names of numbers, both sides'. One contract each. -/
import Derived.Test.YtggeakngmlhjpaaNb
import Derived.Deep.DeepCutAuto
namespace Go.Proofs.Ytggeakngmlhjpaa
open Go.RowKit
set_option linter.unusedVariables false
set_option linter.unusedSimpArgs false
set_option maxRecDepth 20000

theorem dig_lit {k : Nat} (hk : k < 16) : ∀ h, (({ data := #[48, 49, 50, 51, 52, 53, 54, 55, 56, 57, 97, 98, 99, 100, 101, 102] } : ByteArray))[k]'h = dig k := by
  have : ∀ i : Fin 16, (str dgs)[i.val]'(by rw [str_size]; exact i.2) = dig i.val := by decide
  exact fun h => this ⟨k, hk⟩
theorem cell_nw (w : World) (v : Value) (t : TypeId) : (w.alloc (.cells #[v] t)).cell? ⟨w.heap.size, 0, none⟩ = some v := by
  rw [(Cells.made w t #[v]).cell]; rfl
theorem conv_one (a : UInt8) (W : World) (g : Nat) (h : W.cell? ⟨g, 0, none⟩ = some (.int .u8 (a.toNat : Int))) :
    (convert 39 9 (.slice (some ⟨g, 0, none⟩) 1 1)).run Try.prog W = .ok (.string (str [a])) W := by
  refine run_convert_bytes_back W _ _ 5 _ _ [a] Try.underlying39 Try.underlying5 Try.underlying9 (fun j hj => ?_)
  have : j = 0 := by simp at hj; omega
  subst this
  have e : (⟨g, 0, none⟩ : Addr).add 0 = ⟨g, 0, none⟩ := rfl
  rw [e]; exact h
theorem conv_new (a : UInt8) (W : World) : (convert 39 9 (.slice (some ⟨W.heap.size, 0, none⟩) 1 1)).run Try.prog (W.alloc (.cells #[.int .u8 (a.toNat : Int)] 5)) = .ok (.string (str [a])) (W.alloc (.cells #[.int .u8 (a.toNat : Int)] 5)) :=
  conv_one a _ _ (cell_nw _ _ _)
/-- The document's digits: the lowest first, each ahead of those that stand. -/
theorem refHex_c (n : Nat) (w : World) (hn : n < 18446744073709551616) :
    Calls Try.prog 18 #[.int .u64 (n : Int)] w fun e w' => e = .returned (.string (str (hex n))) ∧ Below w.heap.size w w' := by
  go_enter Try.func18, Try.ntmps18
  go_wp2
  go_loopw [0, 3, 4] (fun m s i wr => ∃ k : Nat, k ≤ 16 ∧ i = .int .i64 (k : Int) ∧ m = .int .u64 ((n / 16 ^ k : Nat) : Int) ∧ s = .string (str (low k n)) ∧ Below w.heap.size w wr) (fun _ _ i _ => 16 - (intOf i).toNat)
  case atStart => exact ⟨0, Nat.zero_le _, rfl, by simp, rfl, Below.refl _ _⟩
  case round =>
    obtain ⟨k, hk, rfl, rfl, rfl, hb⟩ := hrel
    have HB := Lib.hid hb
    clear hb
    by_cases hlt : k < 16
    · have HS : Hid (str (low (k + 1) n) = str [dig (n / 16 ^ k % 16)] ++ str (low k n)) := by show _ = _; rw [str_append]; rfl
      have HD : Hid (n / 16 ^ (k + 1) = n / 16 ^ k / 16) := by show _ = _; rw [Nat.pow_succ, Nat.div_div_eq_div_mul]
      have hsz := str_size (low k n)
      rw [low_len] at hsz
      have hm : n / 16 ^ k < 18446744073709551616 := Nat.lt_of_le_of_lt (Nat.div_le_self _ _) hn
      generalize n / 16 ^ k = m at *
      generalize str (low k n) = s at *
      have hd : m % 16 < 16 := Nat.mod_lt _ (by decide)
      have hdi := dig_lit hd
      have hcv := conv_new (dig (m % 16))
      have h1 := str_size [dig (m % 16)]
      simp only [List.length_singleton] at h1
      go_wp2_with fail
      go_roundw
      case rel => exact ⟨k + 1, by omega, by go_num, by rw [HD.out]; go_num, by rw [HS.out], HB.out.alloc HB.out.size _⟩
      case measure => simp [intOf]; omega
    · obtain rfl : k = 16 := by omega
      have HX : Hid (str (low 16 n) = str (hex n)) := rfl
      generalize str (low 16 n) = s at *
      go_wp2_with fail
      go_ret
      exact ⟨by rw [← HX.out]; rfl, HB.out⟩
/-- The program's digits so far, in an array. -/
def rowA (n k : Nat) : Array Value := Array.ofFn fun i : Fin 16 => if i.val < k then .int .u8 ((dig (n / 16 ^ (15 - i.val) % 16)).toNat : Int) else .int .u8 0
theorem rowA_nil (n : Nat) : rowA n 0 = #[.int .u8 0, .int .u8 0, .int .u8 0, .int .u8 0, .int .u8 0, .int .u8 0, .int .u8 0, .int .u8 0, .int .u8 0, .int .u8 0, .int .u8 0, .int .u8 0, .int .u8 0, .int .u8 0, .int .u8 0, .int .u8 0] := by
  unfold rowA
  simp only [Nat.not_lt_zero, if_false]
  rfl
theorem rowA_at (n k i : Nat) (h : i < 16) : (rowA n k)[i]? = some (if i < k then .int .u8 ((dig (n / 16 ^ (15 - i) % 16)).toNat : Int) else .int .u8 0) := by
  unfold rowA
  rw [Array.getElem?_ofFn, dif_pos h]
theorem rowA_set {n k : Nat} (h : k < 16) : (rowA n k).setIfInBounds k (.int .u8 ((dig (n / 16 ^ (15 - k) % 16)).toNat : Int)) = rowA n (k + 1) := by
  have hs : ∀ m, (rowA n m).size = 16 := fun m => by unfold rowA; simp
  apply Array.ext
  · simp [hs]
  · intro i h1 h2
    rw [hs] at h2
    apply Option.some.inj
    rw [← Array.getElem?_eq_getElem, ← Array.getElem?_eq_getElem, rowA_at n (k + 1) i h2, Array.getElem?_setIfInBounds]
    by_cases e : k = i
    · subst e
      rw [if_pos rfl, if_pos (by rw [hs]; exact h), if_pos (by omega)]
    · rw [if_neg e, rowA_at n k i h2]
      by_cases hlt : i < k
      · rw [if_pos hlt, if_pos (by omega)]
      · rw [if_neg hlt, if_neg (by omega)]
theorem shr_says (n k : Nat) (h : k < 16) : ((n : Int) / 2 ^ (4 * (15 - k))).tmod 16 = ((n / 16 ^ (15 - k) % 16 : Nat) : Int) := by
  have e : (2 : Int) ^ (4 * (15 - k)) = ((16 ^ (15 - k) : Nat) : Int) := by
    rw [Int.pow_mul]
    simp
  rw [e]
  rfl
theorem written_c (n : Nat) (w : World) (hn : n < 18446744073709551616) :
    Calls Try.prog 17 #[.int .u64 (n : Int)] w fun e w' => e = .returned (.string (str (hex n))) ∧ Below w.heap.size w w' := by
  have HB0 := Lib.hid ((Below.refl w.heap.size w).alloc (Nat.le_refl _) (.cells (rowA n 0) 38))
  have HC0 := Lib.hid (Cells.made w 38 (rowA n 0))
  rw [rowA_nil] at HB0
  go_enter Try.func17, Try.ntmps17
  go_wp2
  go_loopw [4, 5, 6] (fun s4 s5 i wr => ∃ k : Nat, k ≤ 16 ∧ i = .int .i64 (k : Int) ∧ Cells wr w.heap.size 38 (rowA n k) ∧ Below w.heap.size w wr) (fun _ _ i _ => 16 - (intOf i).toNat)
  case atStart => exact ⟨0, Nat.zero_le _, rfl, by have := HC0.out; rw [rowA_nil] at this ⊢; exact this, HB0.out⟩
  case round =>
    obtain ⟨k, hk, rfl, hc, hb⟩ := hrel
    have HB := Lib.hid hb
    have HC := Lib.hid hc
    have HR := Lib.hid (fun h => rowA_set (n := n) (k := k) h)
    clear hb
    by_cases hlt : k < 16
    · have hi := shr_says n k hlt
      have hd : n / 16 ^ (15 - k) % 16 < 16 := Nat.mod_lt _ (by decide)
      obtain ⟨d, hdd⟩ : ∃ d, d = n / 16 ^ (15 - k) % 16 := ⟨_, rfl⟩
      rw [← hdd] at hi hd HR
      clear hdd
      have hdi := dig_lit hd
      obtain ⟨v, hv⟩ : ∃ v, wr.cell? ⟨w.heap.size, k, none⟩ = some v := ⟨_, by rw [hc.cell, rowA_at n k k hlt]⟩
      have hz := hc.frozen k
      clear hc
      go_wp2_with fail
      go_roundw
      case rel => exact ⟨k + 1, by omega, by go_num, by rw [← HR.out hlt]; exact HC.out.set k _, HB.out.setCell (Nat.le_refl _) _⟩
      case measure => simp [intOf]; omega
    · obtain rfl : k = 16 := by omega
      have hcv : (convert 39 9 (.slice (some ⟨w.heap.size, 0, none⟩) 16 16)).run Try.prog wr = .ok (.string (str (hex n))) wr := by
        have := run_convert_bytes_back (P := Try.prog) wr 39 9 5 ⟨w.heap.size, 0, none⟩ 16 (hex n) Try.underlying39 Try.underlying5 Try.underlying9 (fun j hj => ?_)
        · rwa [hex_len] at this
        · rw [hex_len] at hj
          rw [show (⟨w.heap.size, 0, none⟩ : Addr).add j = (⟨w.heap.size, j, none⟩ : Addr) from by by_cases h0 : j = 0 <;> simp [Addr.add, h0], hc.cell, rowA_at n 16 j hj, if_pos hj]
          have : (hex n)[j]'(by rw [hex_len]; exact hj) = dig (n / 16 ^ (15 - j) % 16) := low_at n 16 j _
          rw [this]
      clear hc
      obtain ⟨s, hsx⟩ : ∃ s, s = str (hex n) := ⟨_, rfl⟩
      rw [← hsx] at hcv
      have HX := Lib.hid hsx
      clear hsx
      go_wp2_with fail
      go_ret
      exact ⟨by rw [← HX.out]; rfl, HB.out⟩
theorem ret_str {a b : ByteArray} (h : a = b) : Ending.returned (.string a) = .returned (.string b) := by rw [h]
theorem seg_c (n : Nat) (w : World) (hn : n < 18446744073709551616) :
    Calls Try.prog 8 #[.int .u64 (n : Int)] w fun e w' => e = .returned (.string (str (115 :: hex n))) ∧ Below w.heap.size w w' := by
  have hsz := str_size (hex n)
  rw [hex_len] at hsz
  have HA : Hid (str [115] ++ str (hex n) = str (115 :: hex n)) := str_append _ _
  have hc := written_c n w hn
  generalize str (hex n) = s at *
  go_enter Try.func8, Try.ntmps8
  go_wp2_with fail
  refine hc.mono ?_
  rintro E w1 ⟨rfl, hb⟩
  have HB := Lib.hid hb
  clear hb
  go_wp2_with fail
  go_ret
  exact ⟨ret_str HA.out, HB.out⟩
theorem chk_c (n : Nat) (w : World) (hn : n < 18446744073709551616) :
    Calls Try.prog 10 #[.int .u64 (n : Int)] w fun e w' => e = .returned (.string (str (99 :: hex n))) ∧ Below w.heap.size w w' := by
  have hsz := str_size (hex n)
  rw [hex_len] at hsz
  have HA : Hid (str [99] ++ str (hex n) = str (99 :: hex n)) := str_append _ _
  have hc := written_c n w hn
  generalize str (hex n) = s at *
  go_enter Try.func10, Try.ntmps10
  go_wp2_with fail
  refine hc.mono ?_
  rintro E w1 ⟨rfl, hb⟩
  have HB := Lib.hid hb
  clear hb
  go_wp2_with fail
  go_ret
  exact ⟨ret_str HA.out, HB.out⟩
theorem refSeg_c (n : Nat) (w : World) (hn : n < 18446744073709551616) :
    Calls Try.prog 9 #[.int .u64 (n : Int)] w fun e w' => e = .returned (.string (str (115 :: hex n))) ∧ Below w.heap.size w w' := by
  have hsz := str_size (hex n)
  rw [hex_len] at hsz
  have HA : Hid (str [115] ++ str (hex n) = str (115 :: hex n)) := str_append _ _
  have hc := refHex_c n w hn
  generalize str (hex n) = s at *
  go_enter Try.func9, Try.ntmps9
  go_wp2_with fail
  refine hc.mono ?_
  rintro E w1 ⟨rfl, hb⟩
  have HB := Lib.hid hb
  clear hb
  go_wp2_with fail
  go_ret
  exact ⟨ret_str HA.out, HB.out⟩
theorem refChk_c (n : Nat) (w : World) (hn : n < 18446744073709551616) :
    Calls Try.prog 11 #[.int .u64 (n : Int)] w fun e w' => e = .returned (.string (str (99 :: hex n))) ∧ Below w.heap.size w w' := by
  have hsz := str_size (hex n)
  rw [hex_len] at hsz
  have HA : Hid (str [99] ++ str (hex n) = str (99 :: hex n)) := str_append _ _
  have hc := refHex_c n w hn
  generalize str (hex n) = s at *
  go_enter Try.func11, Try.ntmps11
  go_wp2_with fail
  refine hc.mono ?_
  rintro E w1 ⟨rfl, hb⟩
  have HB := Lib.hid hb
  clear hb
  go_wp2_with fail
  go_ret
  exact ⟨ret_str HA.out, HB.out⟩
theorem new_c (l : List UInt8) (w : World) (hl : l.length ≤ 9223372036854770000) :
    Calls Try.prog 12 #[.string (str l)] w fun e w' => e = .returned (.string (str (l ++ nw))) ∧ w = w' := by
  have hsz := str_size l
  have HA : Hid (str l ++ str nw = str (l ++ nw)) := str_append _ _
  have h4 : (⟨#[46, 110, 101, 119]⟩ : ByteArray).size = 4 := rfl
  have hno : ¬ (9223372036854775807 < (str l).size + 4) := by rw [hsz]; omega
  clear hsz
  generalize str l = s at *
  go_enter Try.func12, Try.ntmps12
  go_wp2_with fail
  go_ret
  exact ⟨ret_str HA.out, rfl⟩
end Go.Proofs.Ytggeakngmlhjpaa
