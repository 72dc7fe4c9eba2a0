/- Texts of the walk. -/
import Derived.Test.YtgeaacabpnepmaaGreatDoorAa9
import Derived.Lib.Bytealg
import Derived.Test.YtgeaacabpnepmaaGreatDoorRows
import Derived.WalkKit
import Derived.ProofKit
import Derived.OpenShut
import Derived.Handy
import Derived.Below
import Derived.Lib.Hide
import Derived.Lib.Strings
import Derived.Deep.DeepCutAuto
import Derived.BigQuiet
/- Texts of elder layers, one behind the other. -/
/- Plain words on names: hexadecimal digits, the numbers that they are, what a text names. Nothing of the program. -/
namespace Go.Proofs.YtgeaacabpnepmaaGreatDoor
open Go.RowKit
set_option linter.unusedVariables false

/-- The sixteen digits. -/
def dgs : List UInt8 := [48, 49, 50, 51, 52, 53, 54, 55, 56, 57, 97, 98, 99, 100, 101, 102]
def dig (k : Nat) : UInt8 := dgs.getD k 0
/-- A digit's number; below 0: it is none. -/
def udg (b : UInt8) : Int := if 48 ≤ b.toNat ∧ b.toNat ≤ 57 then (b.toNat : Int) - 48 else if 97 ≤ b.toNat ∧ b.toNat ≤ 102 then (b.toNat : Int) - 87 else -1
/-- The k lowest digits of a number. -/
def low : Nat → Nat → List UInt8
  | 0, _ => []
  | k + 1, n => dig (n / 16 ^ k % 16) :: low k n
theorem low_len (k n : Nat) : (low k n).length = k := by induction k with | zero => rfl | succ k ih => simp [low, ih]
theorem low_at (n : Nat) : ∀ (k i : Nat) (h : i < (low k n).length), (low k n)[i]'h = dig (n / 16 ^ (k - 1 - i) % 16)
  | 0, i, h => by simp [low] at h
  | k + 1, 0, h => by simp [low]
  | k + 1, i + 1, h => by
    have h' : i < (low k n).length := by simpa [low] using h
    have := low_at n k i h'
    simp only [low, List.getElem_cons_succ, this]
    rw [show k + 1 - 1 - (i + 1) = k - 1 - i by omega]
/-- The number that digits are, behind a number. -/
def vl : List UInt8 → Nat → Nat
  | [], a => a
  | b :: l, a => vl l (16 * a + (udg b).toNat)
def hx (l : List UInt8) : Bool := l.all fun b => decide (0 ≤ udg b)
/-- A number's sixteen digits. -/
def hex (n : Nat) : List UInt8 := low 16 n
theorem hex_len (n : Nat) : (hex n).length = 16 := low_len 16 n
/-! What is left of a text without its beginning, or its end. -/
def offS (l p : List UInt8) : List UInt8 := if p.isSuffixOf l then l.take (l.length - p.length) else l
/-- .new and manifest. -/
def nw : List UInt8 := [46, 110, 101, 119]
def mani : List UInt8 := [109, 97, 110, 105, 102, 101, 115, 116]
def isNw (s : List UInt8) : Bool := nw.isSuffixOf s
def bse (s : List UInt8) : List UInt8 := offS s nw
/-- What sixteen digits are: their number, and whether they are digits. -/
def rdd (l : List UInt8) : Nat × Bool := if l.length = 16 ∧ hx l = true then (vl l 0, true) else (0, false)
/-- What digits behind a letter name. -/
def nmb (k : Nat) (l : List UInt8) : Nat × Nat × Bool := if (rdd l).2 then (k, (rdd l).1, true) else (0, 0, false)
/-- What a text that is not a fresh one's names: a kind, a number, and whether it names something. -/
def lst : List UInt8 → Nat × Nat × Bool
  | [] => (0, 0, false)
  | c :: r => if c :: r = mani then (3, 0, true) else if c = 115 then nmb 1 r else if c = 99 then nmb 2 r else (0, 0, false)
/-- What a text names. -/
def prs (s : List UInt8) : Nat × Nat × Bool × Bool := ((lst (bse s)).1, (lst (bse s)).2.1, isNw s && (lst (bse s)).2.2, (lst (bse s)).2.2)
end Go.Proofs.YtgeaacabpnepmaaGreatDoor
/- The library's HasPrefix, HasSuffix, CutPrefix, CutSuffix, IndexByte here; a digit's number, and what sixteen digits are, both sides'. One contract each. -/
namespace Go.Proofs.YtgeaacabpnepmaaGreatDoor
open Go.RowKit
set_option linter.unusedVariables false
set_option linter.unusedSimpArgs false
set_option maxRecDepth 20000

/-! How a beginning and an end of a text are told: by a cut as long as what is asked for. -/
end Go.Proofs.YtgeaacabpnepmaaGreatDoor
/- What sixteen digits are, what a text names: both sides'. One contract each. -/
namespace Go.Proofs.YtgeaacabpnepmaaGreatDoor
open Go.RowKit
set_option linter.unusedVariables false
set_option linter.unusedSimpArgs false
set_option maxRecDepth 20000

end Go.Proofs.YtgeaacabpnepmaaGreatDoor
/- What a text names, by the document. One contract. -/
namespace Go.Proofs.YtgeaacabpnepmaaGreatDoor
open Go.RowKit
set_option linter.unusedVariables false
set_option linter.unusedSimpArgs false
set_option maxRecDepth 20000

end Go.Proofs.YtgeaacabpnepmaaGreatDoor
/- The names of numbers, both sides'. One contract each. -/
namespace Go.Proofs.YtgeaacabpnepmaaGreatDoor
open Go.RowKit
set_option linter.unusedVariables false
set_option linter.unusedSimpArgs false
set_option maxRecDepth 20000

theorem dig_lit {k : Nat} (hk : k < 16) : ∀ h, (({ data := #[48, 49, 50, 51, 52, 53, 54, 55, 56, 57, 97, 98, 99, 100, 101, 102] } : ByteArray))[k]'h = dig k := by
  have : ∀ i : Fin 16, (str dgs)[i.val]'(by rw [str_size]; exact i.2) = dig i.val := by decide
  exact fun h => this ⟨k, hk⟩
/-- The program's digits so far, in an array. -/
def rowA (n k : Nat) : Array Value := Array.ofFn fun i : Fin 16 => if i.val < k then .int .u8 ((dig (n / 16 ^ (15 - i.val) % 16)).toNat : Int) else .int .u8 0
theorem rowA_nil (n : Nat) : rowA n 0 = #[.int .u8 0, .int .u8 0, .int .u8 0, .int .u8 0, .int .u8 0, .int .u8 0, .int .u8 0, .int .u8 0, .int .u8 0, .int .u8 0, .int .u8 0, .int .u8 0, .int .u8 0, .int .u8 0, .int .u8 0, .int .u8 0] := by
  unfold rowA
  simp only [Nat.not_lt_zero, if_false]
  rfl
theorem rowA_at (n k i : Nat) (h : i < 16) : (rowA n k)[i]? = some (if i < k then .int .u8 ((dig (n / 16 ^ (15 - i) % 16)).toNat : Int) else .int .u8 0) := by
  unfold rowA
  rw [Array.getElem?_ofFn, dif_pos h]
theorem rowA_set {n k : Nat} (h : k < 16) : (rowA n k).setIfInBounds k (.int .u8 ((dig (n / 16 ^ (15 - k) % 16)).toNat : Int)) = rowA n (k + 1) := by
  have hs : ∀ m, (rowA n m).size = 16 := fun m => by unfold rowA; simp
  apply Array.ext
  · simp [hs]
  · intro i h1 h2
    rw [hs] at h2
    apply Option.some.inj
    rw [← Array.getElem?_eq_getElem, ← Array.getElem?_eq_getElem, rowA_at n (k + 1) i h2, Array.getElem?_setIfInBounds]
    by_cases e : k = i
    · subst e
      rw [if_pos rfl, if_pos (by rw [hs]; exact h), if_pos (by omega)]
    · rw [if_neg e, rowA_at n k i h2]
      by_cases hlt : i < k
      · rw [if_pos hlt, if_pos (by omega)]
      · rw [if_neg hlt, if_neg (by omega)]
theorem shr_says (n k : Nat) (h : k < 16) : ((n : Int) / 2 ^ (4 * (15 - k))).tmod 16 = ((n / 16 ^ (15 - k) % 16 : Nat) : Int) := by
  have e : (2 : Int) ^ (4 * (15 - k)) = ((16 ^ (15 - k) : Nat) : Int) := by
    rw [Int.pow_mul]
    simp
  rw [e]
  rfl
theorem written_c (n : Nat) (w : World) (hn : n < 18446744073709551616) :
    Calls Tryz.prog 110 #[.int .u64 (n : Int)] w fun e w' => e = .returned (.string (str (hex n))) ∧ Below w.heap.size w w' := by
  have HB0 := Lib.hid ((Below.refl w.heap.size w).alloc (Nat.le_refl _) (.cells (rowA n 0) 234))
  have HC0 := Lib.hid (Cells.made w 234 (rowA n 0))
  rw [rowA_nil] at HB0
  go_enter Tryz.func110, Tryz.ntmps110
  go_wp2
  go_loopw [4, 5, 6] (fun s4 s5 i wr => ∃ k : Nat, k ≤ 16 ∧ i = .int .i64 (k : Int) ∧ Cells wr w.heap.size 234 (rowA n k) ∧ Below w.heap.size w wr) (fun _ _ i _ => 16 - (intOf i).toNat)
  case atStart => exact ⟨0, Nat.zero_le _, rfl, by have := HC0.out; rw [rowA_nil] at this ⊢; exact this, HB0.out⟩
  case round =>
    obtain ⟨k, hk, rfl, hc, hb⟩ := hrel
    have HB := Lib.hid hb
    have HC := Lib.hid hc
    have HR := Lib.hid (fun h => rowA_set (n := n) (k := k) h)
    clear hb
    by_cases hlt : k < 16
    · have hi := shr_says n k hlt
      have hd : n / 16 ^ (15 - k) % 16 < 16 := Nat.mod_lt _ (by decide)
      obtain ⟨d, hdd⟩ : ∃ d, d = n / 16 ^ (15 - k) % 16 := ⟨_, rfl⟩
      rw [← hdd] at hi hd HR
      clear hdd
      have hdi := dig_lit hd
      obtain ⟨v, hv⟩ : ∃ v, wr.cell? ⟨w.heap.size, k, none⟩ = some v := ⟨_, by rw [hc.cell, rowA_at n k k hlt]⟩
      have hz := hc.frozen k
      clear hc
      go_wp2_with fail
      go_roundw
      case rel => exact ⟨k + 1, by omega, by go_num, by rw [← HR.out hlt]; exact HC.out.set k _, HB.out.setCell (Nat.le_refl _) _⟩
      case measure => simp [intOf]; omega
    · obtain rfl : k = 16 := by omega
      have hcv : (convert 181 9 (.slice (some ⟨w.heap.size, 0, none⟩) 16 16)).run Tryz.prog wr = .ok (.string (str (hex n))) wr := by
        have := run_convert_bytes_back (P := Tryz.prog) wr 181 9 5 ⟨w.heap.size, 0, none⟩ 16 (hex n) Tryz.underlying181 Tryz.underlying5 Tryz.underlying9 (fun j hj => ?_)
        · rwa [hex_len] at this
        · rw [hex_len] at hj
          rw [show (⟨w.heap.size, 0, none⟩ : Addr).add j = (⟨w.heap.size, j, none⟩ : Addr) from by by_cases h0 : j = 0 <;> simp [Addr.add, h0], hc.cell, rowA_at n 16 j hj, if_pos hj]
          have : (hex n)[j]'(by rw [hex_len]; exact hj) = dig (n / 16 ^ (15 - j) % 16) := low_at n 16 j _
          rw [this]
      clear hc
      obtain ⟨s, hsx⟩ : ∃ s, s = str (hex n) := ⟨_, rfl⟩
      rw [← hsx] at hcv
      have HX := Lib.hid hsx
      clear hsx
      go_wp2_with fail
      go_ret
      exact ⟨by rw [← HX.out]; rfl, HB.out⟩
theorem ret_str {a b : ByteArray} (h : a = b) : Ending.returned (.string a) = .returned (.string b) := by rw [h]
theorem seg_c (n : Nat) (w : World) (hn : n < 18446744073709551616) :
    Calls Tryz.prog 65 #[.int .u64 (n : Int)] w fun e w' => e = .returned (.string (str (115 :: hex n))) ∧ Below w.heap.size w w' := by
  have hsz := str_size (hex n)
  rw [hex_len] at hsz
  have HA : Hid (str [115] ++ str (hex n) = str (115 :: hex n)) := str_append _ _
  have hc := written_c n w hn
  generalize str (hex n) = s at *
  go_enter Tryz.func65, Tryz.ntmps65
  go_wp2_with fail
  refine hc.mono ?_
  rintro E w1 ⟨rfl, hb⟩
  have HB := Lib.hid hb
  clear hb
  go_wp2_with fail
  go_ret
  exact ⟨ret_str HA.out, HB.out⟩
theorem chk_c (n : Nat) (w : World) (hn : n < 18446744073709551616) :
    Calls Tryz.prog 173 #[.int .u64 (n : Int)] w fun e w' => e = .returned (.string (str (99 :: hex n))) ∧ Below w.heap.size w w' := by
  have hsz := str_size (hex n)
  rw [hex_len] at hsz
  have HA : Hid (str [99] ++ str (hex n) = str (99 :: hex n)) := str_append _ _
  have hc := written_c n w hn
  generalize str (hex n) = s at *
  go_enter Tryz.func173, Tryz.ntmps173
  go_wp2_with fail
  refine hc.mono ?_
  rintro E w1 ⟨rfl, hb⟩
  have HB := Lib.hid hb
  clear hb
  go_wp2_with fail
  go_ret
  exact ⟨ret_str HA.out, HB.out⟩
theorem nnew_c (l : List UInt8) (w : World) (hl : l.length ≤ 9223372036854770000) :
    Calls Tryz.prog 166 #[.string (str l)] w fun e w' => e = .returned (.string (str (l ++ nw))) ∧ w = w' := by
  have hsz := str_size l
  have HA : Hid (str l ++ str nw = str (l ++ nw)) := str_append _ _
  have h4 : (⟨#[46, 110, 101, 119]⟩ : ByteArray).size = 4 := rfl
  have hno : ¬ (9223372036854775807 < (str l).size + 4) := by rw [hsz]; omega
  clear hsz
  generalize str l = s at *
  go_enter Tryz.func166, Tryz.ntmps166
  go_wp2_with fail
  go_ret
  exact ⟨ret_str HA.out, rfl⟩
end Go.Proofs.YtgeaacabpnepmaaGreatDoor
