/- Texts of the walk. -/
import Derived.Test.YtgeaacabpnepmaaGreatDoorBg8
import Derived.Deep.Strs
import Derived.Laws.Append
import Derived.Laws.AppendOwn
import Derived.BigQuiet
import Derived.IntWalk
import Derived.Test.YtgeaacabpnepmaaGreatDoorAa8
import Derived.Lib.Bytealg
import Derived.Test.YtgeaacabpnepmaaGreatDoorRows
import Derived.WalkKit
import Derived.ProofKit
import Derived.OpenShut
import Derived.Handy
import Derived.Below
import Derived.Lib.Hide
import Derived.Lib.Strings
import Derived.Deep.DeepCutAuto
/- The statements' own small functions: records, their bytes. Conditions: the table of four steps lies in its variable. -/
namespace Go.Proofs.YtgeaacabpnepmaaGreatDoor
open Go.RowKit
set_option linter.unusedVariables false
set_option linter.unusedSimpArgs false
set_option maxRecDepth 20000

def rO (f i : Nat) : Rc := ⟨1, f, i, 0, 0, 0, 0, 0, 0⟩
def rS (f a b : Nat) : Rc := ⟨2, f, 0, a, b, 0, 0, 0, 0⟩
theorem rO_ok {f i : Nat} (hf : f < 18446744073709551616) (hi : i < 64) : (rO f i).fit ∧ mayB (rO f i) = true :=
  ⟨⟨by simp [rO], by simp [rO], hf, by show i < 256; omega, by simp [rO], by simp [rO], by simp [rO], by simp [rO], by simp [rO], by simp [rO]⟩, by simp [mayB, lowB, rO, hi]⟩
theorem rS_ok {f a b : Nat} (hf : f < 18446744073709551616) (ha : a < 64) (hb : b < 64) : (rS f a b).fit ∧ mayB (rS f a b) = true :=
  ⟨⟨by simp [rS], by simp [rS], hf, by simp [rS], by show a < 256; omega, by show b < 256; omega, by simp [rS], by simp [rS], by simp [rS], by simp [rS]⟩, by simp [mayB, lowB, rS, ha, hb]⟩
attribute [local go_sem ↓] ld_rec st_rec
theorem pA_of {r : Rc} (h : mayB r = true) : pA r = encR r ∧ pE r = 0 := ⟨if_pos h, if_pos h⟩
theorem putS_of (r : Rc) : putS (encR r) = byR r ∧ putE (encR r) = 0 := by
  have := encR_len r
  unfold putS putE
  rw [if_pos (by omega), if_pos (by omega)]
  exact ⟨rfl, rfl⟩
end Go.Proofs.YtgeaacabpnepmaaGreatDoor
/- A row of inputs of one's own that is gone along: its first one cut off, one more appended. -/
namespace Go.Proofs.YtgeaacabpnepmaaGreatDoor
open Go.RowKit
set_option linter.unusedVariables false
set_option linter.unusedSimpArgs false
set_option maxRecDepth 20000

end Go.Proofs.YtgeaacabpnepmaaGreatDoor
/- The statement SegmentOrder: the Go function returns true. Conditions: the table of four steps lies in its variable. -/
namespace Go.Proofs.YtgeaacabpnepmaaGreatDoor
open Go.RowKit
set_option linter.unusedVariables false
set_option linter.unusedSimpArgs false
set_option maxRecDepth 20000

end Go.Proofs.YtgeaacabpnepmaaGreatDoor
/- Texts of elder layers, one behind the other. -/
/- Plain words on names: hexadecimal digits, the numbers that they are, what a text names. Nothing of the program. -/
namespace Go.Proofs.YtgeaacabpnepmaaGreatDoor
open Go.RowKit
set_option linter.unusedVariables false

def dgs : List UInt8 := [48, 49, 50, 51, 52, 53, 54, 55, 56, 57, 97, 98, 99, 100, 101, 102]
def dig (k : Nat) : UInt8 := dgs.getD k 0
def udg (b : UInt8) : Int := if 48 ≤ b.toNat ∧ b.toNat ≤ 57 then (b.toNat : Int) - 48 else if 97 ≤ b.toNat ∧ b.toNat ≤ 102 then (b.toNat : Int) - 87 else -1
theorem udg_dig {k : Nat} (h : k < 16) : udg (dig k) = k := by
  have : ∀ i : Fin 16, udg (dig i.val) = i.val := by decide
  exact this ⟨k, h⟩
def low : Nat → Nat → List UInt8
  | 0, _ => []
  | k + 1, n => dig (n / 16 ^ k % 16) :: low k n
theorem low_len (k n : Nat) : (low k n).length = k := by induction k with | zero => rfl | succ k ih => simp [low, ih]
theorem low_at (n : Nat) : ∀ (k i : Nat) (h : i < (low k n).length), (low k n)[i]'h = dig (n / 16 ^ (k - 1 - i) % 16)
  | 0, i, h => by simp [low] at h
  | k + 1, 0, h => by simp [low]
  | k + 1, i + 1, h => by
    have h' : i < (low k n).length := by simpa [low] using h
    have := low_at n k i h'
    simp only [low, List.getElem_cons_succ, this]
    rw [show k + 1 - 1 - (i + 1) = k - 1 - i by omega]
def vl : List UInt8 → Nat → Nat
  | [], a => a
  | b :: l, a => vl l (16 * a + (udg b).toNat)
def hx (l : List UInt8) : Bool := l.all fun b => decide (0 ≤ udg b)
theorem low_hx (k n : Nat) : hx (low k n) = true := by
  induction k with
  | zero => rfl
  | succ k ih =>
    have h : udg (dig (n / 16 ^ k % 16)) = ((n / 16 ^ k % 16 : Nat) : Int) := udg_dig (Nat.mod_lt _ (by decide))
    simp only [low, hx, List.all_cons, h]
    rw [show (low k n).all (fun b => decide (0 ≤ udg b)) = true from ih]
    simp only [Bool.and_true, decide_eq_true_eq]
    exact Int.natCast_nonneg _
theorem vl_low (n : Nat) : ∀ k a, vl (low k n) a = 16 ^ k * a + n % 16 ^ k
  | 0, a => by simp [low, vl, Nat.mod_one]
  | k + 1, a => by
    have h : udg (dig (n / 16 ^ k % 16)) = ((n / 16 ^ k % 16 : Nat) : Int) := udg_dig (Nat.mod_lt _ (by decide))
    simp only [low, vl, h, Int.toNat_natCast]
    rw [vl_low n k, Nat.mul_add, ← Nat.mul_assoc, ← Nat.pow_succ, Nat.add_assoc]
    congr 1
    rw [Nat.pow_succ, Nat.mod_mul]
    omega
def hex (n : Nat) : List UInt8 := low 16 n
theorem hex_len (n : Nat) : (hex n).length = 16 := low_len 16 n
theorem hex_hx (n : Nat) : hx (hex n) = true := low_hx 16 n
theorem vl_hex {n : Nat} (h : n < 18446744073709551616) : vl (hex n) 0 = n := by
  have := vl_low n 16 0
  rw [Nat.mul_zero, Nat.zero_add, Nat.mod_eq_of_lt (by simpa using h)] at this
  exact this
theorem hex_inj {a b : Nat} (ha : a < 18446744073709551616) (hb : b < 18446744073709551616) (h : hex a = hex b) : a = b := by rw [← vl_hex ha, h, vl_hex hb]
/-! What is left of a text without its beginning, or its end. -/
def offS (l p : List UInt8) : List UInt8 := if p.isSuffixOf l then l.take (l.length - p.length) else l
def nw : List UInt8 := [46, 110, 101, 119]
def mani : List UInt8 := [109, 97, 110, 105, 102, 101, 115, 116]
def isNw (s : List UInt8) : Bool := nw.isSuffixOf s
def bse (s : List UInt8) : List UInt8 := offS s nw
def rdd (l : List UInt8) : Nat × Bool := if l.length = 16 ∧ hx l = true then (vl l 0, true) else (0, false)
def nmb (k : Nat) (l : List UInt8) : Nat × Nat × Bool := if (rdd l).2 then (k, (rdd l).1, true) else (0, 0, false)
def lst : List UInt8 → Nat × Nat × Bool
  | [] => (0, 0, false)
  | c :: r => if c :: r = mani then (3, 0, true) else if c = 115 then nmb 1 r else if c = 99 then nmb 2 r else (0, 0, false)
def prs (s : List UInt8) : Nat × Nat × Bool × Bool := ((lst (bse s)).1, (lst (bse s)).2.1, isNw s && (lst (bse s)).2.2, (lst (bse s)).2.2)
end Go.Proofs.YtgeaacabpnepmaaGreatDoor
/- The library's HasPrefix, HasSuffix, CutPrefix, CutSuffix, IndexByte here; a digit's number, and what sixteen digits are, both sides'. One contract each. -/
namespace Go.Proofs.YtgeaacabpnepmaaGreatDoor
open Go.RowKit
set_option linter.unusedVariables false
set_option linter.unusedSimpArgs false
set_option maxRecDepth 20000

/-! How a beginning and an end of a text are told: by a cut as long as what is asked for. -/
end Go.Proofs.YtgeaacabpnepmaaGreatDoor
/- What sixteen digits are, what a text names: both sides'. One contract each. -/
namespace Go.Proofs.YtgeaacabpnepmaaGreatDoor
open Go.RowKit
set_option linter.unusedVariables false
set_option linter.unusedSimpArgs false
set_option maxRecDepth 20000

end Go.Proofs.YtgeaacabpnepmaaGreatDoor
/- What a text names, by the document. One contract. -/
namespace Go.Proofs.YtgeaacabpnepmaaGreatDoor
open Go.RowKit
set_option linter.unusedVariables false
set_option linter.unusedSimpArgs false
set_option maxRecDepth 20000

end Go.Proofs.YtgeaacabpnepmaaGreatDoor
/- The names of numbers, both sides'. One contract each. -/
namespace Go.Proofs.YtgeaacabpnepmaaGreatDoor
open Go.RowKit
set_option linter.unusedVariables false
set_option linter.unusedSimpArgs false
set_option maxRecDepth 20000

theorem dig_lit {k : Nat} (hk : k < 16) : ∀ h, (({ data := #[48, 49, 50, 51, 52, 53, 54, 55, 56, 57, 97, 98, 99, 100, 101, 102] } : ByteArray))[k]'h = dig k := by
  have : ∀ i : Fin 16, (str dgs)[i.val]'(by rw [str_size]; exact i.2) = dig i.val := by decide
  exact fun h => this ⟨k, hk⟩
theorem cell_nw (w : World) (v : Value) (t : TypeId) : (w.alloc (.cells #[v] t)).cell? ⟨w.heap.size, 0, none⟩ = some v := by
  rw [(Cells.made w t #[v]).cell]; rfl
theorem conv_one (a : UInt8) (W : World) (g : Nat) (h : W.cell? ⟨g, 0, none⟩ = some (.int .u8 (a.toNat : Int))) :
    (convert 181 9 (.slice (some ⟨g, 0, none⟩) 1 1)).run Tryz.prog W = .ok (.string (str [a])) W := by
  refine run_convert_bytes_back W _ _ 5 _ _ [a] Tryz.underlying181 Tryz.underlying5 Tryz.underlying9 (fun j hj => ?_)
  have : j = 0 := by simp at hj; omega
  subst this
  have e : (⟨g, 0, none⟩ : Addr).add 0 = ⟨g, 0, none⟩ := rfl
  rw [e]; exact h
theorem conv_new (a : UInt8) (W : World) : (convert 181 9 (.slice (some ⟨W.heap.size, 0, none⟩) 1 1)).run Tryz.prog (W.alloc (.cells #[.int .u8 (a.toNat : Int)] 5)) = .ok (.string (str [a])) (W.alloc (.cells #[.int .u8 (a.toNat : Int)] 5)) :=
  conv_one a _ _ (cell_nw _ _ _)
theorem refHex_c (n : Nat) (w : World) (hn : n < 18446744073709551616) :
    Calls Tryz.prog 149 #[.int .u64 (n : Int)] w fun e w' => e = .returned (.string (str (hex n))) ∧ Below w.heap.size w w' := by
  go_enter Tryz.func149, Tryz.ntmps149
  go_wp2
  go_loopw [0, 3, 4] (fun m s i wr => ∃ k : Nat, k ≤ 16 ∧ i = .int .i64 (k : Int) ∧ m = .int .u64 ((n / 16 ^ k : Nat) : Int) ∧ s = .string (str (low k n)) ∧ Below w.heap.size w wr) (fun _ _ i _ => 16 - (intOf i).toNat)
  case atStart => exact ⟨0, Nat.zero_le _, rfl, by simp, rfl, Below.refl _ _⟩
  case round =>
    obtain ⟨k, hk, rfl, rfl, rfl, hb⟩ := hrel
    have HB := Lib.hid hb
    clear hb
    by_cases hlt : k < 16
    · have HS : Hid (str (low (k + 1) n) = str [dig (n / 16 ^ k % 16)] ++ str (low k n)) := by show _ = _; rw [str_append]; rfl
      have HD : Hid (n / 16 ^ (k + 1) = n / 16 ^ k / 16) := by show _ = _; rw [Nat.pow_succ, Nat.div_div_eq_div_mul]
      have hsz := str_size (low k n)
      rw [low_len] at hsz
      have hm : n / 16 ^ k < 18446744073709551616 := Nat.lt_of_le_of_lt (Nat.div_le_self _ _) hn
      generalize n / 16 ^ k = m at *
      generalize str (low k n) = s at *
      have hd : m % 16 < 16 := Nat.mod_lt _ (by decide)
      have hdi := dig_lit hd
      have hcv := conv_new (dig (m % 16))
      have h1 := str_size [dig (m % 16)]
      simp only [List.length_singleton] at h1
      go_wp2_with fail
      go_roundw
      case rel => exact ⟨k + 1, by omega, by go_num, by rw [HD.out]; go_num, by rw [HS.out], HB.out.alloc HB.out.size _⟩
      case measure => simp [intOf]; omega
    · obtain rfl : k = 16 := by omega
      have HX : Hid (str (low 16 n) = str (hex n)) := rfl
      generalize str (low 16 n) = s at *
      go_wp2_with fail
      go_ret
      exact ⟨by rw [← HX.out]; rfl, HB.out⟩
def rowA (n k : Nat) : Array Value := Array.ofFn fun i : Fin 16 => if i.val < k then .int .u8 ((dig (n / 16 ^ (15 - i.val) % 16)).toNat : Int) else .int .u8 0
theorem rowA_nil (n : Nat) : rowA n 0 = #[.int .u8 0, .int .u8 0, .int .u8 0, .int .u8 0, .int .u8 0, .int .u8 0, .int .u8 0, .int .u8 0, .int .u8 0, .int .u8 0, .int .u8 0, .int .u8 0, .int .u8 0, .int .u8 0, .int .u8 0, .int .u8 0] := by
  unfold rowA
  simp only [Nat.not_lt_zero, if_false]
  rfl
theorem rowA_at (n k i : Nat) (h : i < 16) : (rowA n k)[i]? = some (if i < k then .int .u8 ((dig (n / 16 ^ (15 - i) % 16)).toNat : Int) else .int .u8 0) := by
  unfold rowA
  rw [Array.getElem?_ofFn, dif_pos h]
theorem rowA_set {n k : Nat} (h : k < 16) : (rowA n k).setIfInBounds k (.int .u8 ((dig (n / 16 ^ (15 - k) % 16)).toNat : Int)) = rowA n (k + 1) := by
  have hs : ∀ m, (rowA n m).size = 16 := fun m => by unfold rowA; simp
  apply Array.ext
  · simp [hs]
  · intro i h1 h2
    rw [hs] at h2
    apply Option.some.inj
    rw [← Array.getElem?_eq_getElem, ← Array.getElem?_eq_getElem, rowA_at n (k + 1) i h2, Array.getElem?_setIfInBounds]
    by_cases e : k = i
    · subst e
      rw [if_pos rfl, if_pos (by rw [hs]; exact h), if_pos (by omega)]
    · rw [if_neg e, rowA_at n k i h2]
      by_cases hlt : i < k
      · rw [if_pos hlt, if_pos (by omega)]
      · rw [if_neg hlt, if_neg (by omega)]
theorem shr_says (n k : Nat) (h : k < 16) : ((n : Int) / 2 ^ (4 * (15 - k))).tmod 16 = ((n / 16 ^ (15 - k) % 16 : Nat) : Int) := by
  have e : (2 : Int) ^ (4 * (15 - k)) = ((16 ^ (15 - k) : Nat) : Int) := by
    rw [Int.pow_mul]
    simp
  rw [e]
  rfl
theorem written_c (n : Nat) (w : World) (hn : n < 18446744073709551616) :
    Calls Tryz.prog 110 #[.int .u64 (n : Int)] w fun e w' => e = .returned (.string (str (hex n))) ∧ Below w.heap.size w w' := by
  have HB0 := Lib.hid ((Below.refl w.heap.size w).alloc (Nat.le_refl _) (.cells (rowA n 0) 234))
  have HC0 := Lib.hid (Cells.made w 234 (rowA n 0))
  rw [rowA_nil] at HB0
  go_enter Tryz.func110, Tryz.ntmps110
  go_wp2
  go_loopw [4, 5, 6] (fun s4 s5 i wr => ∃ k : Nat, k ≤ 16 ∧ i = .int .i64 (k : Int) ∧ Cells wr w.heap.size 234 (rowA n k) ∧ Below w.heap.size w wr) (fun _ _ i _ => 16 - (intOf i).toNat)
  case atStart => exact ⟨0, Nat.zero_le _, rfl, by have := HC0.out; rw [rowA_nil] at this ⊢; exact this, HB0.out⟩
  case round =>
    obtain ⟨k, hk, rfl, hc, hb⟩ := hrel
    have HB := Lib.hid hb
    have HC := Lib.hid hc
    have HR := Lib.hid (fun h => rowA_set (n := n) (k := k) h)
    clear hb
    by_cases hlt : k < 16
    · have hi := shr_says n k hlt
      have hd : n / 16 ^ (15 - k) % 16 < 16 := Nat.mod_lt _ (by decide)
      obtain ⟨d, hdd⟩ : ∃ d, d = n / 16 ^ (15 - k) % 16 := ⟨_, rfl⟩
      rw [← hdd] at hi hd HR
      clear hdd
      have hdi := dig_lit hd
      obtain ⟨v, hv⟩ : ∃ v, wr.cell? ⟨w.heap.size, k, none⟩ = some v := ⟨_, by rw [hc.cell, rowA_at n k k hlt]⟩
      have hz := hc.frozen k
      clear hc
      go_wp2_with fail
      go_roundw
      case rel => exact ⟨k + 1, by omega, by go_num, by rw [← HR.out hlt]; exact HC.out.set k _, HB.out.setCell (Nat.le_refl _) _⟩
      case measure => simp [intOf]; omega
    · obtain rfl : k = 16 := by omega
      have hcv : (convert 181 9 (.slice (some ⟨w.heap.size, 0, none⟩) 16 16)).run Tryz.prog wr = .ok (.string (str (hex n))) wr := by
        have := run_convert_bytes_back (P := Tryz.prog) wr 181 9 5 ⟨w.heap.size, 0, none⟩ 16 (hex n) Tryz.underlying181 Tryz.underlying5 Tryz.underlying9 (fun j hj => ?_)
        · rwa [hex_len] at this
        · rw [hex_len] at hj
          rw [show (⟨w.heap.size, 0, none⟩ : Addr).add j = (⟨w.heap.size, j, none⟩ : Addr) from by by_cases h0 : j = 0 <;> simp [Addr.add, h0], hc.cell, rowA_at n 16 j hj, if_pos hj]
          have : (hex n)[j]'(by rw [hex_len]; exact hj) = dig (n / 16 ^ (15 - j) % 16) := low_at n 16 j _
          rw [this]
      clear hc
      obtain ⟨s, hsx⟩ : ∃ s, s = str (hex n) := ⟨_, rfl⟩
      rw [← hsx] at hcv
      have HX := Lib.hid hsx
      clear hsx
      go_wp2_with fail
      go_ret
      exact ⟨by rw [← HX.out]; rfl, HB.out⟩
theorem ret_str {a b : ByteArray} (h : a = b) : Ending.returned (.string a) = .returned (.string b) := by rw [h]
theorem seg_c (n : Nat) (w : World) (hn : n < 18446744073709551616) :
    Calls Tryz.prog 65 #[.int .u64 (n : Int)] w fun e w' => e = .returned (.string (str (115 :: hex n))) ∧ Below w.heap.size w w' := by
  have hsz := str_size (hex n)
  rw [hex_len] at hsz
  have HA : Hid (str [115] ++ str (hex n) = str (115 :: hex n)) := str_append _ _
  have hc := written_c n w hn
  generalize str (hex n) = s at *
  go_enter Tryz.func65, Tryz.ntmps65
  go_wp2_with fail
  refine hc.mono ?_
  rintro E w1 ⟨rfl, hb⟩
  have HB := Lib.hid hb
  clear hb
  go_wp2_with fail
  go_ret
  exact ⟨ret_str HA.out, HB.out⟩
theorem chk_c (n : Nat) (w : World) (hn : n < 18446744073709551616) :
    Calls Tryz.prog 173 #[.int .u64 (n : Int)] w fun e w' => e = .returned (.string (str (99 :: hex n))) ∧ Below w.heap.size w w' := by
  have hsz := str_size (hex n)
  rw [hex_len] at hsz
  have HA : Hid (str [99] ++ str (hex n) = str (99 :: hex n)) := str_append _ _
  have hc := written_c n w hn
  generalize str (hex n) = s at *
  go_enter Tryz.func173, Tryz.ntmps173
  go_wp2_with fail
  refine hc.mono ?_
  rintro E w1 ⟨rfl, hb⟩
  have HB := Lib.hid hb
  clear hb
  go_wp2_with fail
  go_ret
  exact ⟨ret_str HA.out, HB.out⟩
theorem nnew_c (l : List UInt8) (w : World) (hl : l.length ≤ 9223372036854770000) :
    Calls Tryz.prog 166 #[.string (str l)] w fun e w' => e = .returned (.string (str (l ++ nw))) ∧ w = w' := by
  have hsz := str_size l
  have HA : Hid (str l ++ str nw = str (l ++ nw)) := str_append _ _
  have h4 : (⟨#[46, 110, 101, 119]⟩ : ByteArray).size = 4 := rfl
  have hno : ¬ (9223372036854775807 < (str l).size + 4) := by rw [hsz]; omega
  clear hsz
  generalize str l = s at *
  go_enter Tryz.func166, Tryz.ntmps166
  go_wp2_with fail
  go_ret
  exact ⟨ret_str HA.out, rfl⟩
end Go.Proofs.YtgeaacabpnepmaaGreatDoor
