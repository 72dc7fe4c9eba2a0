/- The program's steps: four bits, a byte, zeros: one contract each. -/
import Derived.Test.YtgbieihobcindaaDoorProg
import Derived.Test.YtgbieihobcindaaDoorMem
import Derived.Test.YtgbieihobcindaaDoorCrc
import Derived.Below
namespace Go.Proofs.YtgbieihobcindaaDoor
open Go.RowKit
set_option linter.unusedVariables false

/-- The table of four steps lies in the program's one listed variable. -/
def Tab (w : World) : Prop := 0 < w.heap.size ∧ ∀ i : Nat, i < 16 → w.cell? ⟨0, i, none⟩ = some (.int .u32 ((nib i : Nat) : Int))
theorem tab_below {w w' : World} (h : Tab w) (hb : Below w.heap.size w w') : Tab w' :=
  ⟨Nat.lt_of_lt_of_le h.1 hb.size, fun i hi => (hb.cell (p := ⟨0, i, none⟩) h.1).trans (h.2 i hi)⟩
theorem tab_grown {w w' : World} (h : Tab w) (hb : w.grownBy w' none) : Tab w' :=
  tab_below h ⟨hb.os, hb.tape, hb.output, hb.size, fun k hk => hb.block k hk (by simp)⟩
theorem ret_u32 {a b : Nat} (h : a = b) : Ending.returned (.int .u32 (a : Int)) = .returned (.int .u32 (b : Int)) := by rw [h]
theorem nib_lt (i : Nat) (h : i < 16) : nib i < 4294967296 := runs_lt _ (by omega)
theorem four_lt {c : Nat} (hc : c < 4294967296) : c / 16 ^^^ nib (c % 16) < 4294967296 :=
  Nat.xor_lt_two_pow (n := 32) (by omega) (nib_lt _ (Nat.mod_lt _ (by omega)))
theorem stepFour (c : Nat) (w : World) (hc : c < 4294967296) (ht : Tab w) :
    Calls Tryd.prog 45 #[.int .u32 c] w fun E w' => E = .returned (.int .u32 ((runs c (zeros 4) : Nat) : Int)) ∧ w = w' := by
  have hm : c % 16 < 16 := Nat.mod_lt _ (by omega)
  have hcell := ht.2 (c % 16) hm
  have hand : bits .and .u32 (c : Int) 15 = ((c % 16 : Nat) : Int) := by
    have := u32_and_nat c 15 hc (by omega)
    rw [nat_mask4] at this
    exact this
  have hxor : bits .xor .u32 ((c : Int) / 16) ((nib (c % 16) : Nat) : Int) = ((c / 16 ^^^ nib (c % 16) : Nat) : Int) :=
    u32_xor_nat (c / 16) (nib (c % 16)) (by omega) (nib_lt _ hm)
  have HR := Lib.hid (runs_four c)
  go_enter Tryd.func45, Tryd.ntmps45
  go_wp2
  go_ret
  exact ⟨ret_u32 HR.out.symm, rfl⟩
theorem stepByte (c b : Nat) (w : World) (hc : c < 4294967296) (hb : b < 256) (ht : Tab w) :
    Calls Tryd.prog 37 #[.int .u32 c, .int .u8 b] w fun E w' => E = .returned (.int .u32 ((runs c (bitsOf 8 b) : Nat) : Int)) ∧ w = w' := by
  have hx : c ^^^ b < 4294967296 := Nat.xor_lt_two_pow (n := 32) (by omega) (by omega)
  have hxor : bits .xor .u32 (c : Int) (b : Int) = ((c ^^^ b : Nat) : Int) := u32_xor_nat c b hc (by omega)
  have h4 : runs (c ^^^ b) (zeros 4) < 4294967296 := runs_lt _ hx
  have HR : Hid (runs c (bitsOf 8 b) = runs (runs (c ^^^ b) (zeros 4)) (zeros 4)) := by
    show _ = _
    rw [runs_bits 8 b c hb, show zeros 8 = zeros 4 ++ zeros 4 from rfl, runs_append]
  have HT := Lib.hid ht
  clear ht
  go_enter Tryd.func37, Tryd.ntmps37
  go_wp2_with fail
  refine (stepFour _ _ hx HT.out).mono ?_
  rintro E w1 ⟨rfl, rfl⟩
  go_wp2_with fail
  refine (stepFour _ _ h4 HT.out).mono ?_
  rintro E w1 ⟨rfl, rfl⟩
  go_wp2
  go_ret
  exact ⟨ret_u32 HR.out.symm, rfl⟩
/-- A round of stepZeros, at its head. -/
def ZerosRel (c n : Nat) (v i : Value) : Prop := ∃ k : Nat, k ≤ n ∧ i = .int .i64 k ∧ v = .int .u32 ((runs c (zeros (8 * k)) : Nat) : Int)
theorem zeros_add (a b : Nat) : zeros (a + b) = zeros a ++ zeros b := by simp [zeros, List.replicate_append_replicate]
theorem runs_zeros_next (c k : Nat) : runs (runs c (zeros (8 * k))) (bitsOf 8 0) = runs c (zeros (8 * (k + 1))) := by
  rw [bitsOf_zero, ← runs_append, ← zeros_add]; rfl
theorem bytes_cell (w1 W : World) (x : List UInt8) (e : TypeId) (hW : Lib.bytesWorld w1 e (str x) = W) : ∀ k (hk : k < x.length), W.cell? ⟨w1.heap.size, k, none⟩ = some (.int .u8 ((x[k]'hk).toNat : Nat)) := fun k hk => by
  rw [← hW, Lib.bytesWorld_cell _ _ _ _ (by rw [str_size]; exact hk), str_data]
  simp [List.getD_eq_getElem?_getD, hk]
theorem upd_lt (c : Nat) (s : List UInt8) (hc : c < 4294967296) : upd c s < 4294967296 :=
  Nat.xor_lt_two_pow (n := 32) (runs_lt _ (Nat.xor_lt_two_pow (n := 32) (by omega) (by decide))) (by decide)
/-- A round of Update, at its head. -/
def UpdRel (c : Nat) (s : List UInt8) (v i : Value) : Prop := ∃ k : Nat, k ≤ s.length ∧ i = .int .i64 k ∧ v = .int .u32 ((runs c (bitsAll (s.take k)) : Nat) : Int)
theorem upd_next (c k : Nat) (s : List UInt8) (h : k < s.length) : runs (runs c (bitsAll (s.take k))) (bitsOf 8 (s[k]'h).toNat) = runs c (bitsAll (s.take (k + 1))) := by
  rw [List.take_succ_eq_append_getElem h, bitsAll_append, runs_append]
  simp [bitsAll]
theorem not_u32 (x : Nat) (h : x < 4294967296) : bits .xor .u32 IntKind.u32.max (x : Int) = ((x ^^^ ones : Nat) : Int) := by
  have := u32_xor_nat 4294967295 x (by omega) h
  rw [Nat.xor_comm x ones]
  exact this
theorem update (c : Nat) (s : List UInt8) (w : World) (hc : c < 4294967296) (hs : s.length ≤ maxLen) (ht : Tab w) :
    Calls Tryd.prog 30 #[.int .u32 c, .string (str s)] w fun E w' => E = .returned (.int .u32 ((upd c s : Nat) : Int)) ∧ w.grownBy w' none := by
  have hcv := Lib.run_convert_string_bytes (P := Tryd.prog) w 9 40 5 (str s) Tryd.underlying9 Tryd.underlying40 Tryd.underlying5
  have hbc := Lib.hid (bytes_cell w _ s 5 rfl)
  have hg := Lib.hid (grown_bytes w 5 (str s) none)
  have HT := Lib.hid (tab_grown ht hg.out)
  have hsz := str_size s
  have hcap := Lib.hid hsz
  unfold maxLen at hs
  generalize Lib.bytesWorld w 5 (str s) = W at *
  generalize grownCap w (str s).size 0 5 = cap at *
  have hnot := not_u32 c hc
  have h0 : c ^^^ ones < 4294967296 := Nat.xor_lt_two_pow (n := 32) (by omega) (by decide)
  have HU : Hid (upd c s = runs (c ^^^ ones) (bitsAll s) ^^^ ones) := rfl
  go_enter Tryd.func30, Tryd.ntmps30
  go_wp2
  clear hcv hnot
  generalize c ^^^ ones = d at *
  go_loop [0, 12] (fun v i => UpdRel d s v i) (fun _ i => s.length - (intOf i).toNat)
  case atStart => exact ⟨0, by omega, rfl, rfl⟩
  case round =>
    obtain ⟨k, hk, rfl, rfl⟩ := hrel
    have hlt32 : runs d (bitsAll (s.take k)) < 4294967296 := runs_lt _ h0
    by_cases hlt : k < s.length
    · have HN := Lib.hid (upd_next d k s hlt)
      have hcell := hbc.out k hlt
      have hb8 := UInt8.toNat_lt (s[k]'hlt)
      generalize s[k]'hlt = b at *
      go_wp2_with fail
      refine (stepByte _ b.toNat _ hlt32 (by omega) HT.out).mono ?_
      rintro E w1 ⟨rfl, rfl⟩
      go_wp2
      go_round
      case rel => exact ⟨k + 1, by omega, by go_num, by rw [HN.out]⟩
      case measure => simp [intOf]; omega
    · have hx : k = s.length := by omega
      subst hx
      rw [List.take_length] at hlt32 ⊢
      have hnot := not_u32 _ hlt32
      go_wp2
      go_ret
      exact ⟨ret_u32 HU.out.symm, hg.out⟩
theorem sum (s : List UInt8) (w : World) (hs : s.length ≤ maxLen) (ht : Tab w) :
    Calls Tryd.prog 31 #[.string (str s)] w fun E w' => E = .returned (.int .u32 ((upd 0 s : Nat) : Int)) ∧ w.grownBy w' none := by
  go_enter Tryd.func31, Tryd.ntmps31
  go_wp2_with fail
  refine (update 0 s _ (by omega) hs ht).mono ?_
  rintro E w1 ⟨rfl, hg⟩
  go_wp2
  go_ret
  exact ⟨rfl, hg⟩
/-- How many bytes Join takes. -/
def clip (n : Int) : Nat := (min n 1048576).toNat
/-- What Join makes. -/
def joined (a b k : Nat) : Nat := runs a (zeros (8 * k)) ^^^ b
theorem joined_lt {a b k : Nat} (ha : a < 4294967296) (hb : b < 4294967296) : joined a b k < 4294967296 :=
  Nat.xor_lt_two_pow (n := 32) (runs_lt _ (by omega)) (by omega)
end Go.Proofs.YtgbieihobcindaaDoor
