/- Texts of elder layers, one behind the other. -/
import Derived.Test.YtacgmadgkmcmoaaGreatDoorTk
import Derived.Test.YtacgmadgkmcmoaaGreatDoorVa
/- The functions of package digest on numbers, texts and pairs, and the document's answers: one contract each. Nothing is assumed beyond each contract's own bounds. -/
namespace Go.Proofs.YtacgmadgkmcmoaaGreatDoor
open Go.RowKit
set_option linter.unusedVariables false
set_option maxRecDepth 20000
theorem ret_u64 {a b : Int} (h : a = b) : Ending.returned (.int .u64 a) = .returned (.int .u64 b) := by rw [h]
theorem dst_says (d b : Nat) (hd : d < 18446744073709551616) (hb : b < 256) : IntKind.u64.wrap (bits .xor .u64 (d : Int) (b : Int) * 1099511628211) = ((dst d b : Nat) : Int) := by
  rw [u64_xor_nat d b hd (by omega)]
  exact (show ∀ n : Nat, IntKind.u64.wrap (n : Int) = ((n % 18446744073709551616 : Nat) : Int) from fun n => by simp [IntKind.wrap, IntKind.signed, IntKind.bits]) ((d ^^^ b) * 1099511628211)
theorem stepped_c (d b : Nat) (w : World) (hd : d < 18446744073709551616) (hb : b < 256) :
    Calls Tryz.prog 177 #[.int .u64 (d : Int), .int .u8 (b : Int)] w fun E w' => E = .returned (.int .u64 ((dst d b : Nat) : Int)) ∧ w = w' := by
  have HM := Lib.hid (dst_says d b hd hb)
  go_enter Tryz.func177, Tryz.ntmps177
  go_wp2
  go_ret
  exact ⟨ret_u64 HM.out, rfl⟩
theorem refStep_c (d b : Nat) (w : World) (hd : d < 18446744073709551616) (hb : b < 256) :
    Calls Tryz.prog 173 #[.int .u64 (d : Int), .int .u8 (b : Int)] w fun E w' => E = .returned (.int .u64 ((dst d b : Nat) : Int)) ∧ w = w' := by
  have HM := Lib.hid (dst_says d b hd hb)
  go_enter Tryz.func173, Tryz.ntmps173
  go_wp2
  go_ret
  exact ⟨ret_u64 HM.out, rfl⟩
theorem join_c (d : Nat) (l : List UInt8) (w : World) (hd : d < 18446744073709551616) (hl : l.length ≤ maxLen) :
    Calls Tryz.prog 140 #[.int .u64 (d : Int), .string (str l)] w fun E w' => E = .returned (.int .u64 ((djn d l : Nat) : Int)) ∧ w = w' := by
  have hsz := str_size l
  have hlm : l.length ≤ 9223372036854775807 := Nat.le_trans hl (by decide)
  go_enter Tryz.func140, Tryz.ntmps140
  go_wp2
  go_loop [0, 8] (fun v i => ∃ k : Nat, k ≤ l.length ∧ i = .int .i64 k ∧ v = .int .u64 ((djn d (l.take k) : Nat) : Int)) (fun _ i => l.length - (intOf i).toNat)
  case atStart => exact ⟨0, by omega, rfl, rfl⟩
  case round =>
    obtain ⟨k, hk, rfl, rfl⟩ := hrel
    have hlt64 := djn_lt (l.take k) d hd
    by_cases hlt : k < l.length
    · have HN := Lib.hid (djn_more l d k hlt)
      go_wp2_with fail
      refine (stepped_c _ (l[k]'hlt).toNat _ hlt64 (UInt8.toNat_lt _)).mono ?_
      rintro E w1 ⟨rfl, rfl⟩
      go_wp2
      go_round
      case rel => exact ⟨k + 1, by omega, by go_num, by rw [HN.out]⟩
      case measure => simp [intOf]; omega
    · obtain rfl : k = l.length := by omega
      rw [List.take_length]
      go_wp2
      go_ret
      exact ⟨rfl, rfl⟩
theorem refJoin_c (d : Nat) (l : List UInt8) (w : World) (hd : d < 18446744073709551616) (hl : l.length ≤ maxLen) :
    Calls Tryz.prog 132 #[.int .u64 (d : Int), .string (str l)] w fun E w' => E = .returned (.int .u64 ((djn d l : Nat) : Int)) ∧ w = w' := by
  have hsz := str_size l
  have hlm : l.length ≤ 9223372036854775807 := Nat.le_trans hl (by decide)
  go_enter Tryz.func132, Tryz.ntmps132
  go_wp2
  go_loop [0, 5] (fun v i => ∃ k : Nat, k ≤ l.length ∧ i = .int .i64 k ∧ v = .int .u64 ((djn d (l.take k) : Nat) : Int)) (fun _ i => l.length - (intOf i).toNat)
  case atStart => exact ⟨0, by omega, rfl, rfl⟩
  case round =>
    obtain ⟨k, hk, rfl, rfl⟩ := hrel
    have hlt64 := djn_lt (l.take k) d hd
    by_cases hlt : k < l.length
    · have HN := Lib.hid (djn_more l d k hlt)
      go_wp2_with fail
      refine (refStep_c _ (l[k]'hlt).toNat _ hlt64 (UInt8.toNat_lt _)).mono ?_
      rintro E w1 ⟨rfl, rfl⟩
      go_wp2
      go_round
      case rel => exact ⟨k + 1, by omega, by go_num, by rw [HN.out]⟩
      case measure => simp [intOf]; omega
    · obtain rfl : k = l.length := by omega
      rw [List.take_length]
      go_wp2
      go_ret
      exact ⟨rfl, rfl⟩
end Go.Proofs.YtacgmadgkmcmoaaGreatDoor
/- Pairs in a slice: read where they lie; a slice of pairs as an argument. Nothing of the program but the shapes of its types. -/
namespace Go.Proofs.YtacgmadgkmcmoaaGreatDoor
open Go.ChangeShapes Go.WideShapes Go.RowKit Go.Deep
set_option linter.unusedVariables false
set_option maxRecDepth 20000

/-- Pairs can be read at this address. -/
def Pis (w : World) (lo : Option Addr) (l : List (Nat × Nat)) : Prop :=
  ∀ k (h : k < l.length), (l[k]'h).1 < 256 ∧ (l[k]'h).2 < 256 ∧ ∃ b o, lo = some ⟨b, o, none⟩ ∧ w.cell? ⟨b, o + k * 2, none⟩ = some (.int .u8 ((l[k]'h).1 : Int)) ∧ w.cell? ⟨b, o + k * 2 + 1, none⟩ = some (.int .u8 ((l[k]'h).2 : Int))
theorem Pis.to {w w' : World} {lo : Option Addr} {l : List (Nat × Nat)} (h : Pis w lo l) (hb : Below w.heap.size w w') : Pis w' lo l := fun k hk => by
  obtain ⟨h1, h2, b, o, e, h3, h4⟩ := h k hk
  have hlt : b < w.heap.size := World.block_lt_of_cell? w _ h3
  exact ⟨h1, h2, b, o, e, (hb.cell (p := ⟨b, o + k * 2, none⟩) hlt).trans h3, (hb.cell (p := ⟨b, o + k * 2 + 1, none⟩) hlt).trans h4⟩
theorem Pis.at {w : World} {lo : Option Addr} {l : List (Nat × Nat)} (h : Pis w lo l) (k : Nat) (hk : k < l.length) : ∃ b o i j, lo = some ⟨b, o, none⟩ ∧ i < 256 ∧ j < 256 ∧ l[k]'hk = (i, j) := by
  obtain ⟨h1, h2, b, o, e, _⟩ := h k hk
  exact ⟨b, o, _, _, e, h1, h2, rfl⟩
theorem Pis.take {w : World} {lo : Option Addr} {l : List (Nat × Nat)} (h : Pis w lo l) (n : Nat) : Pis w lo (l.take n) := fun k hk => by
  have hk' : k < l.length := Nat.lt_of_lt_of_le hk (by simp; omega)
  have := h k hk'
  rw [List.getElem_take]; exact this
theorem Pis.all {w : World} {lo : Option Addr} {l : List (Nat × Nat)} (h : Pis w lo l) : ∀ p ∈ l, p.1 < 256 ∧ p.2 < 256 := fun p hp => by
  obtain ⟨k, hk, rfl⟩ := List.getElem_of_mem hp
  obtain ⟨h1, h2, _⟩ := h k hk
  exact ⟨h1, h2⟩
theorem Pis.nil (w : World) (lo : Option Addr) : Pis w lo [] := fun k h => by simp at h
section
variable {H : Type} {enc : TypeId × Value → H} {w : World} {base : Nat} {spare : Nat → Bool} {held : Bool}
end
end Go.Proofs.YtacgmadgkmcmoaaGreatDoor
/- Chains: the closure that goes on, the loop over pairs, the document's: one contract each. Nothing is assumed beyond each contract's own bounds. -/
namespace Go.Proofs.YtacgmadgkmcmoaaGreatDoor
open Go.RowKit
set_option linter.unusedVariables false
set_option linter.unusedSimpArgs false
set_option maxRecDepth 20000
attribute [local go_sem ↓] ld_u64 st_u64

end Go.Proofs.YtacgmadgkmcmoaaGreatDoor
/- The digest of a state: one contract; the statements' own works. Nothing is assumed beyond each contract's own bounds. -/
namespace Go.Proofs.YtacgmadgkmcmoaaGreatDoor
open Go.RowKit
set_option linter.unusedVariables false
set_option linter.unusedSimpArgs false
set_option maxRecDepth 20000

theorem sput_len (s : St) : (sput s).length ≤ 500 := by
  unfold sput
  split
  · rename_i hg
    have h1 := pe_len s.p
    have h2 := pe_len s.q
    have h3 := hes_len s.ss
    have h4 := vr_len s.ss.length
    have h5 := good_few hg
    simp only [ste, List.length_append, le_length, h1, h2, h3]
    omega
  · simp
theorem sput_max (s : St) : (sput s).length ≤ maxLen := Nat.le_trans (sput_len s) (by decide)
attribute [local go_sem ↓] ld_state
theorem of_c (s : St) (ao : Option Addr) (cap : Nat) (w : World) (h : Shs w ao s.ss) (hf : s.fit) (ht : BTab w) :
    Calls Tryz.prog 92 #[sv s ao cap] w fun E w' => E = .returned (.int .u64 ((djn bas (sput s) : Nat) : Int)) ∧ Below w.heap.size w w' := by
  have H0 := Lib.hid (Loc.one w 34 (stc s ao cap))
  have hP := fun W hs ht => put_c s ao cap W hs hf ht
  have hg := grown_alloc w (.cells (stc s ao cap) 34)
  have HS := Lib.hid (Shs_grown h hg (by simp))
  have HT := Lib.hid (btab_grown ht hg (by simp))
  have HL := Lib.hid (sput_max s)
  have HP := Lib.hid hP
  clear hP hg h ht hf
  go_enter Tryz.func92, Tryz.ntmps92
  go_upto_region 1 with fail
  generalize w.alloc (.cells (stc s ao cap) 34) = wa at *
  have la1 := H0.out.ldA ty_state 0 rfl 0 (vs := stc s ao cap) rfl (Nat.le_of_ble_eq_true rfl)
  go_wp2_with fail
  refine (HP.out _ HS.out HT.out).mono ?_
  rintro E w1 ⟨rfl, hb1⟩
  have H1 := Lib.hid (H0.out.grown hb1)
  clear hb1 la1
  go_wp2_with fail
  refine (join_c bas (sput s) _ (by decide) HL.out).mono ?_
  rintro E w2 ⟨rfl, rfl⟩
  go_wp2
  go_ret
  exact ⟨rfl, H1.out.be⟩
theorem btab_lo {w w' : World} (h : BTab w) (hb : Below w.heap.size w w') : BTab w' := btab_grown h (grown_of_below (r := none) hb) (by simp)
theorem fit_zero : St.zero.fit := ⟨by decide, by decide, ⟨⟨by decide, by decide⟩, ⟨by decide, by decide⟩, ⟨by decide, by decide⟩, ⟨by decide, by decide⟩, by decide, by decide, by decide⟩, ⟨⟨by decide, by decide⟩, ⟨by decide, by decide⟩, ⟨by decide, by decide⟩, ⟨by decide, by decide⟩, by decide, by decide, by decide⟩, fun x hx => by simp [St.zero] at hx, by decide, by decide⟩
end Go.Proofs.YtacgmadgkmcmoaaGreatDoor
