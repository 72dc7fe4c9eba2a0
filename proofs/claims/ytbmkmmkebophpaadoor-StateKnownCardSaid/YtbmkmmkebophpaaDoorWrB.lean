/- The functions of package codec that write, at last: a number with a sign, a var, a text; the bytes; writers that are none. -/
import Derived.Test.YtbmkmmkebophpaaDoorWr
import Derived.Lib.BufferRead
namespace Go.Proofs.YtbmkmmkebophpaaDoor
open Go.RowKit
set_option linter.unusedVariables false

theorem or128 : ∀ x : Fin 256, x.val ||| 128 = x.val % 128 + 128 := by decide +kernel
theorem or_top (m : Nat) : ∃ c : Nat, bits .or .u8 ((m : Int) % 256) 128 = (c : Int) ∧ c < 256 ∧ c = m % 128 + 128 := by
  refine ⟨m % 256 ||| 128, ?_, ?_, ?_⟩
  · rw [show ((m : Int) % 256) = ((m % 256 : Nat) : Int) from rfl]
    exact u8_or_nat (m % 256) 128 (by omega) (by omega)
  · exact Nat.or_lt_two_pow (n := 8) (by omega) (by omega)
  · have := or128 ⟨m % 256, by omega⟩
    simp only at this
    omega
theorem le_one {c : Nat} (h : c < 256) : le 1 c = [UInt8.ofNat c] := by rw [le, le, Nat.mod_eq_of_lt h]
theorem row_shape {w : World} {base : Nat} {e : TypeId} {size n : Nat} {v : Value} {xs : List Value} (h : w.ownsRow base e size v n xs) : ∃ ao cap, v = .slice ao n cap := by
  rcases h.2 with ⟨rfl, rfl⟩ | ⟨g, cap, cur, rfl, _⟩
  · exact ⟨_, _, rfl⟩
  · exact ⟨_, _, rfl⟩
/-- A var of n is written up to a number m. -/
def VrAt (n : Nat) (done : List UInt8) (m : Nat) : Prop := ∃ f, f ≤ 9 ∧ m < 2 ^ (7 * f + 1) ∧ vr n = done ++ vrF f m ∧ done.length = 9 - f
theorem vrAt_start {n : Nat} (hn : n < 18446744073709551616) : VrAt n [] n := ⟨9, by omega, by simpa using hn, rfl, rfl⟩
theorem vrAt_next {n m c : Nat} {done : List UInt8} (h : VrAt n done m) (hm : 128 ≤ m) (hc : c = m % 128 + 128) : VrAt n (done ++ le 1 c) (m / 128) := by
  obtain ⟨f, hf, hlt, he, hd⟩ := h
  cases f with
  | zero => simp at hlt; omega
  | succ f =>
    refine ⟨f, by omega, ?_, ?_, ?_⟩
    · rw [show 7 * (f + 1) + 1 = (7 * f + 1) + 7 from by omega, Nat.pow_add] at hlt
      exact Nat.div_lt_of_lt_mul (by rw [Nat.mul_comm]; exact hlt)
    · rw [he, vrF, if_neg (by omega), le_one (by omega), ← hc]
      simp
    · rw [List.length_append, le_length, hd]; omega
theorem vrAt_last {n m c : Nat} {done : List UInt8} (h : VrAt n done m) (hm : m < 128) (hc : c = m) : vr n = done ++ le 1 c := by
  obtain ⟨f, hf, hlt, he, hd⟩ := h
  rw [he]
  subst hc
  rw [le_one (by omega)]
  cases f with
  | zero => simp [vrF]
  | succ f => simp [vrF, hm]
theorem vrAt_len {n m : Nat} {done : List UInt8} (h : VrAt n done m) : done.length ≤ 9 := by
  obtain ⟨f, hf, _, _, hd⟩ := h; omega
def VarPut (w : World) (g n : Nat) (bs : List UInt8) (v : Value) (wr : World) : Prop :=
  ∃ (m : Nat) (done : List UInt8), v = .int .u64 m ∧ VrAt n done m ∧ WrTo w g (bs ++ done) wr

set_option maxHeartbeats 1000000 in
set_option maxRecDepth 20000 in
theorem wrVar (g n : Nat) (bs : List UInt8) (w : World) (h : Wr w g bs) (hl : bs.length ≤ 1099511627700) (hn : n < 18446744073709551616) :
    Calls Tryd.prog 33 #[.pointer (some ⟨g, 0, none⟩), .int .u64 n] w fun E w' => E = .returned (.tuple #[]) ∧ WrTo w g (bs ++ vr n) w' := by
  have HN := Lib.hid hn
  clear hn
  go_enter Tryd.func33, Tryd.ntmps33
  go_wp2
  go_loopw [1] (fun v wr => VarPut w g n bs v wr) (fun v _ => (intOf v).toNat)
  case atStart => exact ⟨n, [], rfl, vrAt_start HN.out, by simpa using wr_to h⟩
  case round =>
    obtain ⟨m, done, rfl, hat, hto⟩ := hrel
    have hdl := vrAt_len hat
    have hln : (bs ++ done).length ≤ 1099511627776 := by rw [List.length_append]; omega
    have HLN := Lib.hid hln
    clear hln
    have hwr := hto.1
    by_cases hm : 128 ≤ m
    · obtain ⟨c, hc1, hc2, hc3⟩ := or_top m
      have HC := Lib.hid hc3
      clear hc3
      go_wp2_with fail
      refine (wrU8 g c _ _ hwr HLN.out (by omega)).mono ?_
      rintro E w1 ⟨rfl, hw1⟩
      have HW := Lib.hid (wrTo_trans hto hw1)
      clear hw1
      go_wp2
      go_roundw
      case rel => exact ⟨m / 128, done ++ le 1 c, by go_num, vrAt_next hat hm HC.out, by rw [← List.append_assoc]; exact HW.out⟩
      case measure => simp [intOf]; omega
    · obtain ⟨c, hc⟩ : ∃ c : Nat, c = m := ⟨m, rfl⟩
      go_wp2_with fail
      refine (wrU8 g m _ _ hwr HLN.out (by omega)).mono ?_
      rintro E w1 ⟨rfl, hw1⟩
      have HW := Lib.hid (wrTo_trans hto hw1)
      clear hw1 hc
      go_wp2
      go_end0
      refine ⟨rfl, ?_⟩
      rw [vrAt_last hat (by omega) rfl, ← List.append_assoc]
      exact HW.out

theorem wrI32 (g n : Nat) (z : Int) (bs : List UInt8) (w : World) (h : Wr w g bs) (hl : bs.length ≤ 1099511627776) (hn : n < 4294967296) (hz : IntKind.u32.wrap z = (n : Int)) :
    Calls Tryd.prog 58 #[.pointer (some ⟨g, 0, none⟩), .int .i32 z] w fun E w' => E = .returned (.tuple #[]) ∧ WrTo w g (bs ++ le 4 n) w' := by
  have HN := Lib.hid hn
  clear hn
  go_enter Tryd.func58, Tryd.ntmps58
  go_wp2_with fail
  refine (put32 g n bs _ h hl HN.out).mono ?_
  rintro E w' ⟨rfl, hw⟩
  go_wp2
  go_end0
  exact ⟨rfl, hw⟩

set_option maxRecDepth 100000 in
theorem wr_bytes {w : World} {g cap : Nat} {ao : Option Addr} {bs : List UInt8} (ho : w.ownsRow (g + 1) 5 1 (.slice ao bs.length cap) bs.length (bvs bs)) :
    (convert 58 9 (.slice ao bs.length cap)).run Tryd.prog w = .ok (.string (str bs)) w := by
  rcases ho.2 with ⟨he, h0⟩ | ⟨g', cap', cur, he, _, hh, _⟩
  · have : bs = [] := List.eq_nil_of_length_eq_zero h0
    subst this
    injection he with e1 e2 e3
    subst e1 e3
    exact Lib.run_convert_nil_bytes w _ _ 5 0 Tryd.underlying58 Tryd.underlying5 Tryd.underlying9
  · injection he with e1 e2 e3
    subst e1 e3
    refine run_convert_bytes_back w _ _ 5 _ _ bs Tryd.underlying58 Tryd.underlying5 Tryd.underlying9 (fun j hj => ?_)
    exact ho.cells (g := g') rfl j _ (by simp [bvs, bv, List.getElem?_eq_getElem hj])
theorem wrBytes (g : Nat) (bs : List UInt8) (w : World) (h : Wr w g bs) :
    Calls Tryd.prog 36 #[.pointer (some ⟨g, 0, none⟩)] w fun E w' => E = .returned (.string (str bs)) ∧ w = w' := by
  obtain ⟨ao, cap, hc, hown⟩ := h
  have c0 : w.cell? ⟨g, 0, none⟩ = some (.slice ao bs.length cap) := by rw [hc.cell]; rfl
  have hcv := wr_bytes hown
  go_enter Tryd.func36, Tryd.ntmps36
  go_wp2
  go_ret
  exact ⟨rfl, rfl⟩
theorem wrBytes_nil (w : World) : Calls Tryd.prog 36 #[.pointer none] w fun E w' => E = .returned (.string (str [])) ∧ w = w' := by
  go_enter Tryd.func36, Tryd.ntmps36
  go_wp2
  go_ret
  exact ⟨rfl, rfl⟩
theorem put8_nil (n : Int) (w : World) : Calls Tryd.prog 70 #[.pointer none, .int .u8 n] w fun E w' => E = .returned (.tuple #[]) ∧ w = w' := by
  go_enter Tryd.func70, Tryd.ntmps70
  go_wp2
  refine bodyPost_ret (results_none rfl _ _ _) rfl ?_
  exact ⟨rfl, rfl⟩
theorem wrU8_nil (n : Int) (w : World) : Calls Tryd.prog 59 #[.pointer none, .int .u8 n] w fun E w' => E = .returned (.tuple #[]) ∧ w = w' := by
  go_enter Tryd.func59, Tryd.ntmps59
  go_wp2_with fail
  refine (put8_nil n _).mono ?_
  rintro E w' ⟨rfl, rfl⟩
  go_wp2
  go_end0
  exact ⟨rfl, rfl⟩
end Go.Proofs.YtbmkmmkebophpaaDoor
