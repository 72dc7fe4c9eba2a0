/- The functions of package codec that read numbers, vars and texts: one contract each. -/
import Derived.Test.YtbmkmmkebophpaaDoorRd
import Derived.BigQuiet
import Derived.Deep.LoopGhost
namespace Go.Proofs.YtbmkmmkebophpaaDoor
open Go.RowKit
set_option linter.unusedVariables false

theorem rd_bytes (w1 W : World) (x : List UInt8) (e : TypeId) (hW : Lib.bytesWorld w1 e (str x) = W) : ∀ k (hk : k < x.length), W.cell? ⟨w1.heap.size, k, none⟩ = some (.int .u8 (x[k]'hk).toNat) := fun k hk => by
  rw [← hW, Lib.bytesWorld_cell _ _ _ _ (by rw [str_size]; exact hk), str_data]
  simp [List.getD, List.getElem?_eq_getElem hk]
theorem grown_any {w w' : World} {r : Option Nat} (h : w.grownBy w' none) : w.grownBy w' r := ⟨h.os, h.tape, h.output, h.size, fun k hk _ => h.block k hk (by simp)⟩
theorem rdTo_on {w w1 w2 : World} {g : Nat} {l : List UInt8} {e : Int} (h : RdTo w g l e w1) (k : w1.grownBy w2 none) : RdTo w g l e w2 :=
  ⟨⟨h.1.1.grown k (by simp), h.1.2⟩, h.2.trans (grown_any k)⟩
theorem rd_on {w1 w2 : World} {g : Nat} {l : List UInt8} {e : Int} (h : Rd w1 g l e) (k : w1.grownBy w2 none) : Rd w2 g l e := ⟨h.1.grown k (by simp), h.2⟩
theorem tk_yes {n : Nat} {l : List UInt8} (h : n ≤ l.length) : tk n l = ⟨0, l.take n, l.drop n⟩ := by unfold tk; rw [if_pos h]
theorem tk_no {n : Nat} {l : List UInt8} (h : l.length < n) : tk n l = ⟨10, [], []⟩ := by unfold tk; rw [if_neg (by omega)]
theorem tk_zero (l : List UInt8) : tk 0 l = ⟨0, [], l⟩ := by simp [tk]
theorem num_tk (n : Nat) (l : List UInt8) : num n l = ⟨(tk n l).err, un (tk n l).val, (tk n l).rest⟩ := by
  unfold num tk; split <;> simp [un]
theorem tk_val_len (n : Nat) (l : List UInt8) : (tk n l).val.length ≤ n := by
  unfold tk; split
  · simp; omega
  · simp

set_option maxHeartbeats 400000 in
theorem next8 (g : Nat) (l : List UInt8) (e : Int) (w : World) (h : Rd w g l e) :
    Calls Tryd.prog 74 #[.pointer (some ⟨g, 0, none⟩)] w fun E w' => E = .returned (.int .u8 (num 1 l).val) ∧ RdTo w g (num 1 l).rest (fin e (num 1 l).err) w' := by
  rw [num_tk 1 l]
  have h8 := tk_val_len 1 l
  go_enter Tryd.func74, Tryd.ntmps74
  go_wp2_with fail
  refine (width8 _).mono ?_
  rintro E w' ⟨rfl, rfl⟩
  go_wp2_with fail
  refine (take_c g 1 l e _ h).mono ?_
  rintro E w1 ⟨rfl, hw1⟩
  generalize hxx : (tk 1 l).val = x at *
  have HXX := Lib.hid hxx
  clear hxx
  have hcv := Lib.run_convert_string_bytes (P := Tryd.prog) w1 9 58 5 (str x) Tryd.underlying9 Tryd.underlying58 Tryd.underlying5
  rw [str_size x] at hcv
  have HC := Lib.hid (rd_bytes w1 _ x 5 rfl)
  have hgr := grown_bytes w1 5 (str x) none
  have hsz : (str x).size = x.length := str_size x
  go_wp2
  generalize Lib.bytesWorld w1 5 (str x) = W at *
  generalize w1.heap.size = B at *
  generalize grownCap w1 x.length 0 5 = cap at *
  clear hcv hsz
  go_loop [3, 12] (fun n j => ∃ k : Nat, k ≤ x.length ∧ j = .int .i64 k ∧ n = .int .u64 (un (x.take k))) (fun _ j => x.length - (intOf j).toNat)
  case atStart => exact ⟨0, Nat.zero_le _, rfl, rfl⟩
  case round =>
    obtain ⟨k, hk, rfl, rfl⟩ := hrel
    by_cases hlt : k < x.length
    · have hck := HC.out k hlt
      have HU := Lib.hid (un_step x k hlt (by omega))
      go_wp2
      go_round
      case rel => exact ⟨k + 1, by omega, by go_num, by rw [HU.out]⟩
      case measure => simp [intOf]; omega
    · have hx : k = x.length := by omega
      have hun := un_take_lt x k
      have hu2 := Nat.pow_le_pow_right (n := 256) (by omega) h8
      have hu3 : un (x.take k) < 256 := Nat.lt_of_lt_of_le hun hu2
      clear hun hu2
      have HX := Lib.hid hx
      clear hx
      go_wp2
      go_ret
      exact ⟨by rw [HXX.out, HX.out, List.take_length]; rfl, rdTo_on hw1 hgr⟩

set_option maxHeartbeats 400000 in
theorem next16 (g : Nat) (l : List UInt8) (e : Int) (w : World) (h : Rd w g l e) :
    Calls Tryd.prog 66 #[.pointer (some ⟨g, 0, none⟩)] w fun E w' => E = .returned (.int .u16 (num 2 l).val) ∧ RdTo w g (num 2 l).rest (fin e (num 2 l).err) w' := by
  rw [num_tk 2 l]
  have h8 := tk_val_len 2 l
  go_enter Tryd.func66, Tryd.ntmps66
  go_wp2_with fail
  refine (width16 _).mono ?_
  rintro E w' ⟨rfl, rfl⟩
  go_wp2_with fail
  refine (take_c g 2 l e _ h).mono ?_
  rintro E w1 ⟨rfl, hw1⟩
  generalize hxx : (tk 2 l).val = x at *
  have HXX := Lib.hid hxx
  clear hxx
  have hcv := Lib.run_convert_string_bytes (P := Tryd.prog) w1 9 58 5 (str x) Tryd.underlying9 Tryd.underlying58 Tryd.underlying5
  rw [str_size x] at hcv
  have HC := Lib.hid (rd_bytes w1 _ x 5 rfl)
  have hgr := grown_bytes w1 5 (str x) none
  have hsz : (str x).size = x.length := str_size x
  go_wp2
  generalize Lib.bytesWorld w1 5 (str x) = W at *
  generalize w1.heap.size = B at *
  generalize grownCap w1 x.length 0 5 = cap at *
  clear hcv hsz
  go_loop [3, 12] (fun n j => ∃ k : Nat, k ≤ x.length ∧ j = .int .i64 k ∧ n = .int .u64 (un (x.take k))) (fun _ j => x.length - (intOf j).toNat)
  case atStart => exact ⟨0, Nat.zero_le _, rfl, rfl⟩
  case round =>
    obtain ⟨k, hk, rfl, rfl⟩ := hrel
    by_cases hlt : k < x.length
    · have hck := HC.out k hlt
      have HU := Lib.hid (un_step x k hlt (by omega))
      go_wp2
      go_round
      case rel => exact ⟨k + 1, by omega, by go_num, by rw [HU.out]⟩
      case measure => simp [intOf]; omega
    · have hx : k = x.length := by omega
      have hun := un_take_lt x k
      have hu2 := Nat.pow_le_pow_right (n := 256) (by omega) h8
      have hu3 : un (x.take k) < 65536 := Nat.lt_of_lt_of_le hun hu2
      clear hun hu2
      have HX := Lib.hid hx
      clear hx
      go_wp2
      go_ret
      exact ⟨by rw [HXX.out, HX.out, List.take_length]; rfl, rdTo_on hw1 hgr⟩

set_option maxHeartbeats 400000 in
theorem next32 (g : Nat) (l : List UInt8) (e : Int) (w : World) (h : Rd w g l e) :
    Calls Tryd.prog 73 #[.pointer (some ⟨g, 0, none⟩)] w fun E w' => E = .returned (.int .u32 (num 4 l).val) ∧ RdTo w g (num 4 l).rest (fin e (num 4 l).err) w' := by
  rw [num_tk 4 l]
  have h8 := tk_val_len 4 l
  go_enter Tryd.func73, Tryd.ntmps73
  go_wp2_with fail
  refine (width32 _).mono ?_
  rintro E w' ⟨rfl, rfl⟩
  go_wp2_with fail
  refine (take_c g 4 l e _ h).mono ?_
  rintro E w1 ⟨rfl, hw1⟩
  generalize hxx : (tk 4 l).val = x at *
  have HXX := Lib.hid hxx
  clear hxx
  have hcv := Lib.run_convert_string_bytes (P := Tryd.prog) w1 9 58 5 (str x) Tryd.underlying9 Tryd.underlying58 Tryd.underlying5
  rw [str_size x] at hcv
  have HC := Lib.hid (rd_bytes w1 _ x 5 rfl)
  have hgr := grown_bytes w1 5 (str x) none
  have hsz : (str x).size = x.length := str_size x
  go_wp2
  generalize Lib.bytesWorld w1 5 (str x) = W at *
  generalize w1.heap.size = B at *
  generalize grownCap w1 x.length 0 5 = cap at *
  clear hcv hsz
  go_loop [3, 12] (fun n j => ∃ k : Nat, k ≤ x.length ∧ j = .int .i64 k ∧ n = .int .u64 (un (x.take k))) (fun _ j => x.length - (intOf j).toNat)
  case atStart => exact ⟨0, Nat.zero_le _, rfl, rfl⟩
  case round =>
    obtain ⟨k, hk, rfl, rfl⟩ := hrel
    by_cases hlt : k < x.length
    · have hck := HC.out k hlt
      have HU := Lib.hid (un_step x k hlt (by omega))
      go_wp2
      go_round
      case rel => exact ⟨k + 1, by omega, by go_num, by rw [HU.out]⟩
      case measure => simp [intOf]; omega
    · have hx : k = x.length := by omega
      have hun := un_take_lt x k
      have hu2 := Nat.pow_le_pow_right (n := 256) (by omega) h8
      have hu3 : un (x.take k) < 4294967296 := Nat.lt_of_lt_of_le hun hu2
      clear hun hu2
      have HX := Lib.hid hx
      clear hx
      go_wp2
      go_ret
      exact ⟨by rw [HXX.out, HX.out, List.take_length]; rfl, rdTo_on hw1 hgr⟩

set_option maxHeartbeats 400000 in
theorem next64 (g : Nat) (l : List UInt8) (e : Int) (w : World) (h : Rd w g l e) :
    Calls Tryd.prog 61 #[.pointer (some ⟨g, 0, none⟩)] w fun E w' => E = .returned (.int .u64 (num 8 l).val) ∧ RdTo w g (num 8 l).rest (fin e (num 8 l).err) w' := by
  rw [num_tk 8 l]
  have h8 := tk_val_len 8 l
  go_enter Tryd.func61, Tryd.ntmps61
  go_wp2_with fail
  refine (width64 _).mono ?_
  rintro E w' ⟨rfl, rfl⟩
  go_wp2_with fail
  refine (take_c g 8 l e _ h).mono ?_
  rintro E w1 ⟨rfl, hw1⟩
  generalize hxx : (tk 8 l).val = x at *
  have HXX := Lib.hid hxx
  clear hxx
  have hcv := Lib.run_convert_string_bytes (P := Tryd.prog) w1 9 58 5 (str x) Tryd.underlying9 Tryd.underlying58 Tryd.underlying5
  rw [str_size x] at hcv
  have HC := Lib.hid (rd_bytes w1 _ x 5 rfl)
  have hgr := grown_bytes w1 5 (str x) none
  have hsz : (str x).size = x.length := str_size x
  go_wp2
  generalize Lib.bytesWorld w1 5 (str x) = W at *
  generalize w1.heap.size = B at *
  generalize grownCap w1 x.length 0 5 = cap at *
  clear hcv hsz
  go_loop [3, 12] (fun n j => ∃ k : Nat, k ≤ x.length ∧ j = .int .i64 k ∧ n = .int .u64 (un (x.take k))) (fun _ j => x.length - (intOf j).toNat)
  case atStart => exact ⟨0, Nat.zero_le _, rfl, rfl⟩
  case round =>
    obtain ⟨k, hk, rfl, rfl⟩ := hrel
    by_cases hlt : k < x.length
    · have hck := HC.out k hlt
      have HU := Lib.hid (un_step x k hlt (by omega))
      go_wp2
      go_round
      case rel => exact ⟨k + 1, by omega, by go_num, by rw [HU.out]⟩
      case measure => simp [intOf]; omega
    · have hx : k = x.length := by omega
      have hun := un_take_lt x k
      have hu2 := Nat.pow_le_pow_right (n := 256) (by omega) h8
      have hu3 : un (x.take k) < 18446744073709551616 := Nat.lt_of_lt_of_le hun hu2
      clear hun hu2
      have HX := Lib.hid hx
      clear hx
      go_wp2
      go_ret
      exact ⟨by rw [HXX.out, HX.out, List.take_length]; rfl, rdTo_on hw1 hgr⟩
end Go.Proofs.YtbmkmmkebophpaaDoor
