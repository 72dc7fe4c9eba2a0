/- The functions of package codec that read: texts, the error, the rest, a new reader; readers that are none. -/
import Derived.Test.YtbmkmmkebophpaaDoorRdC
namespace Go.Proofs.YtbmkmmkebophpaaDoor
open Go.RowKit
set_option linter.unusedVariables false

theorem rdErr (g : Nat) (l : List UInt8) (e : Int) (w : World) (h : Rd w g l e) :
    Calls Tryd.prog 48 #[.pointer (some ⟨g, 0, none⟩)] w fun E w' => E = .returned (.int .i64 e) ∧ w = w' := by
  have c1 := rd_c1 h
  go_enter Tryd.func48, Tryd.ntmps48
  go_wp2
  go_ret
  exact ⟨rfl, rfl⟩
theorem rdRest (g : Nat) (l : List UInt8) (e : Int) (w : World) (h : Rd w g l e) :
    Calls Tryd.prog 49 #[.pointer (some ⟨g, 0, none⟩)] w fun E w' => E = .returned (.string (str l)) ∧ w = w' := by
  have c0 := rd_c0 h
  go_enter Tryd.func49, Tryd.ntmps49
  go_wp2
  go_ret
  exact ⟨rfl, rfl⟩
/-- A new reader: a block of its own. -/
def RdNew (l : List UInt8) (w : World) (E : Ending) (w' : World) : Prop :=
  E = .returned (.pointer (some ⟨w.heap.size, 0, none⟩)) ∧ Rd w' w.heap.size l 0 ∧ w.grownBy w' none ∧ w'.heap.size = w.heap.size + 1
theorem rdNew (l : List UInt8) (w : World) (hl : l.length ≤ 1099511627776) :
    Calls Tryd.prog 40 #[.string (str l)] w (RdNew l w) := by
  go_enter Tryd.func40, Tryd.ntmps40
  go_wp2
  go_ret
  refine ⟨rfl, ⟨Cells.made _ _ _, fun h => absurd rfl h, hl⟩, ⟨rfl, rfl, rfl, by simp, fun k hk _ => Below.heap_alloc _ _ _ hk⟩, by simp⟩


set_option maxHeartbeats 400000 in
theorem next8_nil (w : World) :
    Calls Tryd.prog 74 #[.pointer none] w fun E w' => E = .returned (.int .u8 0) ∧ w.grownBy w' none := by
  go_enter Tryd.func74, Tryd.ntmps74
  go_wp2_with fail
  refine (width8 _).mono ?_
  rintro E w' ⟨rfl, rfl⟩
  go_wp2_with fail
  refine (take_nil 1 _).mono ?_
  rintro E w1 ⟨rfl, rfl⟩
  have hcv := Lib.run_convert_string_bytes (P := Tryd.prog) w 9 58 5 (str []) Tryd.underlying9 Tryd.underlying58 Tryd.underlying5
  rw [str_size] at hcv
  have hgr := grown_bytes w 5 (str []) none
  have hsz : (str []).size = 0 := str_size []
  go_wp2
  generalize Lib.bytesWorld w 5 (str []) = W at *
  generalize w.heap.size = B at *
  clear hcv hsz
  go_loop [3, 12] (fun n j => j = .int .i64 0 ∧ n = .int .u64 0) (fun _ j => 0)
  case atStart => exact ⟨rfl, rfl⟩
  case round =>
    obtain ⟨rfl, rfl⟩ := hrel
    go_wp2
    go_ret
    exact ⟨rfl, hgr⟩
theorem rdU8_nil' (w : World) :
    Calls Tryd.prog 63 #[.pointer none] w fun E w' => E = .returned (.int .u8 0) ∧ w.grownBy w' none := by
  go_enter Tryd.func63, Tryd.ntmps63
  go_wp2_with fail
  refine (next8_nil _).mono ?_
  rintro E w1 ⟨rfl, hw1⟩
  go_wp2
  go_ret
  exact ⟨rfl, hw1⟩

set_option maxHeartbeats 400000 in
theorem next32_nil (w : World) :
    Calls Tryd.prog 73 #[.pointer none] w fun E w' => E = .returned (.int .u32 0) ∧ w.grownBy w' none := by
  go_enter Tryd.func73, Tryd.ntmps73
  go_wp2_with fail
  refine (width32 _).mono ?_
  rintro E w' ⟨rfl, rfl⟩
  go_wp2_with fail
  refine (take_nil 4 _).mono ?_
  rintro E w1 ⟨rfl, rfl⟩
  have hcv := Lib.run_convert_string_bytes (P := Tryd.prog) w 9 58 5 (str []) Tryd.underlying9 Tryd.underlying58 Tryd.underlying5
  rw [str_size] at hcv
  have hgr := grown_bytes w 5 (str []) none
  have hsz : (str []).size = 0 := str_size []
  go_wp2
  generalize Lib.bytesWorld w 5 (str []) = W at *
  generalize w.heap.size = B at *
  clear hcv hsz
  go_loop [3, 12] (fun n j => j = .int .i64 0 ∧ n = .int .u64 0) (fun _ j => 0)
  case atStart => exact ⟨rfl, rfl⟩
  case round =>
    obtain ⟨rfl, rfl⟩ := hrel
    go_wp2
    go_ret
    exact ⟨rfl, hgr⟩
theorem rdI32_nil' (w : World) :
    Calls Tryd.prog 62 #[.pointer none] w fun E w' => E = .returned (.int .i32 0) ∧ w.grownBy w' none := by
  go_enter Tryd.func62, Tryd.ntmps62
  go_wp2_with fail
  refine (next32_nil _).mono ?_
  rintro E w1 ⟨rfl, hw1⟩
  go_wp2
  go_ret
  exact ⟨rfl, hw1⟩

set_option maxHeartbeats 400000 in
theorem next64_nil (w : World) :
    Calls Tryd.prog 61 #[.pointer none] w fun E w' => E = .returned (.int .u64 0) ∧ w.grownBy w' none := by
  go_enter Tryd.func61, Tryd.ntmps61
  go_wp2_with fail
  refine (width64 _).mono ?_
  rintro E w' ⟨rfl, rfl⟩
  go_wp2_with fail
  refine (take_nil 8 _).mono ?_
  rintro E w1 ⟨rfl, rfl⟩
  have hcv := Lib.run_convert_string_bytes (P := Tryd.prog) w 9 58 5 (str []) Tryd.underlying9 Tryd.underlying58 Tryd.underlying5
  rw [str_size] at hcv
  have hgr := grown_bytes w 5 (str []) none
  have hsz : (str []).size = 0 := str_size []
  go_wp2
  generalize Lib.bytesWorld w 5 (str []) = W at *
  generalize w.heap.size = B at *
  clear hcv hsz
  go_loop [3, 12] (fun n j => j = .int .i64 0 ∧ n = .int .u64 0) (fun _ j => 0)
  case atStart => exact ⟨rfl, rfl⟩
  case round =>
    obtain ⟨rfl, rfl⟩ := hrel
    go_wp2
    go_ret
    exact ⟨rfl, hgr⟩
theorem rdU64_nil' (w : World) :
    Calls Tryd.prog 41 #[.pointer none] w fun E w' => E = .returned (.int .u64 0) ∧ w.grownBy w' none := by
  go_enter Tryd.func41, Tryd.ntmps41
  go_wp2_with fail
  refine (next64_nil _).mono ?_
  rintro E w1 ⟨rfl, hw1⟩
  go_wp2
  go_ret
  exact ⟨rfl, hw1⟩

set_option maxHeartbeats 1000000 in
set_option maxRecDepth 20000 in
theorem rdVar_nil (w : World) :
    Calls Tryd.prog 44 #[.pointer none] w fun E w' => E = .returned (.int .u64 0) ∧ w.grownBy w' none := by
  go_enter Tryd.func44, Tryd.ntmps44
  go_wp2
  go_loopw [3, 4, 5, 6, 7] (fun n _ _ _ j wr => j = .int .i64 0 ∧ n = .int .u64 0 ∧ wr = w) (fun _ _ _ _ j _ => 0)
  case atStart => exact ⟨rfl, rfl, rfl⟩
  case round =>
    obtain ⟨rfl, rfl, rfl⟩ := hrel
    have hb := bits_00
    have hv := vf_00
    go_wp2_with fail
    refine (rdU8_nil' _).mono ?_
    rintro E w1 ⟨rfl, hw1⟩
    go_wp2_with fail
    refine (varFault_c 0 0 _ (by omega) (by omega)).mono ?_
    rintro E w' ⟨rfl, rfl⟩
    go_wp2
    go_ret
    exact ⟨rfl, hw1⟩
theorem rdErr_nil (w : World) : Calls Tryd.prog 48 #[.pointer none] w fun E w' => E = .returned (.int .i64 1) ∧ w = w' := by
  go_enter Tryd.func48, Tryd.ntmps48
  go_wp2
  go_ret
  exact ⟨rfl, rfl⟩
theorem rdRest_nil (w : World) : Calls Tryd.prog 49 #[.pointer none] w fun E w' => E = .returned (.string (str [])) ∧ w = w' := by
  go_enter Tryd.func49, Tryd.ntmps49
  go_wp2
  go_ret
  exact ⟨rfl, rfl⟩
end Go.Proofs.YtbmkmmkebophpaaDoor
