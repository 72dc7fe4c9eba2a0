/- The functions of package codec that read: texts, the error, the rest, a new reader; readers that are none. -/
import Derived.Test.YtgbieihobcindaaDoorRdC
namespace Go.Proofs.YtgbieihobcindaaDoor
open Go.RowKit
set_option linter.unusedVariables false

theorem rdErr (g : Nat) (l : List UInt8) (e : Int) (w : World) (h : Rd w g l e) :
    Calls Tryd.prog 43 #[.pointer (some ⟨g, 0, none⟩)] w fun E w' => E = .returned (.int .i64 e) ∧ w = w' := by
  have c1 := rd_c1 h
  go_enter Tryd.func43, Tryd.ntmps43
  go_wp2
  go_ret
  exact ⟨rfl, rfl⟩
theorem rdRest (g : Nat) (l : List UInt8) (e : Int) (w : World) (h : Rd w g l e) :
    Calls Tryd.prog 42 #[.pointer (some ⟨g, 0, none⟩)] w fun E w' => E = .returned (.string (str l)) ∧ w = w' := by
  have c0 := rd_c0 h
  go_enter Tryd.func42, Tryd.ntmps42
  go_wp2
  go_ret
  exact ⟨rfl, rfl⟩
/-- A new reader: a block of its own. -/
def RdNew (l : List UInt8) (w : World) (E : Ending) (w' : World) : Prop :=
  E = .returned (.pointer (some ⟨w.heap.size, 0, none⟩)) ∧ Rd w' w.heap.size l 0 ∧ w.grownBy w' none ∧ w'.heap.size = w.heap.size + 1
theorem rdNew (l : List UInt8) (w : World) (hl : l.length ≤ 1099511627776) :
    Calls Tryd.prog 39 #[.string (str l)] w (RdNew l w) := by
  go_enter Tryd.func39, Tryd.ntmps39
  go_wp2
  go_ret
  refine ⟨rfl, ⟨Cells.made _ _ _, fun h => absurd rfl h, hl⟩, ⟨rfl, rfl, rfl, by simp, fun k hk _ => Below.heap_alloc _ _ _ hk⟩, by simp⟩


set_option maxHeartbeats 400000 in
theorem next32_nil (w : World) :
    Calls Tryd.prog 47 #[.pointer none] w fun E w' => E = .returned (.int .u32 0) ∧ w.grownBy w' none := by
  go_enter Tryd.func47, Tryd.ntmps47
  go_wp2_with fail
  refine (width32 _).mono ?_
  rintro E w' ⟨rfl, rfl⟩
  go_wp2_with fail
  refine (take_nil 4 _).mono ?_
  rintro E w1 ⟨rfl, rfl⟩
  have hcv := Lib.run_convert_string_bytes (P := Tryd.prog) w 9 40 5 (str []) Tryd.underlying9 Tryd.underlying40 Tryd.underlying5
  rw [str_size] at hcv
  have hgr := grown_bytes w 5 (str []) none
  have hsz : (str []).size = 0 := str_size []
  go_wp2
  generalize Lib.bytesWorld w 5 (str []) = W at *
  generalize w.heap.size = B at *
  clear hcv hsz
  go_loop [3, 12] (fun n j => j = .int .i64 0 ∧ n = .int .u64 0) (fun _ j => 0)
  case atStart => exact ⟨rfl, rfl⟩
  case round =>
    obtain ⟨rfl, rfl⟩ := hrel
    go_wp2
    go_ret
    exact ⟨rfl, hgr⟩
theorem rdErr_nil (w : World) : Calls Tryd.prog 43 #[.pointer none] w fun E w' => E = .returned (.int .i64 1) ∧ w = w' := by
  go_enter Tryd.func43, Tryd.ntmps43
  go_wp2
  go_ret
  exact ⟨rfl, rfl⟩
theorem rdRest_nil (w : World) : Calls Tryd.prog 42 #[.pointer none] w fun E w' => E = .returned (.string (str [])) ∧ w = w' := by
  go_enter Tryd.func42, Tryd.ntmps42
  go_wp2
  go_ret
  exact ⟨rfl, rfl⟩
end Go.Proofs.YtgbieihobcindaaDoor
