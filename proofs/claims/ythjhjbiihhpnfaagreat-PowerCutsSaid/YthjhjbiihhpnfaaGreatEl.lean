/- The document's methods on no disk (nil); their, on nil. -/
import Derived.Test.YthjhjbiihhpnfaaGreatEk
namespace Go.Proofs.YthjhjbiihhpnfaaGreat
open Go.RowKit Go.Shelf
set_option linter.unusedVariables false
set_option linter.unusedSimpArgs false
set_option maxRecDepth 100000

theorem look_nil (n : List UInt8) (w : World) : Calls Tryz.prog 65 #[.pointer none, .string (str n)] w fun R w' => R = .returned (.tuple #[.int .i64 0, .int .i64 1]) ∧ w = w' := by
  go_enter Tryz.func65, Tryz.ntmps65
  go_wp2
  go_ret2
  exact ⟨rfl, rfl⟩
theorem rcreate_nil (n : List UInt8) (w : World) : Calls Tryz.prog 47 #[.pointer none, .string (str n)] w fun R w' => R = .returned (.int .i64 1) ∧ w = w' := by
  go_enter Tryz.func47, Tryz.ntmps47
  go_wp2
  go_ret
  exact ⟨rfl, rfl⟩
theorem rrename_nil (n b : List UInt8) (w : World) : Calls Tryz.prog 50 #[.pointer none, .string (str n), .string (str b)] w fun R w' => R = .returned (.int .i64 1) ∧ w = w' := by
  go_enter Tryz.func50, Tryz.ntmps50
  go_wp2
  go_ret
  exact ⟨rfl, rfl⟩
theorem rused_nil (w : World) : Calls Tryz.prog 38 #[.pointer none] w fun R w' => R = .returned (.int .i64 0) ∧ w = w' := by
  go_enter Tryz.func38, Tryz.ntmps38
  go_wp2
  go_ret
  exact ⟨rfl, rfl⟩
theorem rlist_nil (w : World) : Calls Tryz.prog 36 #[.pointer none] w fun R w' => R = .returned (.slice none 0 0) ∧ w = w' := by
  go_enter Tryz.func36, Tryz.ntmps36
  go_wp2
  go_ret
  exact ⟨rfl, rfl⟩
theorem rcrash_nil (ko : Option Addr) (kl kc : Nat) (w : World) : Calls Tryz.prog 60 #[.pointer none, .slice ko kl kc] w fun R w' => R = .returned (.tuple #[]) ∧ w = w' := by
  go_enter Tryz.func60, Tryz.ntmps60
  go_wp2
  refine bodyPost_ret (results_none rfl _ _ _) rfl ?_
  exact ⟨rfl, rfl⟩
theorem rappend_nil (n b : List UInt8) (w : World) : Calls Tryz.prog 48 #[.pointer none, .string (str n), .string (str b)] w fun R w' => R = .returned (.int .i64 1) ∧ w = w' := by
  go_enter Tryz.func48, Tryz.ntmps48
  go_wp2_with fail
  refine (look_nil n w).mono ?_
  rintro R w1 ⟨rfl, rfl⟩
  go_wp2
  go_ret
  exact ⟨rfl, rfl⟩
theorem rsync_nil (n : List UInt8) (w : World) : Calls Tryz.prog 49 #[.pointer none, .string (str n)] w fun R w' => R = .returned (.int .i64 1) ∧ w = w' := by
  go_enter Tryz.func49, Tryz.ntmps49
  go_wp2_with fail
  refine (look_nil n w).mono ?_
  rintro R w1 ⟨rfl, rfl⟩
  go_wp2
  go_ret
  exact ⟨rfl, rfl⟩
theorem rremove_nil (n : List UInt8) (w : World) : Calls Tryz.prog 51 #[.pointer none, .string (str n)] w fun R w' => R = .returned (.int .i64 1) ∧ w = w' := by
  go_enter Tryz.func51, Tryz.ntmps51
  go_wp2_with fail
  refine (look_nil n w).mono ?_
  rintro R w1 ⟨rfl, rfl⟩
  go_wp2
  go_ret
  exact ⟨rfl, rfl⟩
theorem rread_nil (n : List UInt8) (w : World) : Calls Tryz.prog 40 #[.pointer none, .string (str n)] w fun R w' => R = .returned (.tuple #[.string (str []), .int .i64 1]) ∧ w = w' := by
  go_enter Tryz.func40, Tryz.ntmps40
  go_wp2_with fail
  refine (look_nil n w).mono ?_
  rintro R w1 ⟨rfl, rfl⟩
  go_wp2
  go_ret2
  exact ⟨rfl, rfl⟩
theorem rsynced_nil (n : List UInt8) (w : World) : Calls Tryz.prog 42 #[.pointer none, .string (str n)] w fun R w' => R = .returned (.int .i64 0) ∧ w = w' := by
  go_enter Tryz.func42, Tryz.ntmps42
  go_wp2_with fail
  refine (look_nil n w).mono ?_
  rintro R w1 ⟨rfl, rfl⟩
  go_wp2
  go_ret
  exact ⟨rfl, rfl⟩
end Go.Proofs.YthjhjbiihhpnfaaGreat
