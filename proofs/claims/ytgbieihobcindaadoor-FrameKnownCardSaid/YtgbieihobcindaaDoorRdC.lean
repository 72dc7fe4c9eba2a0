/- The functions of package codec that read, at last: a number of each width, a var, a text; the error and the rest. -/
import Derived.Test.YtgbieihobcindaaDoorRdB
namespace Go.Proofs.YtgbieihobcindaaDoor
open Go.RowKit
set_option linter.unusedVariables false

theorem rdU16 (g : Nat) (l : List UInt8) (e : Int) (w : World) (h : Rd w g l e) :
    Calls Tryd.prog 40 #[.pointer (some ⟨g, 0, none⟩)] w fun E w' => E = .returned (.int .u16 (num 2 l).val) ∧ RdTo w g (num 2 l).rest (fin e (num 2 l).err) w' := by
  go_enter Tryd.func40, Tryd.ntmps40
  go_wp2_with fail
  refine (next16 g l e _ h).mono ?_
  rintro E w1 ⟨rfl, hw1⟩
  go_wp2
  go_ret
  exact ⟨rfl, hw1⟩
theorem rdU32 (g : Nat) (l : List UInt8) (e : Int) (w : World) (h : Rd w g l e) :
    Calls Tryd.prog 41 #[.pointer (some ⟨g, 0, none⟩)] w fun E w' => E = .returned (.int .u32 (num 4 l).val) ∧ RdTo w g (num 4 l).rest (fin e (num 4 l).err) w' := by
  go_enter Tryd.func41, Tryd.ntmps41
  go_wp2_with fail
  refine (next32 g l e _ h).mono ?_
  rintro E w1 ⟨rfl, hw1⟩
  go_wp2
  go_ret
  exact ⟨rfl, hw1⟩
/-- A round of Var, at its head. -/
def VarRel (w : World) (g : Nat) (l : List UInt8) (e : Int) (n j : Value) (wr : World) : Prop :=
  ∃ (i m : Nat) (li : List UInt8), j = .int .i64 i ∧ n = .int .u64 m ∧ VdAt l i m li ∧ RdTo w g li e wr
theorem bits_00 : bits .or .u64 0 (IntKind.u64.wrap (IntKind.u64.wrap (bits .andNot .u8 0 128) * 2 ^ 0)) = 0 := by decide +kernel
theorem fin_ten (e : Int) : fin (fin e 10) 4 = fin e 10 := by rw [fin_fin]; simp [show fin 10 4 = 10 from rfl]
theorem vf_00 : vf 0 0 = 0 := by simp [vf]
end Go.Proofs.YtgbieihobcindaaDoor
