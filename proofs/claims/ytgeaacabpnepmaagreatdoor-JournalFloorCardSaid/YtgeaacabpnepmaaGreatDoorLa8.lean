/- Texts of the walk. -/
import Derived.Test.YtgeaacabpnepmaaGreatDoorKz8
/- Roll. -/
namespace Go.Proofs.YtgeaacabpnepmaaGreatDoor
open Go.RowKit
set_option linter.unusedVariables false
set_option linter.unusedSimpArgs false
set_option maxRecDepth 20000

theorem inc_wrap (n : Nat) : IntKind.u64.wrap ((n : Int) + 1) = ((inc n : Nat) : Int) := by
  unfold inc
  simp [IntKind.wrap, IntKind.bits, IntKind.signed]
section
variable {V : Nat → Prop} {w w1 : World} {gj gp q kc : Nat} {dv : Value} {ko : Option Addr} {p : Pw} {j : Jn} {so co ao : Option Addr} {sc cc ac : Nat} {m : Mf}
theorem JTo.with {A V1 : Nat → Prop} (h : JTo V w V1 w1) (hA : ∀ x, A x → w.heap.size ≤ x) : JTo V w (fun x => V1 x ∨ A x) w1 := ⟨fun x hx => by
  rcases hx with hx | hx
  · exact h.more x hx
  · exact .inr (hA x hx), h.tu⟩
attribute [local go_sem ↓] ld_pw ld_man st_man ld_parts' st_parts' ld_jp ld_u64 ld_inps ld_int st_int
end
end Go.Proofs.YtgeaacabpnepmaaGreatDoor
