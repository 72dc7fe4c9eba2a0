/- StepMakes: the walk. -/
import Derived.Test.YtgmbdadkahcpcaaDoorUq
import Derived.Test.YtgmbdadkahcpcaaDoorAe
namespace Go.Proofs.YtgmbdadkahcpcaaDoor
open Go.RowKit
set_option linter.unusedVariables false
set_option linter.unusedSimpArgs false
set_option maxRecDepth 20000

theorem stp_fit {s : St} (hf : s.fit) (i j : Nat) : (stp s i j).fit := by
  unfold stp
  split
  · rename_i h; exact (frame_right src_ok h.1 hf _ _).2.1
  · exact hf
theorem stp_len {s : St} (hf : s.fit) {n : Nat} (h8 : 8 ≤ n) (hl : s.ss.length ≤ n) (i j : Nat) : (stp s i j).ss.length ≤ n := by
  unfold stp
  split
  · rename_i h
    have := (st_ok_of (frame_right src_ok h.1 hf (inp i) (inp j)).1 (frame_right src_ok h.1 hf (inp i) (inp j)).2.1).1.n
    omega
  · exact hl
/-- A row of one's own can be written. -/
def Live (w : World) (B : Nat) (bs : List Nat) (ao : Option Addr) (n : Nat) : Prop := 0 < n → ∃ g cs, ao = some ⟨g, 0, none⟩ ∧ B ≤ g ∧ Cells w g 66 cs ∧ n * 6 ≤ cs.size ∧ ∀ b ∈ bs, b ≠ g
theorem live_of {B : Nat} {w : World} {bs : List Nat} {ao : Option Addr} {n cap : Nat} {l : List Sh} (h : Shr B w bs ao n cap l) : Live w B bs ao n := fun hn => by
  rcases h.own.2 with ⟨_, h0⟩ | ⟨g, c, cur, e, hb, hg, hc, _, hz, _⟩
  · omega
  · injection e with e1 e2 e3
    subst e1
    refine ⟨g, cur, rfl, hb, hg, by rw [hz]; exact Nat.mul_le_mul_right 6 hc, fun b hbb e => ?_⟩
    exact h.far b hbb (by rw [e]; rfl)
theorem live_st {w : World} {g k : Nat} {cs : Array Value} (hc : Cells w g 66 cs) (hk : k * 6 + 6 ≤ cs.size) (vs : Array Value) (hv : vs.size = 6) (h1 : vs.toList.all Value.oneCell' = true) :
    ∃ w', (stT 66 (.pointer (some ⟨g, k * 6, none⟩)) (.agg vs)).run Tryd.prog w = .ok () w' ∧ w.grownBy w' (some g) ∧ ∃ cs', Cells w' g 66 cs' ∧ cs'.size = cs.size :=
  ⟨_, run_stA ty_shot hc (k * 6) hk hv h1, grown_setRow _ _ _, _, setRow_heap _ _ _ _ _ _ hc, by simp; omega⟩
attribute [local go_sem ↓] ld_pair ld_state ld_shots st_state st_shot
end Go.Proofs.YtgmbdadkahcpcaaDoor
