/- A region that asks the tape for its order, whose last operation writes a cell that the region reads: what is asked of the world (S) is asked only where something is still to come up. Nothing of the program. -/
import Derived.Test.YthjhjbiihhpnfaaMem
import Derived.OrdersHeld
import Derived.StillTail
import Derived.RegionTactic
namespace Go.Proofs.Ythjhjbiihhpnfaa
open Go.RowKit
set_option linter.unusedVariables false

section
variable {P : Program} {ops : Array Oper} {Q : Exit → Act → World → Prop} {md : Region.Mode} {S : World → Prop}
/-- Whatever order is picked from here on; S holds wherever something is still to come up. -/
def wpTill (P : Program) (md : Region.Mode) (ops : Array Oper) (Q : Exit → Act → World → Prop) (S : World → Prop) : Nat → Array Bool → Act → World → Prop
  | 0, listed, a, w => Region.ready md ops listed = [] ∧ Q .normal a w
  | n + 1, listed, a, w =>
    (Region.ready md ops listed = [] → Q .normal a w) ∧ (Region.ready md ops listed ≠ [] → S w) ∧
      ∀ i, i ∈ Region.ready md ops listed → wpOp P ops Q i (fun a' w' => wpTill P md ops Q S n (listed.setIfInBounds i true) a' w') a w
theorem wpTill_any : ∀ (n : Nat) (listed : Array Bool) (a : Act) (w : World), wpTill P md ops Q S n listed a w → wpAny P md ops Q n listed a w
  | 0, _, _, _, h => h
  | n + 1, _, _, _, h => ⟨h.1, fun i hi => wpOp_mono (fun a' w' k => wpTill_any n _ a' w' k) (h.2.2 i hi)⟩
theorem wp_region_till {id : Nat} {a : Act} {w : World} (hm : P.follows .mixedOrders = true)
    (h : wpTill P .any ops Q S ops.size (Array.replicate ops.size false) a w.drew) : (Code.region id ops true).wp P Q a w :=
  wp_region_any hm (wpTill_any _ _ _ _ h)
theorem wpTill_done {n : Nat} {listed : Array Bool} {a : Act} {w : World} (hr : Region.ready md ops listed = []) (h : Q .normal a w) : wpTill P md ops Q S n listed a w := by
  cases n with
  | zero => exact ⟨hr, h⟩
  | succ n => exact ⟨fun _ => h, fun k => absurd hr k, fun i hi => by rw [hr] at hi; cases hi⟩
theorem wpTill_run {i n : Nat} {o : Oper} {listed : Array Bool} {a : Act} {w : World} (hr : Region.ready md ops listed = [i]) (ho : ops[i]? = some o) (hS : S w)
    (h : ∀ K' : Act → World → Prop, (∀ a' w', wpTill P md ops Q S n (listed.setIfInBounds i true) a' w' → K' a' w') → if Region.wanted o (yielded ops a.tmps) = true then Oper.wp P o a w K' Q else K' (a.put o.dst undef) w) :
    wpTill P md ops Q S (n + 1) listed a w :=
  ⟨fun k => (by rw [hr] at k; cases k), fun _ => hS, fun j hj => by
    rw [hr, List.mem_singleton] at hj
    subst hj
    exact wpOp_step ho h⟩
/-- Operations wait for earlier ones alone. -/
def orderedB (md : Region.Mode) (ops : Array Oper) : Bool :=
  (List.range ops.size).all fun j => match ops[j]? with
    | some o => o.after.all fun e => !Region.binds md e || decide (e.on < j)
    | none => true
theorem ordered_spec (h : orderedB md ops = true) {j : Nat} {o : Oper} (hj : ops[j]? = some o) {e : Edge} (he : e ∈ o.after) (hb : Region.binds md e = true) : e.on < j := by
  have hlt : j < ops.size := (Array.getElem?_eq_some_iff.1 hj).1
  have h1 := List.all_eq_true.1 h j (List.mem_range.2 hlt)
  simp only [hj] at h1
  have h2 := Array.all_eq_true_iff_forall_mem.1 h1 e he
  simpa [hb] using h2
/-- Where something has not come up, something may. -/
theorem ready_some (h : orderedB md ops = true) {listed : Array Bool} (hz : listed.size = ops.size) : ∀ (k : Nat), k < ops.size → listed.getD k true = false → Region.ready md ops listed ≠ [] := by
  intro k
  induction k using Nat.strongRecOn with
  | _ k ih =>
    intro hk hu
    obtain ⟨o, ho⟩ : ∃ o, ops[k]? = some o := ⟨_, Array.getElem?_eq_getElem hk⟩
    by_cases hall : ∀ e ∈ o.after, Region.binds md e = true → listed.getD e.on false = true
    · intro h0
      have : k ∈ Region.ready md ops listed := mem_ready.2 ⟨hu, o, ho, hall⟩
      rw [h0] at this
      cases this
    · obtain ⟨e, hne⟩ := Classical.not_forall.1 hall
      obtain ⟨he, hne⟩ := Classical.not_imp.1 hne
      obtain ⟨hb, hf⟩ := Classical.not_imp.1 hne
      have hlt := ordered_spec h ho he hb
      have h2 : listed.getD e.on false = false := by simpa using hf
      exact ih e.on hlt (by omega) (getD_in (by omega) h2)
/-- Operation number i may be taken now, and another one waits for it. -/
def takeB (md : Region.Mode) (ops : Array Oper) (listed : Array Bool) (i : Nat) : Bool :=
  Region.noSelect ops && orderedB md ops && decide (listed.size = ops.size) && (Region.free md ops listed i && (Region.ready md ops listed).contains i) &&
    (List.range ops.size).any fun k => Region.waitsFor md ops k i && !listed.getD k true
theorem waits_not_ready {k i : Nat} {listed : Array Bool} (hw : Region.waitsFor md ops k i = true) (hi : listed.getD i true = false) : k ∉ Region.ready md ops listed := fun hk => by
  obtain ⟨o, ho, e, he, hb, rfl⟩ := Region.waitsFor_spec hw
  obtain ⟨_, o', ho', hall⟩ := mem_ready.1 hk
  obtain rfl : o = o' := Option.some.inj (ho.symm.trans ho')
  have := hall e he hb
  rw [getD_both hi] at this
  cases this
theorem take_first {i k : Nat} {oi : Oper} {v : Value} (hi : ops[i]? = some oi) (hsel : Region.noSelect ops = true) (hord : orderedB md ops = true)
    (hQ : ∀ c a w, Q (.panic c) (a.put oi.dst v) w → Q (.panic c) a w) (hwk : Region.waitsFor md ops k i = true) (hki : k ≠ i) (hks : k < ops.size) :
    ∀ (n : Nat) (listed : Array Bool) (a : Act) (w : World), listed.size = ops.size → listed.getD k true = false →
      (∀ j oj, ops[j]? = some oj → j ≠ i → listed.getD j true = false → (∀ e ∈ oj.after, Region.binds md e = true → e.on ≠ i) → oi.apart ops oj = true) →
      i ∈ Region.ready md ops listed → YieldsIf P ops S oi v a → S w →
      wpTill P md ops Q S n (listed.setIfInBounds i true) (a.put oi.dst v) w → wpTill P md ops Q S (n + 1) listed a w
  | n, listed, a, w, hz, hku, hfree, hr, hy, hS, H => by
    have hiu := (mem_ready.1 hr).1
    refine ⟨fun h0 => (by rw [h0] at hr; cases hr), fun _ => hS, fun j hj => ?_⟩
    by_cases hji : j = i
    · subst hji
      exact hy.wpOp hi hS H
    · have hjr := ready_mono hj hji
      have hjk : j ≠ k := fun e => waits_not_ready hwk hiu (e ▸ hj)
      cases n with
      | zero => rw [H.1] at hjr; cases hjr
      | succ n =>
        obtain ⟨hju, oj, hoj, hall⟩ := mem_ready.1 hj
        have hap := hfree j oj hoj hji hju (fun e he hb heq => by
          have := hall e he hb
          rw [heq, getD_both hiu] at this
          cases this)
        have h2 := wpOp_putIf (S := S) hoj hap (fun cs b => Region.noSelect_spec hsel i oi cs b hi) (fun cs b => Region.noSelect_spec hsel j oj cs b hoj) hQ hy (H.2.2 j hjr)
        have hzj : (listed.setIfInBounds j true).size = ops.size := by simpa using hz
        have hkj : (listed.setIfInBounds j true).getD k true = false := by rw [getD_set_ne true hjk]; exact hku
        refine wpOp_mono (fun a' w' h3 => ?_) h2
        have h4 := h3.2
        rw [Array.setIfInBounds_comm _ _ (Ne.symm hji)] at h4
        have hkz : ((listed.setIfInBounds j true).setIfInBounds i true).getD k true = false := by rw [getD_set_ne true (Ne.symm hki)]; exact hkj
        have hsome := ready_some hord (listed := (listed.setIfInBounds j true).setIfInBounds i true) (by simpa using hz) k hks hkz
        have hS' : S w' := by
          cases n with
          | zero => exact absurd h4.1 hsome
          | succ n => exact h4.2.1 hsome
        refine take_first hi hsel hord hQ hwk hki hks n _ a' w' hzj hkj (fun l ol hl hli hlu hno => hfree l ol hl hli ?_ hno) (ready_mono hr (Ne.symm hji)) h3.1 hS' h4
        by_cases hjl : j = l
        · subst hjl; exact hju
        · rw [getD_set_ne true hjl] at hlu; exact hlu
theorem wpTill_take {i n : Nat} {oi : Oper} {v : Value} {listed : Array Bool} {a : Act} {w : World} (hi : ops[i]? = some oi) (hB : takeB md ops listed i = true)
    (hQ : ∀ c a w, Q (.panic c) (a.put oi.dst v) w → Q (.panic c) a w) (hy : YieldsIf P ops S oi v a) (hS : S w)
    (h : wpTill P md ops Q S n (listed.setIfInBounds i true) (a.put oi.dst v) w) : wpTill P md ops Q S (n + 1) listed a w := by
  simp only [takeB, Bool.and_eq_true, decide_eq_true_eq, List.any_eq_true, List.mem_range, Bool.not_eq_true'] at hB
  obtain ⟨⟨⟨⟨hsel, hord⟩, hz⟩, hf, hr⟩, k, hks, hwk, hku⟩ := hB
  have hr' : i ∈ Region.ready md ops listed := by simpa using hr
  have hki : k ≠ i := by
    rintro rfl
    obtain ⟨o, ho, e, he, hb, hon⟩ := Region.waitsFor_spec hwk
    have := ordered_spec hord ho he hb
    omega
  exact take_first hi hsel hord hQ hwk hki hks n listed a w hz hku (Region.free_spec hi hf) hr' hy hS h
end
end Go.Proofs.Ythjhjbiihhpnfaa
