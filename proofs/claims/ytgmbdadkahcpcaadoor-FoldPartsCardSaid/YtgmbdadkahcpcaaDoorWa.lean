/- Plain mathematics of histories: pairs by their frames, from a first frame on, at most so many; what is added, told, cut out and dropped. -/
import Derived.Test.YtgmbdadkahcpcaaDoorProg
import Derived.WalkKit
import Derived.Lib.Hide
namespace Go.Proofs.YtgmbdadkahcpcaaDoor
open Go.RowKit
set_option linter.unusedVariables false

/-- What a history holds: pairs from frame f on, at most m. -/
structure Hm where
  f : Nat
  m : Nat
  l : List (Nat × Nat)
namespace Hm
def cnt (h : Hm) : Nat := h.f + h.l.length
structure ok (h : Hm) : Prop where
  m1 : 1 ≤ h.m
  m2 : h.m ≤ 256
  len : h.l.length ≤ h.m
  cnt : h.cnt < 18446744073709551616
  prs : ∀ p ∈ h.l, p.1 < 256 ∧ p.2 < 256
def code (h : Hm) (p : Nat × Nat) : Nat := if 63 < p.1 ∨ 63 < p.2 then 2 else if h.l.length = h.m ∨ h.cnt = 18446744073709551615 then 7 else 0
def add (h : Hm) (p : Nat × Nat) : Hm := if h.code p = 0 then { h with l := h.l ++ [p] } else h
def has (h : Hm) (x : Nat) : Bool := decide (h.f ≤ x ∧ x < h.cnt)
def at_ (h : Hm) (x : Nat) : Nat × Nat := if h.has x = true then h.l.getD (x - h.f) (0, 0) else (0, 0)
def cut (h : Hm) (x : Nat) (n : Int) : List (Nat × Nat) := if h.f ≤ x ∧ x ≤ h.cnt then (h.l.drop (x - h.f)).take n.toNat else []
def drop (h : Hm) (b : Nat) : Hm := { h with f := h.f + min (b - h.f) h.l.length, l := h.l.drop (b - h.f) }
theorem ok.add {h : Hm} (k : h.ok) {p : Nat × Nat} (hp : p.1 < 256 ∧ p.2 < 256) : (h.add p).ok := by
  unfold Hm.add
  split
  · rename_i hc
    unfold Hm.code at hc
    split at hc
    · cases hc
    · split at hc
      · cases hc
      · rename_i h1 h2
        have hl := k.len
        have hn := k.cnt
        refine ⟨k.m1, k.m2, by simp; omega, by simp only [Hm.cnt, List.length_append, List.length_cons, List.length_nil] at *; omega, fun q hq => ?_⟩
        rcases List.mem_append.1 hq with hq | hq
        · exact k.prs q hq
        · rw [List.mem_singleton] at hq; rw [hq]; exact hp
  · exact k
theorem drop_cnt (h : Hm) (b : Nat) : (h.drop b).cnt = h.cnt := by
  simp only [Hm.drop, Hm.cnt, List.length_drop]; omega
theorem ok.drop {h : Hm} (k : h.ok) (b : Nat) : (h.drop b).ok :=
  ⟨k.m1, k.m2, by have := k.len; simp only [Hm.drop, List.length_drop]; omega, by rw [drop_cnt]; exact k.cnt, fun q hq => k.prs q (List.mem_of_mem_drop hq)⟩
theorem at_get {h : Hm} {x : Nat} (h1 : h.f ≤ x) (h2 : x < h.cnt) : ∃ hk : x - h.f < h.l.length, h.at_ x = h.l[x - h.f]'hk := by
  have hk : x - h.f < h.l.length := by unfold Hm.cnt at h2; omega
  refine ⟨hk, ?_⟩
  unfold Hm.at_ Hm.has
  rw [if_pos (by simp; exact ⟨h1, h2⟩)]
  simp [List.getD, hk]
theorem has_yes {h : Hm} {x : Nat} (h1 : h.f ≤ x) (h2 : x < h.cnt) : h.has x = true := decide_eq_true ⟨h1, h2⟩
theorem has_no {h : Hm} {x : Nat} (h1 : ¬ (h.f ≤ x ∧ x < h.cnt)) : h.has x = false := decide_eq_false h1
theorem at_no {h : Hm} {x : Nat} (h1 : ¬ (h.f ≤ x ∧ x < h.cnt)) : h.at_ x = (0, 0) := by unfold Hm.at_; rw [has_no h1]; rfl
theorem cut_len (h : Hm) (x : Nat) (n : Int) : (h.cut x n).length ≤ h.l.length := by
  unfold Hm.cut
  split
  · simp only [List.length_take, List.length_drop]; omega
  · simp
theorem at_lt {h : Hm} (k : h.ok) (x : Nat) : (h.at_ x).1 < 256 ∧ (h.at_ x).2 < 256 := by
  by_cases hx : h.f ≤ x ∧ x < h.cnt
  · obtain ⟨hk, e⟩ := at_get hx.1 hx.2
    rw [e]; exact k.prs _ (List.getElem_mem hk)
  · rw [at_no hx]; exact ⟨by decide, by decide⟩
end Hm
end Go.Proofs.YtgmbdadkahcpcaaDoor
