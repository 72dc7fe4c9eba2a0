/- The statement SegmentOrder: the Go function returns true. Conditions: the table of four steps lies in its variable. -/
import Derived.Test.YthnelnfefllhpaaDoorBp
import Derived.BigQuiet
import Derived.IntWalk
namespace Go.Proofs.YthnelnfefllhpaaDoor
open Go.RowKit
set_option linter.unusedVariables false
set_option linter.unusedSimpArgs false
set_option maxRecDepth 20000

/-- The own inputs whose pairs are not yet sure. -/
def win (x : Sg) : List Nat := (List.range (x.o - x.c)).map fun j => inp x.l (x.c + j)
theorem win_len (x : Sg) : (win x).length = x.o - x.c := by simp [win]
theorem goes_at {n : Nat} : ∀ {l : List Rc} {x : Sg} (i : Nat) (hi : i < l.length), Goes n x l → (l[i]'hi).fit ∧ mayB (l[i]'hi) = true ∧ tkS n (runS x (l.take i)) (l[i]'hi) = 0
  | r :: l, x, 0, _, ⟨h1, h2, h3, _⟩ => ⟨h1, h2, h3⟩
  | r :: l, x, i + 1, hi, ⟨_, _, _, h4⟩ => by
    rw [List.take_succ_cons, runS_cons]
    exact goes_at i (by simpa using hi) h4
theorem run_at {l : List Rc} {x : Sg} {i : Nat} (hi : i < l.length) : runS x (l.take (i + 1)) = adS (runS x (l.take i)) (l[i]'hi) := by
  rw [List.take_succ_eq_append_getElem hi, runS_snoc]
theorem step_kind {n : Nat} {x : Sg} {r : Rc} (hb : x.b = true) (hm : mayB r = true) (h : tkS n x r = 0) : (r.k = 1 ∧ r.f = x.o ∧ x.o - x.c < 12 ∧ r.f ≠ 18446744073709551615 ∧ adS x r = ⟨x.b, x.h, x.l ++ [r], x.c, x.o + 1⟩) ∨ (r.k = 2 ∧ r.f = x.c ∧ x.c < x.o ∧ side r x.h.y = inp x.l x.c ∧ adS x r = ⟨x.b, x.h, x.l ++ [r], x.c + 1, x.o⟩) := by
  have hk := may_k hm
  unfold tkS at h
  unfold adS
  by_cases k3 : r.k = 3
  · rw [if_pos k3, if_pos (.inl hb)] at h; cases h
  · rw [if_neg k3, if_neg (by rw [hb]; decide)] at h
    rw [if_neg k3]
    by_cases k1 : r.k = 1
    · rw [if_pos k1] at h ⊢
      split at h
      · cases h
      · exact .inl ⟨k1, by omega, by omega, by omega, rfl⟩
    · rw [if_neg k1] at h ⊢
      split at h
      · cases h
      · split at h
        · cases h
        · rename_i hc hs
          have e : r.f = x.c := by omega
          exact .inr ⟨by omega, e, by omega, by rw [← e]; exact Classical.not_not.1 hs, rfl⟩
theorem win_own {x : Sg} {r : Rc} (hc : x.c ≤ x.o) (k1 : r.k = 1) (hf : r.f = x.o) : win ⟨x.b, x.h, x.l ++ [r], x.c, x.o + 1⟩ = win x ++ [r.o] := by
  unfold win
  show (List.range (x.o + 1 - x.c)).map (fun j => inp (x.l ++ [r]) (x.c + j)) = _
  rw [show x.o + 1 - x.c = (x.o - x.c) + 1 by omega, List.range_succ, List.map_append, List.map_singleton, inp_snoc, if_pos ⟨k1, by omega⟩]
  congr 1
  refine List.map_congr_left fun j hj => ?_
  rw [List.mem_range] at hj
  rw [inp_snoc, if_neg (by rintro ⟨_, h⟩; omega)]
theorem win_sure {x : Sg} {r : Rc} (hc : x.c < x.o) (k1 : r.k ≠ 1) : win x = inp x.l x.c :: win ⟨x.b, x.h, x.l ++ [r], x.c + 1, x.o⟩ := by
  unfold win
  show _ = inp x.l x.c :: (List.range (x.o - (x.c + 1))).map (fun j => inp (x.l ++ [r]) (x.c + 1 + j))
  rw [show x.o - x.c = (x.o - (x.c + 1)) + 1 by omega, List.range_succ_eq_map, List.map_cons, List.map_map]
  congr 1
  refine List.map_congr_left fun j hj => ?_
  show inp x.l (x.c + (j + 1)) = _
  rw [inp_snoc, if_neg (fun h => k1 h.1), show x.c + (j + 1) = x.c + 1 + j by omega]
theorem runS_head {n : Nat} : ∀ {l : List Rc} {x : Sg}, Goes n x l → x.b = true → (runS x l).h = x.h ∧ (runS x l).b = true
  | [], x, _, hb => ⟨rfl, hb⟩
  | r :: l, x, ⟨h1, h2, h3, h4⟩, hb => by
    rcases step_kind hb h2 h3 with ⟨_, _, _, _, e⟩ | ⟨_, _, _, _, e⟩ <;>
    · obtain ⟨a, b⟩ := runS_head h4 (by rw [e]; exact hb)
      rw [runS_cons, a, e]
      exact ⟨rfl, by rw [← e]; exact b⟩
theorem str_eq2 {a b c : List UInt8} (h : a ++ b = c) : ((str (a ++ b)).toList == (str c).toList) = true := by subst h; simp
end Go.Proofs.YthnelnfefllhpaaDoor
