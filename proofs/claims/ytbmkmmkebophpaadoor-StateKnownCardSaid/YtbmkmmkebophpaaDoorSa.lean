/- Players, shots, states: their numbers, their bytes, and how bytes are read: the plain mathematics of layer 8. Nothing of the program. -/
import Derived.Test.YtbmkmmkebophpaaDoorNum
namespace Go.Proofs.YtbmkmmkebophpaaDoor
open Go.RowKit
set_option linter.unusedVariables false

/-! Readers one behind the other. -/
def many {α : Type} (P : Nat → List UInt8 → Got α) : Nat → Nat → List UInt8 → Got (List α)
  | 0, _, l => ⟨0, [], l⟩
  | m + 1, i, l => ⟨fin (P i l).err (many P m (i + 1) (P i l).rest).err, (P i l).val :: (many P m (i + 1) (P i l).rest).val, (many P m (i + 1) (P i l).rest).rest⟩
theorem many_snoc {α : Type} (P : Nat → List UInt8 → Got α) : ∀ (m i : Nat) (l : List UInt8),
    many P (m + 1) i l = ⟨fin (many P m i l).err (P (i + m) (many P m i l).rest).err, (many P m i l).val ++ [(P (i + m) (many P m i l).rest).val], (P (i + m) (many P m i l).rest).rest⟩
  | 0, i, l => by simp [many, fin_of, fin_zero]
  | m + 1, i, l => by
    rw [many, many_snoc P m (i + 1) (P i l).rest]
    simp only [many, fin_fin, List.cons_append]
    rw [show i + 1 + m = i + (m + 1) from by omega]
theorem many_len {α : Type} (P : Nat → List UInt8 → Got α) : ∀ (m i : Nat) (l : List UInt8), (many P m i l).val.length = m
  | 0, _, _ => rfl
  | m + 1, i, l => by simp [many, many_len P m]

structure Good {α : Type} (P : List UInt8 → Got α) (e : α → List UInt8) (ok : α → Prop) : Prop where
  yes : ∀ a more, ok a → P (e a ++ more) = ⟨0, a, more⟩
  cut : ∀ a p s, ok a → e a = p ++ s → s ≠ [] → (P p).err = 10 ∧ (P p).rest = []
  one : ∀ l, (P l).err = 0 → l = e (P l).val ++ (P l).rest ∧ ok (P l).val
  bad : ∀ l, (P l).err ≠ 0 → (P l).rest = []
  len : ∀ l, (P l).rest.length ≤ l.length

theorem num_le (k n : Nat) (more : List UInt8) (hn : n < 256 ^ k) : num k (le k n ++ more) = ⟨0, n, more⟩ := by
  have h := le_length k n
  unfold num
  rw [if_pos (by simp [h])]
  rw [List.take_append_of_le_length (by omega), List.drop_append_of_le_length (by omega), List.take_of_length_le (by omega), List.drop_of_length_le (by omega), un_le, Nat.mod_eq_of_lt hn]
  rfl
theorem num_good (k : Nat) : Good (num k) (le k) (fun n => n < 256 ^ k) where
  yes := fun n more hn => num_le k n more hn
  cut := fun n p s hn he hs => by
    have h := le_length k n
    have h0 : 0 < s.length := List.length_pos_iff.2 hs
    rw [he, List.length_append] at h
    unfold num
    rw [if_neg (by omega)]
    exact ⟨rfl, rfl⟩
  one := fun l h => by
    unfold num at h ⊢
    by_cases hk : k ≤ l.length
    · rw [if_pos hk]
      have hl : (l.take k).length = k := by simp; omega
      refine ⟨?_, ?_⟩
      · show l = le k (un (l.take k)) ++ l.drop k
        have := le_un (l.take k)
        rw [hl] at this
        rw [this, List.take_append_drop]
      · have := un_lt (l.take k)
        rwa [hl] at this
    · rw [if_neg hk] at h; simp at h
  bad := fun l h => (num_err h).1
  len := num_len k
theorem vd_good : Good (vd 0) vr (fun n => n < 18446744073709551616) where
  yes := fun n more hn => vd_vr n more hn
  cut := fun n p s hn he hs => by
    have := vd_vrF_cut 9 0 n p s he hs (by omega)
    rw [this]; exact ⟨rfl, rfl⟩
  one := fun l h => vr_vd l h
  bad := fun l h => (vd_err h).1
  len := fun l => vd_len l 0
def okM {α : Type} (ok : Nat → α → Prop) : Nat → Nat → List α → Prop
  | 0, _, xs => xs = []
  | m + 1, i, xs => ∃ x r, xs = x :: r ∧ ok i x ∧ okM ok m (i + 1) r
def enM {α : Type} (e : Nat → α → List UInt8) : Nat → List α → List UInt8
  | _, [] => []
  | i, x :: r => e i x ++ enM e (i + 1) r
/-- A beginning of two texts lies within the first, or holds it. -/
theorem begin_two {a b p s : List UInt8} (h : a ++ b = p ++ s) : (∃ t, a = p ++ t ∧ t ≠ []) ∨ (∃ q, p = a ++ q ∧ b = q ++ s) := by
  rcases List.append_eq_append_iff.1 h with ⟨q, h1, h2⟩ | ⟨q, h1, h2⟩
  · exact .inr ⟨q, h1, h2⟩
  · by_cases hq : q = []
    · subst hq
      exact .inr ⟨[], by simpa using h1.symm, by simpa using h2.symm⟩
    · exact .inl ⟨q, h1, hq⟩
theorem fin_eq_zero {a b : Int} (h : fin a b = 0) : a = 0 ∧ b = 0 := by
  unfold fin at h
  split at h
  · exact ⟨by assumption, h⟩
  · exact absurd h (by assumption)
theorem fin_ten' (b : Int) : fin 10 b = 10 := rfl
theorem good_many {α : Type} {P : Nat → List UInt8 → Got α} {e : Nat → α → List UInt8} {ok : Nat → α → Prop} (h : ∀ i, Good (P i) (e i) (ok i)) : ∀ m i, Good (many P m i) (enM e i) (okM ok m i)
  | 0, i => ⟨fun a more ha => by cases ha; rfl, fun a p s ha he hs => by
      cases ha
      have := congrArg List.length he
      simp [enM] at this
      exact absurd (List.eq_nil_of_length_eq_zero (by omega)) hs, fun l _ => ⟨rfl, rfl⟩, fun l hb => absurd rfl hb, fun l => Nat.le_refl _⟩
  | m + 1, i => by
    have ih := good_many h m (i + 1)
    refine ⟨?_, ?_, ?_, ?_, ?_⟩
    · rintro a more ⟨x, r, rfl, hx, hr⟩
      simp only [many, enM, List.append_assoc, (h i).yes x _ hx, ih.yes r more hr]
      rfl
    · rintro a p s ⟨x, r, rfl, hx, hr⟩ he hs
      simp only [enM] at he
      rcases begin_two he with ⟨t, h1, h2⟩ | ⟨q, rfl, h2⟩
      · obtain ⟨e1, e2⟩ := (h i).cut x p t hx h1 h2
        refine ⟨by simp only [many, e1]; rfl, ?_⟩
        simp only [many, e2]
        have := ih.len []
        exact List.eq_nil_of_length_eq_zero (by simpa using this)
      · obtain ⟨e1, e2⟩ := ih.cut r q s hr h2 hs
        simp only [many, (h i).yes x q hx, e1, e2, fin_of]
        exact ⟨trivial, trivial⟩
    · intro l hl
      obtain ⟨h1, h2⟩ := fin_eq_zero (show fin (P i l).err (many P m (i + 1) (P i l).rest).err = 0 from hl)
      obtain ⟨a1, a2⟩ := (h i).one l h1
      obtain ⟨b1, b2⟩ := ih.one _ h2
      refine ⟨?_, _, _, rfl, a2, b2⟩
      show l = (e i (P i l).val ++ enM e (i + 1) (many P m (i + 1) (P i l).rest).val) ++ (many P m (i + 1) (P i l).rest).rest
      rw [List.append_assoc, ← b1, ← a1]
    · intro l hl
      show (many P m (i + 1) (P i l).rest).rest = []
      by_cases h1 : (P i l).err = 0
      · refine ih.bad _ fun h2 => hl ?_
        show fin _ _ = 0
        rw [h1, h2]; rfl
      · rw [(h i).bad l h1]
        have := ih.len []
        exact List.eq_nil_of_length_eq_zero (by simpa using this)
    · intro l
      exact Nat.le_trans (ih.len _) ((h i).len l)
def seq {α β : Type} (P : List UInt8 → Got α) (Q : α → List UInt8 → Got β) (l : List UInt8) : Got (α × β) :=
  ⟨fin (P l).err (Q (P l).val (P l).rest).err, ((P l).val, (Q (P l).val (P l).rest).val), (Q (P l).val (P l).rest).rest⟩
theorem good_seq {α β : Type} {P : List UInt8 → Got α} {Q : α → List UInt8 → Got β} {e : α → List UInt8} {f : α → β → List UInt8} {ok : α → Prop} {oq : α → β → Prop}
    (h : Good P e ok) (k : ∀ a, Good (Q a) (f a) (oq a)) : Good (seq P Q) (fun x => e x.1 ++ f x.1 x.2) (fun x => ok x.1 ∧ oq x.1 x.2) := by
  refine ⟨?_, ?_, ?_, ?_, ?_⟩
  · rintro ⟨a, b⟩ more ⟨ha, hb⟩
    simp only [seq, List.append_assoc, h.yes a _ ha, (k a).yes b more hb]
    rfl
  · rintro ⟨a, b⟩ p s ⟨ha, hb⟩ he hs
    rcases begin_two he with ⟨t, h1, h2⟩ | ⟨q, rfl, h2⟩
    · obtain ⟨e1, e2⟩ := h.cut a p t ha h1 h2
      refine ⟨by simp only [seq, e1]; rfl, ?_⟩
      simp only [seq, e2]
      have := (k (P p).val).len []
      exact List.eq_nil_of_length_eq_zero (by simpa using this)
    · obtain ⟨e1, e2⟩ := (k a).cut b q s hb h2 hs
      simp only [seq, h.yes a q ha, e1, e2, fin_of]
      exact ⟨trivial, trivial⟩
  · intro l hl
    obtain ⟨h1, h2⟩ := fin_eq_zero (show fin (P l).err (Q (P l).val (P l).rest).err = 0 from hl)
    obtain ⟨a1, a2⟩ := h.one l h1
    obtain ⟨b1, b2⟩ := (k (P l).val).one _ h2
    refine ⟨?_, a2, b2⟩
    show l = (e (P l).val ++ f (P l).val (Q (P l).val (P l).rest).val) ++ (Q (P l).val (P l).rest).rest
    rw [List.append_assoc, ← b1, ← a1]
  · intro l hl
    show (Q (P l).val (P l).rest).rest = []
    by_cases h1 : (P l).err = 0
    · refine (k _).bad _ fun h2 => hl ?_
      show fin _ _ = 0
      rw [h1, h2]; rfl
    · rw [h.bad l h1]
      have := (k (P l).val).len []
      exact List.eq_nil_of_length_eq_zero (by simpa using this)
  · intro l
    exact Nat.le_trans ((k _).len _) (h.len l)
end Go.Proofs.YtbmkmmkebophpaaDoor
