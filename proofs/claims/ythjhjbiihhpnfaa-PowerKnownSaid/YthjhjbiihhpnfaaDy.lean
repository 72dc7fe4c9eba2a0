/- What an act leaves of another name; a whole act loaded; what is asked of a disk, in one word each. -/
import Derived.Test.YthjhjbiihhpnfaaDx
namespace Go.Proofs.Ythjhjbiihhpnfaa
open Go.RowKit Go.Shelf
set_option linter.unusedVariables false
set_option linter.unusedSimpArgs false
set_option maxRecDepth 100000

theorem fnd_ins {e : Ent} {n : List UInt8} (h : e.nm ≠ n) : ∀ E : List Ent, fnd n (insK Ent.nm e E) = fnd n E
  | [] => by simp [insK, fndK, h]
  | y :: r => by
    simp only [insK]
    split
    · simp [fndK, List.find?_cons, h]
    · have := fnd_ins h r
      simp only [fndK] at this ⊢
      rw [List.find?_cons, List.find?_cons, this]
theorem fnd_del {k n : List UInt8} (h : k ≠ n) (E : List Ent) : fnd n (delK Ent.nm k E) = fnd n E := by
  induction E with
  | nil => rfl
  | cons y r ih =>
    simp only [fndK, delK, List.filter_cons] at ih ⊢
    by_cases hy : y.nm = k
    · have : y.nm ≠ n := by rw [hy]; exact h
      simp [hy, h, ih, this]
    · simp only [hy, beq_iff_eq, Bool.not_eq_true', beq_eq_false_iff_ne, ne_eq, not_false_eq_true, ite_true, List.find?_cons, ih]
theorem fnd_set {g : Ent} {n : List UInt8} (h : g.nm ≠ n) (E : List Ent) : fnd n (setE g E) = fnd n E := by
  induction E with
  | nil => rfl
  | cons y r ih =>
    simp only [fndK, setE, List.map_cons, List.find?_cons] at ih ⊢
    by_cases hy : y.nm = g.nm
    · have : y.nm ≠ n := by rw [hy]; exact h
      simp [hy, h, ih]
      rw [beq_eq_false_iff_ne.2 h]
    · have hb : (g.nm == n) = false := beq_eq_false_iff_ne.2 h
      simp [hy, hb, ih]
/-- A name that the act does not name. -/
def away (a : Act2) (n : List UInt8) : Prop := a.n ≠ n ∧ (a.c % 8 = 4 → a.t ≠ n) ∧ a.c % 8 ≠ 6
theorem act_away {a : Act2} {n : List UInt8} (q : Nat) (E : List Ent) (h : away a n) : fnd n (actE a q E) = fnd n E := by
  obtain ⟨h1, h2, h3⟩ := h
  obtain ⟨k, hk8, hc⟩ : ∃ k, k < 8 ∧ a.c % 8 = k := ⟨_, Nat.mod_lt _ (by decide), rfl⟩
  unfold actE
  rw [hc] at h2 h3 ⊢
  have h8 : k = 0 ∨ k = 1 ∨ k = 2 ∨ k = 3 ∨ k = 4 ∨ k = 5 ∨ k = 6 ∨ k = 7 := by omega
  have app : fnd n (aAppend q E a.n a.b) = fnd n E := by
    unfold aAppend
    split
    · cases hf : fnd a.n E with
      | none => rfl
      | some f => exact fnd_set (by show f.nm ≠ n; rw [(fndK_some hf).2]; exact h1) E
    · rfl
  rcases h8 with rfl | rfl | rfl | rfl | rfl | rfl | rfl | rfl
  · exact app
  · exact app
  · show fnd n (aCreate E a.n) = _
    unfold aCreate
    split
    · exact fnd_ins h1 E
    · rfl
  · show fnd n (aSync E a.n) = _
    unfold aSync
    split
    · cases hf : fnd a.n E with
      | none => rfl
      | some f => exact fnd_set (by show f.nm ≠ n; rw [(fndK_some hf).2]; exact h1) E
    · rfl
  · show fnd n (aRename E a.n a.t) = _
    have ht := h2 rfl
    unfold aRename
    split
    · cases hf : fnd a.n E with
      | none => rfl
      | some f =>
        dsimp only
        rw [fnd_ins ht, fnd_del ht, fnd_del h1]
    · rfl
  · show fnd n (aRemove E a.n) = _
    unfold aRemove
    split
    · exact fnd_del h1 E
    · rfl
  · exact absurd rfl h3
  · rfl
theorem same_rd {E E' : List Ent} {n : List UInt8} (h : fnd n E' = fnd n E) : rd E' n = rd E n ∧ sy E' n = sy E n ∧ eFind E' n = eFind E n := by
  unfold rd sy eFind
  rw [h]
  exact ⟨rfl, rfl, rfl⟩
theorem DkS.ptr {S : Nat → Prop} {w : World} {v : Value} {q : Nat} {E : List Ent} (h : DkS S w v q E) : ∃ gd, v = .pointer (some ⟨gd, 0, none⟩) := by
  obtain ⟨gd, _, _, rfl, _⟩ := h; exact ⟨gd, rfl⟩
theorem used_s {S : Nat → Prop} {v : Value} {q : Nat} {E : List Ent} (w : World) (h : DkS S w v q E) :
    Calls Try.prog 36 #[v] w fun R w' => R = .returned (.int .i64 (used E)) ∧ Below w.heap.size w w' := by
  obtain ⟨gd, m, fs, rfl, hd, rfl, _⟩ := h
  exact used_c w hd
theorem list_s {S : Nat → Prop} {v : Value} {q : Nat} {E : List Ent} (w : World) (h : DkS S w v q E) :
    Calls Try.prog 27 #[v] w fun R w' => ∃ u, R = .returned u ∧ Lst w' w.heap.size u (E.map Ent.nm) ∧ Below w.heap.size w w' := by
  obtain ⟨gd, m, fs, rfl, hd, rfl, _⟩ := h
  have : (fs.map Fil.ent).map Ent.nm = fs.map Fil.nm := by rw [List.map_map]; rfl
  rw [this]
  exact list_c w hd
/-- What is a disk in blocks from b on stays while blocks from N on turn, where it lies below N. -/
theorem Own.far {b N : Nat} {w w' : World} {v : Value} {q : Nat} {E : List Ent} (h : DkS (fun x => b ≤ x ∧ x < N) w v q E) (ht : Tu (fun x => N ≤ x) w w') : DkS (fun x => b ≤ x ∧ x < N) w' v q E :=
  h.tu ht fun x _ hx => by omega
end Go.Proofs.Ythjhjbiihhpnfaa
