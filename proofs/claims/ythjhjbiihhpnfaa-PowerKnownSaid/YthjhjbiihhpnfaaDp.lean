/- The library's Join, HasPrefix, Repeat here; what a crash leaves, file by file; lists of names. -/
import Derived.Test.YthjhjbiihhpnfaaDy
namespace Go.Proofs.Ythjhjbiihhpnfaa
open Go.RowKit Go.Shelf
set_option linter.unusedVariables false
set_option linter.unusedSimpArgs false
set_option maxRecDepth 100000

theorem Lst.new {w w' : World} {B : Nat} {v : Value} {l : List (List UInt8)} (h : Lst w B v l) (k : Below w.heap.size w w') : Lst w' B v l := row_tu h (.new (S := fun _ => False) k) (fun _ _ h => h)
theorem Lst.tu {S : Nat → Prop} {w w' : World} {B : Nat} {v : Value} {l : List (List UInt8)} (h : Lst w B v l) (k : Tu S w w') (hs : ∀ x, B ≤ x → x < w.heap.size → ¬ S x) : Lst w' B v l :=
  row_tu h k fun x hx => hs x (h.lt x hx).1 (h.lt x hx).2
theorem Lst.at {w : World} {B : Nat} {v : Value} {l : List (List UInt8)} (h : Lst w B v l) {k : Nat} (hk : k < l.length) : ∃ g cap, v = .slice (some ⟨g, 0, none⟩) l.length cap ∧ w.cell? ⟨g, 0 + k, none⟩ = some (.string (str (l[k]'hk))) := by
  rcases h.2 with ⟨rfl, h0⟩ | ⟨g, cap, cur, rfl, _⟩
  · omega
  · refine ⟨g, cap, rfl, ?_⟩
    have := World.ownsRow.cells (g := g) h rfl k (.string (str (l[k]'hk))) (by simp [hk])
    rw [show (⟨g, 0 + k, none⟩ : Addr) = (⟨g, 0, none⟩ : Addr).add k from by simp [Addr.add]]
    exact this
theorem Lst.sl {w : World} {B : Nat} {v : Value} {l : List (List UInt8)} (h : Lst w B v l) : ∃ ao cap, v = .slice ao l.length cap := by
  rcases h.2 with ⟨rfl, h0⟩ | ⟨g, cap, cur, rfl, _⟩
  · rw [h0]; exact ⟨_, _, rfl⟩
  · exact ⟨_, _, rfl⟩
/-! What a crash leaves. -/
theorem tears_at (ks : List Int) : ∀ (i : Nat) (E : List Ent) (j : Nat) (h : j < E.length), (tears ks i E)[j]? = some (tearE (numAt ks (i + j)) (E[j]'h))
  | i, f :: r, 0, _ => rfl
  | i, f :: r, j + 1, h => by
    simp only [tears, List.getElem?_cons_succ, List.getElem_cons_succ]
    rw [tears_at ks (i + 1) r j (by simpa using h), show i + 1 + j = i + (j + 1) by omega]
theorem kept_one (k : Int) : kept k 1 = 0 := by unfold kept; simp [Int.emod_one]
theorem tearE_same (k : Int) {f : Ent} (h : f.bs.length = f.su) : tearE k f = f := by
  have e : f.su + kept k (f.bs.length - f.su + 1) = f.bs.length := by rw [h, Nat.sub_self, kept_one]; rfl
  unfold tearE
  simp only [e, List.take_length]
  rw [h]
theorem tears_same (ks : List Int) : ∀ (i : Nat) (E : List Ent), (∀ e ∈ E, e.bs.length = e.su) → tears ks i E = E
  | _, [], _ => rfl
  | i, f :: r, h => by
    simp only [tears]
    rw [tearE_same _ (h f (by simp)), tears_same ks (i + 1) r fun e he => h e (by simp [he])]
theorem crash_again {q : Nat} {E : List Ent} (h : Good q E) (ks ks' : List Int) : aCrash ks' (aCrash ks E) = aCrash ks E := tears_same ks' 0 _ fun e he => by
  obtain ⟨j, f, hf, rfl⟩ := tears_mem ks 0 E e he
  exact (tearE_len (h.sure f hf) _).1
theorem crash_nm (ks : List Int) (E : List Ent) : (aCrash ks E).map Ent.nm = E.map Ent.nm := tears_nm ks 0 E
theorem good_at {q : Nat} {E : List Ent} (h : Good q E) {j : Nat} (hj : j < E.length) : rd E (E[j]'hj).nm = (E[j]'hj).bs ∧ sy E (E[j]'hj).nm = (E[j]'hj).su ∧ eFind E (E[j]'hj).nm = 0 := by
  have hm := List.getElem_mem hj
  have hf : fnd (E[j]'hj).nm E = some (E[j]'hj) := fndK_of_mem h.srt hm
  have hn := h.nms _ hm
  unfold rd sy eFind
  rw [hn, hf]
  exact ⟨rfl, rfl, rfl⟩
/-- At a file: what was there, and what the crash left. -/
theorem crash_at {q : Nat} {E : List Ent} (h : Good q E) (ks : List Int) {j : Nat} (hj : j < E.length) {n : List UInt8} (hn : (E[j]'hj).nm = n) :
    (rd (aCrash ks E) n).isPrefixOf (rd E n) = true ∧ sy E n ≤ (rd (aCrash ks E) n).length ∧ sy (aCrash ks E) n = (rd (aCrash ks E) n).length ∧ eFind E n = 0 ∧ eFind (aCrash ks E) n = 0 ∧ (rd E n).length ≤ 65536 := by
  subst hn
  have hg := good_crash h ks
  have hj2 : j < (aCrash ks E).length := by rw [aCrash, tears_len]; exact hj
  have he : (aCrash ks E)[j]'hj2 = tearE (numAt ks j) (E[j]'hj) := by
    have := tears_at ks 0 E j hj
    rw [Nat.zero_add] at this
    exact Option.some.inj ((List.getElem?_eq_getElem hj2).symm.trans this)
  obtain ⟨a1, a2, a3⟩ := good_at h hj
  obtain ⟨b1, b2, b3⟩ := good_at hg hj2
  have hnm : ((aCrash ks E)[j]'hj2).nm = (E[j]'hj).nm := by rw [he]; rfl
  rw [hnm, he] at b1 b2
  rw [hnm] at b3
  have hm := h.most _ (List.getElem_mem hj)
  have hl := tearE_len (h.sure _ (List.getElem_mem hj)) (numAt ks j)
  rw [a1, a2, a3, b1, b2, b3]
  generalize E[j]'hj = f at *
  refine ⟨?_, ?_, hl.1.symm, rfl, rfl, hm⟩
  · exact List.isPrefixOf_iff_prefix.2 (List.take_prefix _ _)
  · rw [hl.1]
    show f.su ≤ f.su + _
    omega
end Go.Proofs.Ythjhjbiihhpnfaa
