/- A Write wherever the power goes off, and the blow behind it: what is on the disk, in plain words. Nothing of the program. -/
import Derived.Test.YtacgmadgkmcmoaaGreatDoorJl
namespace Go.Proofs.YtacgmadgkmcmoaaGreatDoor
open Go.RowKit
set_option linter.unusedVariables false
set_option linter.unusedSimpArgs false
set_option maxRecDepth 20000

theorem blow_E (p : Pw) {s : List UInt8} {a : Option (List UInt8)} {b : Option (List UInt8 × Nat)} (hE : p.E = d4 s a b) (hb : bF4 b) : ∃ b', p.blow.E = d4 s a b' ∧ bF4 b' := by
  unfold Pw.blow
  split
  · exact ⟨b, hE, hb⟩
  · obtain ⟨b', e, h⟩ := d4_crash (s := s) p.ks a b hb
    exact ⟨b', by show aCrash p.ks p.E = _; rw [hE, e], h⟩
/-- Whatever the second file is: the state's text, or none. -/
def aOk (t : List UInt8) (a : Option (List UInt8)) : Prop := a = none ∨ a = some t
theorem cut_write {q : Nat} {t : St} {s : List UInt8} {a : Option (List UInt8)} {b : Option (List UInt8 × Nat)} (fu : Int) (ks : List Int) (hf : t.fr = 4) (hg : t.good = true) (ha : aOk (ktxt t) a) (hb : bF4 b) (hs : s.length ≤ 522) (hq : 10000 ≤ q) :
    ∃ a' b', aOk (ktxt t) a' ∧ bF4 b' ∧ (kwP q t ⟨fu, ks, 0, false, d4 s a b⟩).blow.E = d4 s a' b' ∧ (kwE q t ⟨fu, ks, 0, false, d4 s a b⟩ = 0 → a' = some (ktxt t)) := by
  rcases ha with rfl | rfl
  · have hno : ¬ cN t.fr ∈ (⟨fu, ks, 0, false, d4 s none b⟩ : Pw).names := by
      rw [hf]
      intro h
      exact (d4_names (s := s) none b).2.1.1 h rfl
    obtain ⟨e1, e2⟩ := kw_go (q := q) hg hno
    rw [hf] at e1 e2
    rw [e1, e2]
    obtain ⟨c, hc, (⟨h1, h2, h3⟩ | ⟨h1, h2, (h3 | h3)⟩)⟩ := left4 (q := q) (s := s) (t := ktxt t) (p := ⟨fu, ks, 0, false, d4 s none b⟩) rfl rfl hs hb (ktxt_len t hg) hq
    · obtain ⟨c', e, hc'⟩ := blow_E _ h3 hc
      exact ⟨_, c', .inr rfl, hc', e, fun _ => rfl⟩
    · obtain ⟨c', e, hc'⟩ := blow_E _ h3 hc
      exact ⟨_, c', .inl rfl, hc', e, fun h => by rw [h1] at h; cases h⟩
    · obtain ⟨c', e, hc'⟩ := blow_E _ h3 hc
      exact ⟨_, c', .inr rfl, hc', e, fun _ => rfl⟩
  · have hin : cN t.fr ∈ (⟨fu, ks, 0, false, d4 s (some (ktxt t)) b⟩ : Pw).names := by
      rw [hf]
      exact (d4_names (s := s) (some (ktxt t)) b).2.1.2 (by simp)
    obtain ⟨e1, e2⟩ := kw_there (q := q) hg hin
    rw [e1, e2]
    obtain ⟨c', e, hc'⟩ := blow_E (s := s) (a := some (ktxt t)) (⟨fu, ks, 0, false, d4 s (some (ktxt t)) b⟩ : Pw) rfl hb
    exact ⟨_, c', .inr rfl, hc', e, fun _ => rfl⟩
theorem cut_same {q : Nat} {t : St} {s : List UInt8} (fu : Int) (ks : List Int) (hf : t.fr = 3) (hg : t.good = true) :
    kwE q t ⟨fu, ks, 0, false, d4 s none none⟩ = 0 ∧ kwP q t ⟨fu, ks, 0, false, d4 s none none⟩ = ⟨fu, ks, 0, false, d4 s none none⟩ ∧ (⟨fu, ks, 0, false, d4 s none none⟩ : Pw).blow.E = d4 s none none := by
  have hin : cN t.fr ∈ (⟨fu, ks, 0, false, d4 s none none⟩ : Pw).names := by
    rw [hf]
    exact (d4_names (s := s) none none).2.2
  obtain ⟨e1, e2⟩ := kw_there (q := q) hg hin
  refine ⟨e1, e2, ?_⟩
  show aCrash ks (d4 s none none) = _
  show [tearE _ _] = _
  rw [ktear_full]; rfl
/-- The last Write, the power staying on. -/
theorem last_write {q : Nat} {t : St} {s : List UInt8} {a : Option (List UInt8)} {b : Option (List UInt8 × Nat)} (hf : t.fr = 4) (hg : t.good = true) (ha : aOk (ktxt t) a) (hb : bF4 b) (hs : s.length ≤ 522) (hq : 10000 ≤ q) :
    ∃ p' c, kwE q t (pon 0 (d4 s a b)) = 0 ∧ kwP q t (pon 0 (d4 s a b)) = p' ∧ p'.off = false ∧ p'.E = d4 s (some (ktxt t)) c := by
  rcases ha with rfl | rfl
  · have hno : ¬ cN t.fr ∈ (pon 0 (d4 s none b)).names := by
      rw [hf]
      intro h
      exact (d4_names (s := s) none b).2.1.1 h rfl
    obtain ⟨e1, e2⟩ := kw_go (q := q) hg hno
    rw [hf] at e1 e2
    have h0 := left4_on (q := q) (s := s) (t := ktxt t) (p := pon 0 (d4 s none b)) rfl (show (-1 : Int) < 0 by decide) rfl hs hb (ktxt_len t hg) hq
    obtain ⟨c, hc, (⟨h1, h2, h3⟩ | ⟨h1, h2, h3⟩)⟩ := left4 (q := q) (s := s) (t := ktxt t) (p := pon 0 (d4 s none b)) rfl rfl hs hb (ktxt_len t hg) hq
    · exact ⟨_, c, by rw [e1]; exact h0, e2, h2, h3⟩
    · rw [h0] at h1; cases h1
  · have hin : cN t.fr ∈ (pon 0 (d4 s (some (ktxt t)) b)).names := by
      rw [hf]
      exact (d4_names (s := s) (some (ktxt t)) b).2.1.2 (by simp)
    obtain ⟨e1, e2⟩ := kw_there (q := q) hg hin
    exact ⟨_, b, e1, e2, rfl, rfl⟩
/-- What loads. -/
theorem d4_kl3 {s : St} {p : Pw} {a : Option (List UInt8)} {b : Option (List UInt8 × Nat)} (ho : p.off = false) (hE : p.E = d4 (ktxt s) a b) (hf : s.fr = 3) (hg : s.good = true) (hs : s.fit) : klE p 3 = 0 ∧ klS p 3 = s := by
  obtain ⟨h1, h2⟩ := kl_of (p := p) (f := 3) (c := ktxt s) (k := (ktxt s).length) ho (by rw [hE]; exact d4_find3 a b)
  have h3 : kld (ktxt s) 3 = (0, s) := by have := kld_own hs hg; rw [hf] at this; exact this
  rw [h3] at h1 h2
  exact ⟨h1, h2⟩
theorem d4_kl4 {s : List UInt8} {t : St} {p : Pw} {b : Option (List UInt8 × Nat)} (ho : p.off = false) (hE : p.E = d4 s (some (ktxt t)) b) (hf : t.fr = 4) (hg : t.good = true) (ht : t.fit) : klE p 4 = 0 ∧ klS p 4 = t := by
  obtain ⟨h1, h2⟩ := kl_of (p := p) (f := 4) (c := ktxt t) (k := (ktxt t).length) ho (by rw [hE]; exact d4_find4 (ktxt t) b)
  have h3 : kld (ktxt t) 4 = (0, t) := by have := kld_own ht hg; rw [hf] at this; exact this
  rw [h3] at h1 h2
  exact ⟨h1, h2⟩
theorem d4_kl40 {s : List UInt8} {p : Pw} {b : Option (List UInt8 × Nat)} (ho : p.off = false) (hE : p.E = d4 s none b) : klE p 4 = 5 ∧ klS p 4 = .zero :=
  kl_no (p := p) (f := 4) ho (by rw [hE]; exact d4_find40 b)
end Go.Proofs.YtacgmadgkmcmoaaGreatDoor
