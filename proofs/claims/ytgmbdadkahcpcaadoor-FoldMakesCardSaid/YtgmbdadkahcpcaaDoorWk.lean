/- The contracts of both histories in the words of the plain one (Wa). Nothing is assumed beyond each contract's own bounds. -/
import Derived.Test.YtgmbdadkahcpcaaDoorWj
namespace Go.Proofs.YtgmbdadkahcpcaaDoor
open Go.RowKit
set_option linter.unusedVariables false
set_option linter.unusedSimpArgs false
set_option maxRecDepth 20000
/-- The program's history in block g. -/
def PH (w : World) (g : Nat) (h : Hm) : Prop := ∃ R, R.length = 256 ∧ PHc w g R h.f h.cnt h.m ∧ ∀ k (hk : k < h.l.length), R[(h.f + k) % 256]? = some (h.l[k]'hk)
theorem PH.below {w w' : World} {g B : Nat} {h : Hm} (k : PH w g h) (hb : Below B w w') (hg : g < B) : PH w' g h := by
  obtain ⟨R, h1, h2, h3⟩ := k
  exact ⟨R, h1, h2.below hb hg, h3⟩
theorem PH.grown {w w' : World} {g : Nat} {r : Option Nat} {h : Hm} (k : PH w g h) (hb : w.grownBy w' r) (hg : some g ≠ r) : PH w' g h := by
  obtain ⟨R, h1, h2, h3⟩ := k
  exact ⟨R, h1, h2.grown hb hg, h3⟩
theorem PH.lt {w : World} {g : Nat} {h : Hm} (k : PH w g h) : g < w.heap.size := by
  obtain ⟨R, h1, h2, h3⟩ := k
  exact h2.lt
theorem RH.below {w w' : World} {bs : List Nat} {r F M B : Nat} {l : List (Nat × Nat)} (k : RH w bs r F M l) (hb : Below w.heap.size w w') : RH w' bs r F M l := by
  obtain ⟨lo, cap, h1, h2, h3, h4⟩ := k
  exact ⟨lo, cap, h1.below hb h1.lt, h2.to hb, h3, h4⟩
theorem RH.turn {w w' : World} {bs : List Nat} {r F M g : Nat} {l : List (Nat × Nat)} (k : RH w bs r F M l) (hg : g ∈ bs) (hr : r ≠ g) (hb : w.grownBy w' (some g)) : RH w' bs r F M l := by
  obtain ⟨lo, cap, h1, h2, h3, h4⟩ := k
  exact ⟨lo, cap, h1.grown hb (fun e => hr (Option.some.inj e)), h2.turn hg hb, h3, h4⟩
theorem RH.lt {w : World} {bs : List Nat} {r F M : Nat} {l : List (Nat × Nat)} (k : RH w bs r F M l) : r < w.heap.size := by
  obtain ⟨lo, cap, h1, h2, h3, h4⟩ := k
  exact h1.lt
theorem code_cast (h : Hm) (z : Nat × Nat) : h.code z = 0 ∨ h.code z = 2 ∨ h.code z = 7 := by
  unfold Hm.code; split
  · exact .inr (.inl rfl)
  · split
    · exact .inr (.inr rfl)
    · exact .inl rfl
theorem code_bad {h : Hm} {p q : Nat} (hb : 63 < p ∨ 63 < q) : h.code (p, q) = 2 := if_pos hb
theorem code_full {h : Hm} {p q : Nat} (hb : ¬ (63 < p ∨ 63 < q)) (hc : h.l.length = h.m ∨ h.cnt = 18446744073709551615) : h.code (p, q) = 7 := by unfold Hm.code; rw [if_neg hb, if_pos hc]
theorem code_ok {h : Hm} {p q : Nat} (hb : ¬ (63 < p ∨ 63 < q)) (hc : ¬ (h.l.length = h.m ∨ h.cnt = 18446744073709551615)) : h.code (p, q) = 0 := by unfold Hm.code; rw [if_neg hb, if_neg hc]
theorem add_ok {h : Hm} {z : Nat × Nat} (hc : h.code z = 0) : h.add z = { h with l := h.l ++ [z] } := if_pos hc
theorem add_no {h : Hm} {z : Nat × Nat} (hc : h.code z ≠ 0) : h.add z = h := if_neg hc
section
variable {w : World} {g r : Nat} {bs : List Nat} {h : Hm}
theorem pfrom_c (hP : PH w g h) : Calls Tryd.prog 16 #[.pointer (some ⟨g, 0, none⟩)] w fun E w' => E = .returned (.int .u64 (h.f : Int)) ∧ w = w' := by
  obtain ⟨R, h1, h2, h3⟩ := hP
  exact from_c h1 h2
theorem pcount_c (hP : PH w g h) : Calls Tryd.prog 17 #[.pointer (some ⟨g, 0, none⟩)] w fun E w' => E = .returned (.int .u64 (h.cnt : Int)) ∧ w = w' := by
  obtain ⟨R, h1, h2, h3⟩ := hP
  exact count_c h1 h2
theorem pnew_c (x : Nat) (m : Int) (w : World) (hm : 1 ≤ m ∧ m ≤ 256) : Calls Tryd.prog 13 #[.int .u64 (x : Int), .int .i64 m] w fun E w' => ∃ g, E = .returned (.pointer (some ⟨g, 0, none⟩)) ∧ w.heap.size = g ∧ g < w'.heap.size ∧ PH w' g ⟨x, m.toNat, []⟩ ∧ Below w.heap.size w w' :=
  (new_c x m w hm).mono fun E w' ⟨g, R, e, h1, h2, h3, h4, h5⟩ => ⟨g, e, h2, h3, ⟨R, h1, h4, fun k hk => by simp at hk⟩, h5⟩
theorem padd_c (hP : PH w g h) (k : h.ok) (p q : Nat) (hp : p < 256) (hq : q < 256) : Calls Tryd.prog 19 #[.pointer (some ⟨g, 0, none⟩), .agg #[.int .u8 (p : Int), .int .u8 (q : Int)]] w fun E w' => E = .returned (.int .i64 (h.code (p, q) : Int)) ∧ PH w' g (h.add (p, q)) ∧ w.grownBy w' (some g) := by
  have hPP := hP
  obtain ⟨R, h1, h2, h3⟩ := hP
  have hm := k.m1
  by_cases hb : 63 < p ∨ 63 < q
  · rw [code_bad hb, add_no (by rw [code_bad hb]; decide)]
    exact (addBad_c h1 h2 (by omega) hp hq hb).mono fun E w' ⟨e, hb⟩ => ⟨e, hPP.below hb h2.lt, grown_of_below hb⟩
  · have hcl : h.cnt - h.f = h.l.length := by unfold Hm.cnt; omega
    by_cases hc : h.l.length = h.m ∨ h.cnt = 18446744073709551615
    · rw [code_full hb hc, add_no (by rw [code_full hb hc]; decide)]
      exact (addFull_c h1 h2 (by omega) (by unfold Hm.cnt; omega) k.cnt (by omega) (by omega) (by rw [hcl]; exact hc)).mono fun E w' ⟨e, hb⟩ => ⟨e, hPP.below hb h2.lt, grown_of_below hb⟩
    · rw [add_ok (code_ok hb hc), code_ok hb hc]
      have hcn := k.cnt
      refine (addOk_c h1 h2 (by omega) (by unfold Hm.cnt; omega) (by omega) (by omega) (by rw [hcl]; exact fun e => hc (.inl e)) (by omega)).mono fun E w' ⟨e, h4, h5⟩ => ⟨e, ⟨R.set (h.cnt % 256) (p, q), by rw [List.length_set]; exact h1, ?_, fun j hj => ?_⟩, h5⟩
      · have e1 : (⟨h.f, h.m, h.l ++ [(p, q)]⟩ : Hm).cnt = h.cnt + 1 := by simp [Hm.cnt]; omega
        rw [e1]; exact h4
      · simp only [List.length_append, List.length_cons, List.length_nil] at hj
        have hlm := k.len
        have hm2 := k.m2
        by_cases he : j = h.l.length
        · subst he
          rw [show h.cnt % 256 = (h.f + h.l.length) % 256 from rfl, List.getElem?_set_self (by rw [h1]; exact Nat.mod_lt _ (by decide))]
          simp
        · have hj2 : j < h.l.length := by omega
          have hlt : ¬ (h.l.length = h.m) := fun e => hc (.inl e)
          have hne : (h.f + h.l.length) % 256 ≠ (h.f + j) % 256 := by omega
          show (R.set ((h.f + h.l.length) % 256) (p, q))[(h.f + j) % 256]? = _
          rw [List.getElem?_set_ne hne, h3 j hj2]
          simp [List.getElem_append_left hj2]
theorem pat_c (hP : PH w g h) (k : h.ok) (x : Nat) : Calls Tryd.prog 20 #[.pointer (some ⟨g, 0, none⟩), .int .u64 (x : Int)] w fun E w' => E = .returned (.tuple #[.agg #[.int .u8 ((h.at_ x).1 : Int), .int .u8 ((h.at_ x).2 : Int)], .bool (h.has x)]) ∧ Below w.heap.size w w' := by
  obtain ⟨R, h1, h2, h3⟩ := hP
  by_cases hx : h.f ≤ x ∧ x < h.cnt
  · obtain ⟨hk, e⟩ := Hm.at_get hx.1 hx.2
    rw [Hm.has_yes hx.1 hx.2, e]
    refine atYes_c h1 h2 x hx ?_
    rw [← h3 (x - h.f) hk, show h.f + (x - h.f) = x by omega]
  · rw [Hm.has_no hx, Hm.at_no hx]
    exact atNo_c h1 h2 x hx
theorem pslice_c (hP : PH w g h) (k : h.ok) (x : Nat) (n : Int) (hn1 : -9223372036854775808 ≤ n) (hn2 : n < 9223372036854775808) : Calls Tryd.prog 21 #[.pointer (some ⟨g, 0, none⟩), .int .u64 (x : Int), .int .i64 n] w fun E w' => ∃ ao cap, E = .returned (.slice ao (h.cut x n).length cap) ∧ Prr w.heap.size w' [] ao (h.cut x n).length cap (h.cut x n) ∧ Below w.heap.size w w' := by
  obtain ⟨R, h1, h2, h3⟩ := hP
  by_cases hx : h.f ≤ x ∧ x < h.cnt
  · have hlm := k.len
    have hm2 := k.m2
    have hc : h.cut x n = rcut R x (min n.toNat (h.cnt - x)) := by
      unfold Hm.cut
      rw [if_pos ⟨hx.1, by omega⟩]
      have hcl : h.cnt - x = h.l.length - (x - h.f) := by unfold Hm.cnt at hx ⊢; omega
      apply List.ext_getElem
      · rw [rcut_len, List.length_take, List.length_drop, hcl]
      · intro i hi1 hi2
        rw [List.length_take, List.length_drop] at hi1
        rw [List.getElem_take, List.getElem_drop]
        simp only [rcut, List.getElem_map, List.getElem_range, List.getD]
        have := h3 (x - h.f + i) (by omega)
        rw [show h.f + (x - h.f + i) = x + i by omega] at this
        rw [this]
        rfl
    rw [hc, rcut_len]
    exact sliceYes_c h1 h2 x n n.toNat (by omega) hn1 hn2 hx k.cnt (by unfold Hm.cnt at hx ⊢; omega)
  · have hc : h.cut x n = [] := by
      unfold Hm.cut
      split
      · rw [List.drop_of_length_le (by unfold Hm.cnt at *; omega)]; simp
      · rfl
    rw [hc]
    exact (sliceNo_c h1 h2 x n hx).mono fun E w' ⟨e, hw⟩ => ⟨none, 0, e, Prr.none _ _ _ (fun b hb => by cases hb), by rw [← hw]; exact Below.refl _ _⟩
theorem pdrop_c (hP : PH w g h) (k : h.ok) (x : Nat) (hx : x < 18446744073709551616) : Calls Tryd.prog 22 #[.pointer (some ⟨g, 0, none⟩), .int .u64 (x : Int)] w fun E w' => E = .returned (.tuple #[]) ∧ PH w' g (h.drop x) ∧ w.grownBy w' (some g) := by
  obtain ⟨R, h1, h2, h3⟩ := hP
  have hcn := k.cnt
  refine (drop_c h1 h2 x hx (by unfold Hm.cnt at hcn; omega) hcn).mono fun E w' ⟨e, h4, h5⟩ => ⟨e, ⟨R, h1, ?_, fun j hj => ?_⟩, h5⟩
  · have e1 : (h.drop x).f = max h.f (min x h.cnt) := by simp only [Hm.drop, Hm.cnt]; omega
    rw [Hm.drop_cnt, e1]; exact h4
  · simp only [Hm.drop, List.length_drop] at hj
    have := h3 (x - h.f + j) (by omega)
    simp only [Hm.drop, List.getElem_drop]
    rw [show min (x - h.f) h.l.length = x - h.f by omega, ← this, Nat.add_assoc]
theorem radd_c (hR : RH w bs r h.f h.m h.l) (hbs : ∀ b ∈ bs, b < w.heap.size) (hr : r ∈ bs) (k : h.ok) (p q : Nat) (hp : p < 256) (hq : q < 256) : Calls Tryd.prog 29 #[.pointer (some ⟨r, 0, none⟩), .agg #[.int .u8 (p : Int), .int .u8 (q : Int)]] w fun E w' => E = .returned (.int .i64 (h.code (p, q) : Int)) ∧ RH w' bs r (h.add (p, q)).f (h.add (p, q)).m (h.add (p, q)).l ∧ w.grownBy w' (some r) := by
  have hRR := hR
  obtain ⟨lo, cap, h1, h2, h3, h4⟩ := hR
  have hlm := k.len
  have hm1 := k.m1
  have hm2 := k.m2
  have hcn := k.cnt
  by_cases hb : 63 < p ∨ 63 < q
  · rw [code_bad hb, add_no (by rw [code_bad hb]; decide)]
    exact (raddBad_c h1 hp hq hb).mono fun E w' ⟨e, hb⟩ => ⟨e, hRR.below hb (B := 0), grown_of_below hb⟩
  · by_cases hc : h.l.length = h.m ∨ h.cnt = 18446744073709551615
    · rw [code_full hb hc, add_no (by rw [code_full hb hc]; decide)]
      exact (raddFull_c h1 (by omega) (by omega) hcn (by omega) hc).mono fun E w' ⟨e, hb⟩ => ⟨e, hRR.below hb (B := 0), grown_of_below hb⟩
    · rw [add_ok (code_ok hb hc), code_ok hb hc]
      unfold Hm.cnt at hc hcn
      refine (raddOk_c h1 h2.pis h3 (by omega) (by omega) (by omega) (by omega) (by omega) (by omega)).mono fun E w' ⟨b, cap', e, h5, h6, h7, h9, h8⟩ => ⟨e, ⟨some ⟨b, 0, none⟩, cap', h5, ⟨h6, fun a ea => ?_⟩, (by intro e; cases e), h9⟩, h8⟩
      cases ea
      intro hm
      have := hbs b hm
      omega
theorem rat_c (hR : RH w bs r h.f h.m h.l) (k : h.ok) (x : Nat) : Calls Tryd.prog 30 #[.pointer (some ⟨r, 0, none⟩), .int .u64 (x : Int)] w fun E w' => E = .returned (.tuple #[.agg #[.int .u8 ((h.at_ x).1 : Int), .int .u8 ((h.at_ x).2 : Int)], .bool (h.has x)]) ∧ Below w.heap.size w w' := by
  obtain ⟨lo, cap, h1, h2, h3, h4⟩ := hR
  have hlm := k.len
  have hm2 := k.m2
  by_cases hx : h.f ≤ x ∧ x < h.cnt
  · obtain ⟨hk, e⟩ := Hm.at_get hx.1 hx.2
    rw [Hm.has_yes hx.1 hx.2, e]
    exact ratYes_c h1 h2.pis k.cnt (by omega) x hx (List.getElem?_eq_getElem hk)
  · rw [Hm.has_no hx, Hm.at_no hx]
    exact ratNo_c h1 k.cnt x hx
theorem rslice_c (hR : RH w bs r h.f h.m h.l) (k : h.ok) (x : Nat) (n : Int) : Calls Tryd.prog 32 #[.pointer (some ⟨r, 0, none⟩), .int .u64 (x : Int), .int .i64 n] w fun E w' => ∃ ao cap, E = .returned (.slice ao (h.cut x n).length cap) ∧ Prr w.heap.size w' [] ao (h.cut x n).length cap (h.cut x n) ∧ Below w.heap.size w w' := by
  obtain ⟨lo, cap, h1, h2, h3, h4⟩ := hR
  have hlm := k.len
  have hm2 := k.m2
  unfold Hm.cut
  by_cases hx : h.f ≤ x ∧ x ≤ h.cnt
  · rw [if_pos hx]
    exact rsliceYes_c h1 h2.pis k.cnt (by omega) x n n.toNat (by omega) hx
  · rw [if_neg hx]
    exact (rsliceNo_c h1 k.cnt x n hx).mono fun E w' ⟨e, hw⟩ => ⟨none, 0, e, Prr.none _ _ _ (fun b hb => by cases hb), hw⟩
theorem rcnt_c (hR : RH w bs r h.f h.m h.l) (k : h.ok) : Calls Tryd.prog 18 #[.pointer (some ⟨r, 0, none⟩)] w fun E w' => E = .returned (.int .u64 (h.cnt : Int)) ∧ Below w.heap.size w w' := by
  obtain ⟨lo, cap, h1, h2, h3, h4⟩ := hR
  exact (rcount_c r h.f h.m lo h.l.length cap w h1 k.cnt).mono fun E w' ⟨e, j, hw⟩ => ⟨e, by rw [hw]; exact below_drewN (Below.refl _ _) j⟩
end
end Go.Proofs.YtgmbdadkahcpcaaDoor
