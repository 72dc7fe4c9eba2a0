/- Texts of the walk. -/
import Derived.Test.YtgeaacabpnepmaaGreatDoorKc8
/- What was told, and the records that say so: bodies of segments, chains of them, and what is read of them. Nothing of the program. -/
namespace Go.Proofs.YtgeaacabpnepmaaGreatDoor
open Go.RowKit
set_option linter.unusedVariables false
set_option linter.unusedSimpArgs false
set_option maxRecDepth 20000

def sl {α : Type} (l : List α) (a b : Nat) : List α := (l.drop a).take (b - a)
theorem sl_nil {α : Type} (l : List α) (a : Nat) : sl l a a = [] := by simp [sl]
theorem sl_len {α : Type} {l : List α} {a b : Nat} (h : b ≤ l.length) : (sl l a b).length = b - a := by simp [sl]; omega
theorem sl_snoc {α : Type} {l : List α} {a b : Nat} {x : α} (h : l[b]? = some x) (hab : a ≤ b) : sl l a (b + 1) = sl l a b ++ [x] := by
  unfold sl
  rw [show b + 1 - a = (b - a) + 1 by omega, List.take_add_one, List.getElem?_drop, show a + (b - a) = b by omega, h]
  rfl
theorem sl_tail {α : Type} {l : List α} {a b : Nat} : (sl l a b).tail = sl l (a + 1) b := by
  unfold sl
  rw [← List.drop_one, List.drop_take, List.drop_drop]
  congr 1
theorem sl_cat {α : Type} {l : List α} {a b c : Nat} (h1 : a ≤ b) (h2 : b ≤ c) (hc : c ≤ l.length) : sl l a b ++ sl l b c = sl l a c := by
  unfold sl
  rw [show c - a = (b - a) + (c - b) by omega, List.take_add, List.drop_drop, show a + (b - a) = b by omega]
theorem sl_get {α : Type} {l : List α} {a b i : Nat} (h : i < b - a) : (sl l a b)[i]? = l[a + i]? := by
  unfold sl
  rw [List.getElem?_take, if_pos h, List.getElem?_drop]
def alls (P : List (Nat × Nat)) (O : List Nat) : List Nat := P.map Prod.fst ++ O
theorem alls_len (P : List (Nat × Nat)) (O : List Nat) : (alls P O).length = P.length + O.length := by simp [alls]
def Bd (U : List Nat) (P : List (Nat × Nat)) : Nat → Nat → List Rc → Nat → Nat → Prop
  | c, o, [], c', o' => c = c' ∧ o = o'
  | c, o, r :: l, c', o' => (∃ i, r = rO o i ∧ U[o]? = some i ∧ o < c + 12 ∧ Bd U P c (o + 1) l c' o') ∨ (∃ q : Nat × Nat, r = rS c q.1 q.2 ∧ P[c]? = some q ∧ c < o ∧ Bd U P (c + 1) o l c' o')
section
variable {U U' : List Nat} {P P' : List (Nat × Nat)} {c o c' o' c1 o1 : Nat} {l l' : List Rc}
theorem bd_le : ∀ {l : List Rc} {c o : Nat}, Bd U P c o l c' o' → c ≤ c' ∧ o ≤ o' ∧ l.length + c + o = c' + o' ∧ (c ≤ o → c' ≤ o') ∧ (o ≤ c + 12 → o' ≤ c' + 12)
  | [], c, o, ⟨h1, h2⟩ => by subst h1 h2; exact ⟨Nat.le_refl _, Nat.le_refl _, by simp, id, id⟩
  | r :: l, c, o, h => by
    rw [List.length_cons]
    rcases h with ⟨i, _, _, h1, h⟩ | ⟨q, _, _, h1, h⟩
    · obtain ⟨a1, a2, a3, a4, a5⟩ := bd_le h
      exact ⟨a1, by omega, by omega, fun h => a4 (by omega), fun h => a5 (by omega)⟩
    · obtain ⟨a1, a2, a3, a4, a5⟩ := bd_le h
      exact ⟨by omega, a2, by omega, fun h => a4 (by omega), fun h => a5 (by omega)⟩
theorem bd_app : ∀ {l : List Rc} {c o : Nat}, Bd U P c o l c1 o1 → Bd U P c1 o1 l' c' o' → Bd U P c o (l ++ l') c' o'
  | [], c, o, ⟨h1, h2⟩, h' => by subst h1 h2; exact h'
  | r :: l, c, o, h, h' => by
    rcases h with ⟨i, h1, h2, h3, h⟩ | ⟨q, h1, h2, h3, h⟩
    · exact .inl ⟨i, h1, h2, h3, bd_app h h'⟩
    · exact .inr ⟨q, h1, h2, h3, bd_app h h'⟩
theorem bd_take : ∀ {l : List Rc} {c o : Nat} (j : Nat), Bd U P c o l c' o' → ∃ c1 o1, Bd U P c o (l.take j) c1 o1 ∧ Bd U P c1 o1 (l.drop j) c' o'
  | [], c, o, j, h => ⟨c, o, by simp [Bd], by simpa using h⟩
  | r :: l, c, o, 0, h => ⟨c, o, by simp [Bd], h⟩
  | r :: l, c, o, j + 1, h => by
    rcases h with ⟨i, h1, h2, h3, h⟩ | ⟨q, h1, h2, h3, h⟩
    · obtain ⟨c1, o1, a1, a2⟩ := bd_take j h
      exact ⟨c1, o1, .inl ⟨i, h1, h2, h3, a1⟩, a2⟩
    · obtain ⟨c1, o1, a1, a2⟩ := bd_take j h
      exact ⟨c1, o1, .inr ⟨q, h1, h2, h3, a1⟩, a2⟩
theorem bd_det : ∀ {l : List Rc} {c o : Nat}, Bd U P c o l c1 o1 → Bd U P c o l c' o' → c1 = c' ∧ o1 = o'
  | [], c, o, ⟨h1, h2⟩, ⟨h3, h4⟩ => ⟨h1.symm.trans h3, h2.symm.trans h4⟩
  | r :: l, c, o, h, h' => by
    rcases h with ⟨i, h1, h2, h3, h⟩ | ⟨q, h1, h2, h3, h⟩ <;> rcases h' with ⟨i', k1, k2, k3, k⟩ | ⟨q', k1, k2, k3, k⟩
    · exact bd_det h k
    · rw [h1] at k1; have := congrArg Rc.k k1; cases this
    · rw [h1] at k1; have := congrArg Rc.k k1; cases this
    · exact bd_det h k
theorem pre_get {α : Type} {a b : List α} (h : a <+: b) {i : Nat} {x : α} (hx : a[i]? = some x) : b[i]? = some x := by
  obtain ⟨t, rfl⟩ := h
  rw [List.getElem?_append_left (List.getElem?_eq_some_iff.1 hx).1]; exact hx
theorem bd_mono (hu : U <+: U') (hp : P <+: P') : ∀ {l : List Rc} {c o : Nat}, Bd U P c o l c' o' → Bd U' P' c o l c' o'
  | [], c, o, h => h
  | r :: l, c, o, h => by
    rcases h with ⟨i, h1, h2, h3, h⟩ | ⟨q, h1, h2, h3, h⟩
    · exact .inl ⟨i, h1, pre_get hu h2, h3, bd_mono hu hp h⟩
    · exact .inr ⟨q, h1, pre_get hp h2, h3, bd_mono hu hp h⟩
theorem bd_less {n b : Nat} : ∀ {l : List Rc} {c o : Nat}, Bd U P c o l c' o' → c' ≤ n → o' ≤ b → Bd (U.take b) (P.take n) c o l c' o'
  | [], c, o, h, _, _ => h
  | r :: l, c, o, h, hn, hb => by
    rcases h with ⟨i, h1, h2, h3, h⟩ | ⟨q, h1, h2, h3, h⟩
    · have := bd_le h
      exact .inl ⟨i, h1, by rw [List.getElem?_take, if_pos (by omega)]; exact h2, h3, bd_less h hn hb⟩
    · have := bd_le h
      exact .inr ⟨q, h1, by rw [List.getElem?_take, if_pos (by omega)]; exact h2, h3, bd_less h hn hb⟩
def Fol (U : List Nat) (P : List (Nat × Nat)) : Prop := (∀ (c : Nat) (q : Nat × Nat), P[c]? = some q → U[c]? = some q.1 ∧ q.1 < 64 ∧ q.2 < 64) ∧ (∀ (c i : Nat), U[c]? = some i → i < 64) ∧ U.length ≤ 1000
theorem bd_goes {n : Nat} {h : Rc} (hF : Fol U P) (hy : h.y = 0) : ∀ {l : List Rc} {c o : Nat} {X : List Rc}, Bd U P c o l c' o' → (∀ f, c ≤ f → f < o → U[f]? = some (inp X f)) → c ≤ o →
    Goes n ⟨true, h, X, c, o⟩ l ∧ runS ⟨true, h, X, c, o⟩ l = ⟨true, h, X ++ l, c', o'⟩
  | [], c, o, X, ⟨h1, h2⟩, _, _ => by subst h1 h2; exact ⟨trivial, by simp [runS]⟩
  | r :: l, c, o, X, hb, hX, hco => by
    rcases hb with ⟨i, rfl, h2, h3, hb⟩ | ⟨q, rfl, h2, h3, hb⟩
    · have hu := (List.getElem?_eq_some_iff.1 h2).1
      have hul := hF.2.2
      have hi := hF.2.1 o i h2
      have hok := rO_ok (f := o) (i := i) (by omega) hi
      have hk : (rO o i).k = 1 := rfl
      have e0 : tkS n ⟨true, h, X, c, o⟩ (rO o i) = 0 := by
        unfold tkS
        rw [if_neg (by rw [hk]; decide), if_neg (show ¬ (true = false) by decide), if_pos hk]
        exact if_neg (by show ¬ (o ≠ o ∨ 12 ≤ o - c ∨ o = 18446744073709551615); omega)
      have e1 : adS ⟨true, h, X, c, o⟩ (rO o i) = ⟨true, h, X ++ [rO o i], c, o + 1⟩ := by
        unfold adS
        rw [if_neg (by rw [hk]; decide), if_pos hk]
      obtain ⟨g1, g2⟩ := bd_goes (n := n) hF hy (X := X ++ [rO o i]) hb (fun f f1 f2 => by
        rw [inp_snoc]
        by_cases hf : f = o
        · subst hf; rw [if_pos ⟨rfl, rfl⟩]; exact h2
        · rw [if_neg (fun k => hf k.2.symm)]; exact hX f f1 (by omega)) (by omega)
      refine ⟨⟨hok.1, hok.2, e0, by rw [e1]; exact g1⟩, ?_⟩
      rw [runS_cons, e1, g2, List.append_assoc]; rfl
    · have hq := hF.1 c q h2
      have hu := (List.getElem?_eq_some_iff.1 hq.1).1
      have hul := hF.2.2
      have hok := rS_ok (f := c) (a := q.1) (b := q.2) (by omega) hq.2.1 hq.2.2
      have hk : (rS c q.1 q.2).k = 2 := rfl
      have e0 : tkS n ⟨true, h, X, c, o⟩ (rS c q.1 q.2) = 0 := by
        unfold tkS
        rw [if_neg (by rw [hk]; decide), if_neg (show ¬ (true = false) by decide), if_neg (by rw [hk]; decide), if_neg (by show ¬ (c ≠ c ∨ o ≤ c); omega)]
        refine if_neg ?_
        have hs : side (rS c q.1 q.2) h.y = q.1 := by unfold side; rw [if_pos hy]; rfl
        have := hX c (Nat.le_refl _) h3
        rw [hq.1] at this
        show ¬ side (rS c q.1 q.2) h.y ≠ inp X c
        rw [hs, Option.some.inj this]
        exact fun h => h rfl
      have e1 : adS ⟨true, h, X, c, o⟩ (rS c q.1 q.2) = ⟨true, h, X ++ [rS c q.1 q.2], c + 1, o⟩ := by
        unfold adS
        rw [if_neg (by rw [hk]; decide), if_neg (by rw [hk]; decide)]
      obtain ⟨g1, g2⟩ := bd_goes (n := n) hF hy (X := X ++ [rS c q.1 q.2]) hb (fun f f1 f2 => by
        rw [inp_snoc, if_neg (fun k => by have := k.1; rw [hk] at this; cases this)]
        exact hX f (by omega) f2) (by omega)
      refine ⟨⟨hok.1, hok.2, e0, by rw [e1]; exact g1⟩, ?_⟩
      rw [runS_cons, e1, g2, List.append_assoc]; rfl
theorem bd_fold {fr : Nat} : ∀ {l : List Rc} {c o : Nat} {ps : List (Nat × Nat)}, Bd U P c o l c' o' → c ≤ o → l.foldl cnOne ⟨fr, c, sl U c o, ps⟩ = ⟨fr, c', sl U c' o', ps ++ sl P c c'⟩
  | [], c, o, ps, ⟨h1, h2⟩, _ => by subst h1 h2; simp [sl_nil]
  | r :: l, c, o, ps, hb, hco => by
    rcases hb with ⟨i, rfl, h2, h3, hb⟩ | ⟨q, rfl, h2, h3, hb⟩
    · have e : cnOne ⟨fr, c, sl U c o, ps⟩ (rO o i) = ⟨fr, c, sl U c (o + 1), ps⟩ := by
        unfold cnOne
        rw [if_pos (by rfl), sl_snoc h2 hco]; rfl
      rw [List.foldl_cons, e, bd_fold hb (by omega)]
    · have e : cnOne ⟨fr, c, sl U c o, ps⟩ (rS c q.1 q.2) = ⟨fr, c + 1, sl U (c + 1) o, ps ++ [q]⟩ := by
        unfold cnOne
        rw [if_neg (by show ¬ (2 : Int) = 1; decide)]
        simp only [sl_tail]
        rfl
      have hl := bd_le hb
      rw [List.foldl_cons, e, bd_fold hb (by omega)]
      congr 1
      rw [List.append_assoc, ← sl_cat (l := P) (a := c) (b := c + 1) (c := c') (by omega) hl.1 ?_]
      · rw [sl_snoc h2 (Nat.le_refl _), sl_nil]; rfl
      · rcases Nat.lt_or_ge P.length c' with h9 | h9
        · exfalso
          exact absurd h9 (by have := bd_pl hb (by have := (List.getElem?_eq_some_iff.1 h2).1; omega); omega)
        · exact h9
where
  bd_pl : ∀ {l : List Rc} {c o : Nat}, Bd U P c o l c' o' → c ≤ P.length → c' ≤ P.length
  | [], c, o, ⟨h1, _⟩, h => by omega
  | r :: l, c, o, hb, h => by
    rcases hb with ⟨i, _, _, _, hb⟩ | ⟨q, _, h2, _, hb⟩
    · exact bd_pl hb h
    · exact bd_pl hb (by have := (List.getElem?_eq_some_iff.1 h2).1; omega)
theorem bd_ends : ∀ {l : List Rc} {c o : Nat}, Bd U P c o l c' o' → c ≤ P.length → o ≤ U.length → c' ≤ P.length ∧ o' ≤ U.length
  | [], c, o, ⟨h1, h2⟩, h, k => ⟨by omega, by omega⟩
  | r :: l, c, o, hb, h, k => by
    rcases hb with ⟨i, _, h2, _, hb⟩ | ⟨q, _, h2, _, hb⟩
    · exact bd_ends hb h (by have := (List.getElem?_eq_some_iff.1 h2).1; omega)
    · exact bd_ends hb (by have := (List.getElem?_eq_some_iff.1 h2).1; omega) k
theorem bd_own : ∀ {O : List Nat} {c o : Nat}, (∀ i, i < O.length → U[o + i]? = O[i]?) → o + O.length ≤ c + 12 → Bd U P c o (oRecs o O) c (o + O.length)
  | [], c, o, _, _ => ⟨rfl, rfl⟩
  | i :: O, c, o, h, h2 => by
    rw [List.length_cons] at h2
    refine .inl ⟨i, rfl, ?_, by omega, ?_⟩
    · have := h 0 (by simp); simpa using this
    · have := bd_own (O := O) (c := c) (o := o + 1) (fun k hk => by have := h (k + 1) (by simpa using hk); rw [show o + 1 + k = o + (k + 1) by omega]; simpa using this) (by omega)
      rw [List.length_cons, show o + (O.length + 1) = o + 1 + O.length by omega]
      exact this
theorem bd_pairs : ∀ {Q : List (Nat × Nat)} {c : Nat}, (∀ i q, Q[i]? = some q → P[c + i]? = some q ∧ U[c + i]? = some q.1) → Bd U P c c (pRecs 0 c Q) (c + Q.length) (c + Q.length)
  | [], c, _ => ⟨rfl, rfl⟩
  | q :: Q, c, h => by
    obtain ⟨h1, h2⟩ := h 0 q rfl
    refine .inl ⟨q.1, rfl, by simpa using h2, by omega, .inr ⟨q, rfl, by simpa using h1, by omega, ?_⟩⟩
    have := bd_pairs (Q := Q) (c := c + 1) (fun i x hx => by have := h (i + 1) x (by simpa using hx); rw [show c + 1 + i = c + (i + 1) by omega]; exact this)
    rw [List.length_cons, show c + (Q.length + 1) = c + 1 + Q.length by omega]
    exact this
end
end Go.Proofs.YtgeaacabpnepmaaGreatDoor
/- Chains of segments on a disk: what an opening reads of them, wherever the last one is cut. Nothing of the program. -/
namespace Go.Proofs.YtgeaacabpnepmaaGreatDoor
open Go.RowKit
set_option linter.unusedVariables false
set_option linter.unusedSimpArgs false
set_option maxRecDepth 20000

theorem hd_ok {n f ep : Nat} (h1 : n < 18446744073709551616) (h2 : f < 18446744073709551616) (h3 : ep < 18446744073709551616) : (rHd n f ep 0).fit ∧ mayB (rHd n f ep 0) = true :=
  ⟨hd_fit h1 h2 h3 (by decide), by simp [mayB, lowB, rHd]⟩
theorem hd_okB {n f ep : Nat} (h1 : n < 18446744073709551616) (h2 : f < 18446744073709551616) (h3 : ep < 18446744073709551616) : okB (rHd n f ep 0) true = true := okB_iff.2 ⟨(hd_ok h1 h2 h3).2, rfl⟩
theorem nmc_hex (n : Nat) : ∀ b ∈ hex n, nmc b = true := fun b hb => by
  have h := hex_hx n
  unfold hx at h
  rw [List.all_eq_true] at h
  have := h b hb
  simp only [nmc, Bool.or_eq_true, Bool.and_eq_true, decide_eq_true_eq, beq_iff_eq]
  simp only [decide_eq_true_eq] at this
  unfold udg at this
  split at this
  · omega
  · split at this
    · omega
    · omega
theorem sgn_is (n : Nat) : isNm (sgn n) = true := by
  have h1 : (sgn n).length = 17 := sgn_len n
  unfold isNm
  rw [h1]
  simp only [Bool.and_eq_true, decide_eq_true_eq, List.all_eq_true]
  refine ⟨by decide, fun b hb => ?_⟩
  rcases List.mem_cons.1 hb with rfl | hb
  · decide
  · exact nmc_hex n b hb
theorem sgn_inj {a b : Nat} (ha : a < 18446744073709551616) (hb : b < 18446744073709551616) (h : sgn a = sgn b) : a = b := hex_inj ha hb (List.cons.inj h).2
theorem sgn_nM (n : Nat) : sgn n ≠ nM ∧ sgn n ≠ nN := by
  constructor <;> intro h
  · have := congrArg List.length h; rw [sgn_len] at this; simp [nM] at this
  · have := congrArg List.length h; rw [sgn_len] at this; simp [nN] at this
theorem ckn_sgn (a b : Nat) : ckn a ≠ sgn b ∧ ckn a ≠ nM ∧ ckn a ≠ nN := by
  refine ⟨fun h => ?_, fun h => ?_, fun h => ?_⟩
  · have := (List.cons.inj h).1; revert this; decide
  · have := (List.cons.inj h).1; revert this; decide
  · have := (List.cons.inj h).1; revert this; decide
section
variable {q ep : Nat} {U : List Nat} {P : List (Nat × Nat)} {p : Pw}
theorem p_read {n : List UInt8} {b : List UInt8} {s : Nat} (hp : p.off = false) (hg : DGood q p.E) (hf : fnd n p.E = some ⟨n, b, s⟩) : p.rd n = b ∧ p.rdc n = 0 := by
  have hm : isNm n = true := by have := hg.nms _ (fnd_mem hf); exact this
  unfold Pw.rd Pw.rdc rd eFind
  rw [hp, hm, hf]
  exact ⟨rfl, rfl⟩
theorem hd_goes {N F : Nat} (hN : N < 18446744073709551616) (hF : F < 18446744073709551616) (he : ep < 18446744073709551616) (hU : Fol U P) {l : List Rc} {c o : Nat} (hb : Bd U P F F l c o) :
    Goes N sg0 (rHd N F ep 0 :: l) ∧ runS sg0 (rHd N F ep 0 :: l) = ⟨true, rHd N F ep 0, l, c, o⟩ := by
  have ho := hd_ok (n := N) (f := F) (ep := ep) hN hF he
  have e1 : adS sg0 (rHd N F ep 0) = ⟨true, rHd N F ep 0, [], F, F⟩ := by unfold adS; rw [if_pos (show (rHd N F ep 0).k = 3 from rfl)]; rfl
  have e0 : tkS N sg0 (rHd N F ep 0) = 0 := by
    unfold tkS
    rw [if_pos (show (rHd N F ep 0).k = 3 from rfl)]
    exact if_neg (by rintro (h | h); cases h; exact h rfl)
  obtain ⟨g1, g2⟩ := bd_goes (n := N) (h := rHd N F ep 0) hU rfl (X := []) hb (fun f h1 h2 => by omega) (Nat.le_refl _)
  refine ⟨⟨ho.1, ho.2, e0, by rw [e1]; exact g1⟩, ?_⟩
  rw [runS_cons, e1, g2]; rfl
theorem seg_cut {N F su k j : Nat} (hN : N < 18446744073709551616) (hF : F < 18446744073709551616) (he : ep < 18446744073709551616) (hU : Fol U P) {l : List Rc} {c o : Nat} (hb : Bd U P F F l c o) (hp : p.off = false) (hg : DGood q p.E)
    (hf : fnd (sgn N) p.E = some ⟨sgn N, (bys (rHd N F ep 0 :: l)).take k, su⟩) (hj : (bys (rHd N F ep 0 :: l.take j)).length ≤ k) (hk : k ≤ (bys (rHd N F ep 0 :: l)).length) (hjl : j ≤ l.length) :
    p.rdc (sgn N) = 0 ∧ ∃ m, j ≤ m ∧ m ≤ l.length ∧ (segS p N).h = rHd N F ep 0 ∧ (segS p N).l = l.take m ∧ (k = (bys (rHd N F ep 0 :: l.take j)).length → m = j) := by
  obtain ⟨r1, r2⟩ := p_read hp hg hf
  refine ⟨r2, ?_⟩
  obtain ⟨hG, _⟩ := hd_goes (N := N) hN hF he hU hb
  obtain ⟨w1, w2, w3⟩ := whole_spec (rHd N F ep 0 :: l) k
  generalize hm : whole (rHd N F ep 0 :: l) k = m at w1 w2 w3
  have tk : ∀ i, bys ((rHd N F ep 0 :: l).take (i + 1)) = bys (rHd N F ep 0 :: l.take i) := fun i => by rw [List.take_succ_cons]
  have hjm : j + 1 ≤ m := by
    rcases Nat.lt_or_ge m (j + 1) with h | h
    · have h1 := w3 (by simp only [List.length_cons]; omega)
      have h2 := bys_take_le (l := rHd N F ep 0 :: l) (i := m + 1) (j := j + 1) h
      rw [tk j] at h2
      omega
    · exact h
  obtain ⟨m, rfl⟩ : ∃ i, m = i + 1 := ⟨m - 1, by omega⟩
  have e := scn_begin hG w1 w2 w3 hk
  simp only [List.length_cons] at w1
  obtain ⟨c1, o1, b1, _⟩ := bd_take m hb
  obtain ⟨_, e2⟩ := hd_goes (N := N) hN hF he hU b1
  have es : segS p N = ⟨true, rHd N F ep 0, l.take m, c1, o1⟩ := by
    unfold segS
    rw [r1, e, List.take_succ_cons, e2]
  refine ⟨m, by omega, by omega, by rw [es], by rw [es], fun hkj => ?_⟩
  rcases Nat.lt_or_ge j m with h | h
  · exfalso
    have h2 := bys_take_le (l := rHd N F ep 0 :: l) (i := j + 2) (j := m + 1) (by omega)
    have h4 : j < l.length := by omega
    rw [tk, tk] at h2
    rw [tk m] at w2
    have h5 : bys (rHd N F ep 0 :: l.take (j + 1)) = bys (rHd N F ep 0 :: l.take j) ++ byR (l[j]'h4) := by
      rw [List.take_succ_eq_append_getElem h4, ← List.cons_append, bys_app, bys_one]
    rw [h5, List.length_append] at h2
    have := byR_lo (l[j]'h4)
    omega
  · omega
def Chn (U : List Nat) (P : List (Nat × Nat)) (ep : Nat) (E : List Ent) (L : Nat → Nat → Prop) : List (Nat × Nat) → Prop
  | [] => False
  | [s] => L s.1 s.2
  | s :: t :: r => (∃ l o, fnd (sgn s.1) E = some ⟨sgn s.1, bys (rHd s.1 s.2 ep 0 :: l), (bys (rHd s.1 s.2 ep 0 :: l)).length⟩ ∧ Bd U P s.2 s.2 l t.2 o) ∧ Chn U P ep E L (t :: r)
def LOff (U : List Nat) (P : List (Nat × Nat)) (ep : Nat) (E : List Ent) (s o : Nat) (N F : Nat) : Prop :=
  ∃ l su k j c' o' c1 o1, fnd (sgn N) E = some ⟨sgn N, (bys (rHd N F ep 0 :: l)).take k, su⟩ ∧ Bd U P F F l c' o' ∧ Bd U P F F (l.take j) c1 o1 ∧ j ≤ l.length ∧ s ≤ c1 ∧ o ≤ o1 ∧ (bys (rHd N F ep 0 :: l.take j)).length ≤ su ∧ su ≤ k ∧ k ≤ (bys (rHd N F ep 0 :: l)).length
def LOn (U : List Nat) (P : List (Nat × Nat)) (ep : Nat) (E : List Ent) (s o : Nat) (N F : Nat) : Prop :=
  ∃ l su j, fnd (sgn N) E = some ⟨sgn N, bys (rHd N F ep 0 :: l), su⟩ ∧ Bd U P F F l P.length U.length ∧ Bd U P F F (l.take j) s o ∧ j ≤ l.length ∧ su = (bys (rHd N F ep 0 :: l.take j)).length
theorem bys_pre_le (r : Rc) (l : List Rc) (j : Nat) : (bys (r :: l.take j)).length ≤ (bys (r :: l)).length := by
  have := bys_take_all (r :: l) (j + 1)
  rwa [List.take_succ_cons] at this
theorem lon_off {E : List Ent} {s o N F : Nat} (h : LOn U P ep E s o N F) : LOff U P ep E s o N F := by
  obtain ⟨l, su, j, h1, h2, h3, h4, rfl⟩ := h
  exact ⟨l, _, _, j, _, _, _, _, by rw [List.take_length]; exact h1, h2, h3, h4, Nat.le_refl _, Nat.le_refl _, Nat.le_refl _, bys_pre_le _ _ _, Nat.le_refl _⟩
theorem chn_imp {E : List Ent} {L L' : Nat → Nat → Prop} : ∀ {sg : List (Nat × Nat)}, Chn U P ep E L sg → (∀ s, sg.getLast? = some s → L s.1 s.2 → L' s.1 s.2) → Chn U P ep E L' sg
  | [], h, _ => h
  | [s], h, k => k s rfl h
  | s :: t :: r, h, k => ⟨h.1, chn_imp (sg := t :: r) h.2 fun x hx => k x (by rw [List.getLast?_cons_cons]; exact hx)⟩
theorem chn_turn {E E' : List Ent} {U' : List Nat} {P' : List (Nat × Nat)} {L L' : Nat → Nat → Prop} (hu : U <+: U') (hp : P <+: P') : ∀ {sg : List (Nat × Nat)}, Chn U P ep E L sg → (∀ s ∈ sg.dropLast, fnd (sgn s.1) E' = fnd (sgn s.1) E) → (∀ s, sg.getLast? = some s → L s.1 s.2 → L' s.1 s.2) → Chn U' P' ep E' L' sg
  | [], h, _, _ => h
  | [s], h, _, k => k s rfl h
  | s :: t :: r, ⟨⟨l, o, h1, h2⟩, h3⟩, e, k =>
    ⟨⟨l, o, by rw [e s (by simp)]; exact h1, bd_mono hu hp h2⟩, chn_turn hu hp (sg := t :: r) h3 (fun x hx => e x (by rw [List.dropLast_cons_cons]; exact List.mem_cons_of_mem _ hx)) fun x hx => k x (by rw [List.getLast?_cons_cons]; exact hx)⟩
theorem chn_drop {E : List Ent} {L : Nat → Nat → Prop} (b : Nat) : ∀ {sg : List (Nat × Nat)}, Chn U P ep E L sg → Chn U P ep E L (dropS b sg)
  | [], h => h
  | [s], h => h
  | s :: t :: r, h => by
    unfold dropS
    split
    · exact chn_drop b (sg := t :: r) h.2
    · exact h
set_option maxHeartbeats 2000000 in
theorem chn_read {s o : Nat} (he : ep < 18446744073709551616) (hU : Fol U P) (hp : p.off = false) (hg : DGood q p.E) (r : List (Nat × Nat)) : ∀ (N F fr : Nat) (ah : List Nat) (ps : List (Nat × Nat)), Chn U P ep p.E (LOff U P ep p.E s o) ((N, F) :: r) → sgFit ((N, F) :: r) → F ≤ P.length → F ≤ U.length →
    ∃ n b, cnRd p false ⟨fr, F, ah, ps⟩ true ((N, F) :: r) = (0, ⟨fr, n, sl U n b, ps ++ sl P F n⟩) ∧ s ≤ n ∧ o ≤ b ∧ n ≤ b ∧ n ≤ P.length ∧ b ≤ U.length ∧ b ≤ n + 12 ∧ F ≤ n := by
  induction r with
  | nil =>
    intro N F fr ah ps h hf h1 h2
    obtain ⟨l, su, k, j, c', o', c1, o1, g1, g2, g3, g4, g5, g6, g7, g8, g9⟩ := h
    have hN := (hf (N, F) (by simp)).1
    have hF := (hf (N, F) (by simp)).2
    obtain ⟨a1, m, a2, a3, a4, a5, _⟩ := seg_cut hN hF he hU g2 hp hg g1 (Nat.le_trans g7 g8) g9 g4
    obtain ⟨n, b, b1, b2⟩ := bd_take m g2
    have hy : cnYes true (segS p N).h (cnAt false ⟨fr, F, ah, ps⟩ (segS p N).h.i) = true := by rw [a4]; simp [cnYes, cnAt, rHd]
    have ht : cnTurn p false ⟨fr, F, ah, ps⟩ true N = ⟨fr, n, sl U n b, ps ++ sl P F n⟩ := by
      unfold cnTurn
      rw [if_pos hy, a5]
      unfold cnAdd
      have := bd_fold (fr := fr) (ps := ps) b1 (Nat.le_refl F)
      rw [sl_nil] at this
      exact this
    obtain ⟨d1, d2⟩ : c1 ≤ n ∧ o1 ≤ b := by
      obtain ⟨c2, o2, x1, x2⟩ := bd_take j b1
      rw [List.take_take, Nat.min_eq_left a2] at x1
      obtain ⟨rfl, rfl⟩ := bd_det g3 x1
      have := bd_le x2
      exact ⟨this.1, this.2.1⟩
    have hends := bd_ends b1 h1 h2
    have hle := bd_le b1
    refine ⟨n, b, ?_, by omega, by omega, hle.2.2.2.1 (Nat.le_refl _), hends.1, hends.2, hle.2.2.2.2 (by omega), hle.1⟩
    rw [rd_cons _ _ _ _ _ _ a1, ht, rd_nil]
  | cons t r ih =>
    intro N F fr ah ps h hf h1 h2
    obtain ⟨⟨l, o2, g1, g2⟩, g3⟩ := h
    have hN := (hf (N, F) (by simp)).1
    have hF := (hf (N, F) (by simp)).2
    obtain ⟨a1, m, a2, a3, a4, a5, _⟩ := seg_cut (j := l.length) (k := (bys (rHd N F ep 0 :: l)).length) hN hF he hU g2 hp hg (by rw [List.take_length]; exact g1) (by rw [List.take_length]; exact Nat.le_refl _) (Nat.le_refl _) (Nat.le_refl _)
    obtain rfl : m = l.length := by omega
    rw [List.take_length] at a5
    have hy : cnYes true (segS p N).h (cnAt false ⟨fr, F, ah, ps⟩ (segS p N).h.i) = true := by rw [a4]; simp [cnYes, cnAt, rHd]
    have ht : cnTurn p false ⟨fr, F, ah, ps⟩ true N = ⟨fr, t.2, sl U t.2 o2, ps ++ sl P F t.2⟩ := by
      unfold cnTurn
      rw [if_pos hy, a5]
      unfold cnAdd
      have := bd_fold (fr := fr) (ps := ps) g2 (Nat.le_refl F)
      rw [sl_nil] at this
      exact this
    have hends := bd_ends g2 h1 h2
    have hle := bd_le g2
    have h3 := hle.2.2.2.1 (Nat.le_refl _)
    obtain ⟨n, b, x1, x2, x3, x4, x5, x6, x7, x8⟩ := ih t.1 t.2 fr (sl U t.2 o2) (ps ++ sl P F t.2) g3 (fun x hx => hf x (List.mem_cons_of_mem _ hx)) hends.1 (by omega)
    have hlast : F ≤ t.2 := hle.1
    refine ⟨n, b, ?_, x2, x3, x4, x5, x6, x7, Nat.le_trans hlast x8⟩
    rw [rd_cons _ _ _ _ _ _ a1, ht, hy, x1, List.append_assoc, sl_cat hlast x8 x5]
theorem chn_first {s o : Nat} (he : ep < 18446744073709551616) (hU : Fol U P) (hp : p.off = false) (hg : DGood q p.E) {sg : List (Nat × Nat)} {N F : Nat} {r : List (Nat × Nat)} (hs : sg = (N, F) :: r) (h : Chn U P ep p.E (LOff U P ep p.E s o) sg) (hf : sgFit sg) (h1 : F ≤ P.length) (h2 : F ≤ U.length) :
    ∃ n b, cnRd p true cn0 true sg = (0, ⟨F, n, sl U n b, sl P F n⟩) ∧ s ≤ n ∧ o ≤ b ∧ n ≤ b ∧ n ≤ P.length ∧ b ≤ U.length ∧ b ≤ n + 12 ∧ F ≤ n := by
  subst hs
  obtain ⟨n, b, x1, x⟩ := chn_read he hU hp hg r N F F [] [] h hf h1 h2
  refine ⟨n, b, ?_, x⟩
  have hi : p.rdc (sgn N) = 0 ∧ (segS p N).h.i = F := by
    cases r with
    | nil =>
      obtain ⟨l, su, k, j, c', o', c1, o1, g1, g2, g3, g4, g5, g6, g7, g8, g9⟩ := h
      obtain ⟨a1, m, a2, a3, a4, a5, _⟩ := seg_cut (hf (N, F) (by simp)).1 (hf (N, F) (by simp)).2 he hU g2 hp hg g1 (Nat.le_trans g7 g8) g9 g4
      exact ⟨a1, by rw [a4]; rfl⟩
    | cons t r =>
      obtain ⟨⟨l, o2, g1, g2⟩, g3⟩ := h
      obtain ⟨a1, m, a2, a3, a4, a5, _⟩ := seg_cut (j := l.length) (k := (bys (rHd N F ep 0 :: l)).length) (hf (N, F) (by simp)).1 (hf (N, F) (by simp)).2 he hU g2 hp hg (by rw [List.take_length]; exact g1) (by rw [List.take_length]; exact Nat.le_refl _) (Nat.le_refl _) (Nat.le_refl _)
      exact ⟨a1, by rw [a4]; rfl⟩
  have e : cnTurn p true cn0 true N = cnTurn p false ⟨F, F, [], []⟩ true N ∧ cnYes true (segS p N).h (cnAt true cn0 (segS p N).h.i) = cnYes true (segS p N).h (cnAt false ⟨F, F, [], []⟩ (segS p N).h.i) := by
    unfold cnTurn cnAt
    rw [hi.2]
    exact ⟨rfl, rfl⟩
  have c1 := rd_cons p true cn0 true (N, F) r hi.1
  have c2 := rd_cons p false ⟨F, F, [], []⟩ true (N, F) r hi.1
  rw [c1, e.1, e.2, ← c2, x1, List.nil_append]
end
end Go.Proofs.YtgeaacabpnepmaaGreatDoor
