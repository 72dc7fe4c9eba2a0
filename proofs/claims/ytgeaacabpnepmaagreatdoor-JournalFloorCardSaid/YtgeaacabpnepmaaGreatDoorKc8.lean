/- Texts of the walk. -/
import Derived.Test.YtgeaacabpnepmaaGreatDoorKa8
/- What segments say may be said: plain facts that the walks ask. Nothing of the program. -/
namespace Go.Proofs.YtgeaacabpnepmaaGreatDoor
open Go.RowKit
set_option linter.unusedVariables false
set_option linter.unusedSimpArgs false
set_option maxRecDepth 20000

theorem inc_lt (n : Nat) : inc n < 18446744073709551616 := Nat.mod_lt _ (by decide)
theorem inc_of {n : Nat} (h : n + 1 < 18446744073709551616) : inc n = n + 1 := Nat.mod_eq_of_lt h
def AddOk : Cn → List Rc → Prop
  | x, [] => True
  | x, r :: l => r.fit ∧ mayB r = true ∧ (r.k = 1 ∨ (r.k = 2 ∧ x.ah ≠ [])) ∧ (cnOne x r).c + (cnOne x r).ah.length < 18446744073709551616 ∧ AddOk (cnOne x r) l
theorem addOk_take : ∀ (l : List Rc) (x : Cn) (k : Nat) (hk : k < l.length), AddOk x l → AddOk ((l.take k).foldl cnOne x) (l.drop k)
  | r :: l, x, 0, _, h => h
  | r :: l, x, k + 1, hk, h => addOk_take l (cnOne x r) k (by simpa using hk) h.2.2.2.2
theorem tkS_one {n : Nat} {x : Sg} {r : Rc} (hb : x.b = true) (h0 : tkS n x r = 0) (hm : mayB r = true) :
    (r.k = 1 ∧ r.f = x.o ∧ x.o - x.c < 12 ∧ r.f ≠ 18446744073709551615 ∧ adS x r = ⟨x.b, x.h, x.l ++ [r], x.c, x.o + 1⟩) ∨
    (r.k = 2 ∧ r.f = x.c ∧ x.c < x.o ∧ side r x.h.y = inp x.l r.f ∧ adS x r = ⟨x.b, x.h, x.l ++ [r], x.c + 1, x.o⟩) := by
  have hk := may_k hm
  unfold tkS at h0
  unfold adS
  by_cases k3 : r.k = 3
  · rw [if_pos k3, if_pos (.inl hb)] at h0; cases h0
  · rw [if_neg k3, if_neg (by rw [hb]; decide)] at h0
    rw [if_neg k3]
    by_cases k1 : r.k = 1
    · rw [if_pos k1] at h0 ⊢
      split at h0
      · cases h0
      · left
        rename_i hn
        exact ⟨k1, by omega, by omega, by omega, rfl⟩
    · rw [if_neg k1] at h0 ⊢
      split at h0
      · cases h0
      · rename_i hn
        split at h0
        · cases h0
        · rename_i hs
          right
          exact ⟨by omega, by omega, by omega, by simpa using hs, rfl⟩
theorem goes_add {n : Nat} : ∀ {l : List Rc} {X : Sg} {x : Cn}, Okg n X → X.b = true → Goes n X l → x.c = X.c → x.c + x.ah.length = X.o → AddOk x l
  | [], _, _, _, _, _, _, _ => trivial
  | r :: l, X, x, hx, hb, ⟨h1, h2, h3, h4⟩, hc, ho => by
    have hx' := okg_ad hx h1 h2 h3
    have h64 := hx'.o64
    rcases tkS_one hb h3 h2 with ⟨k, e1, e2, e3, e4⟩ | ⟨k, e1, e2, e3, e4⟩
    · rw [e4] at h4 h64 hx'
      have e : cnOne x r = ⟨x.fr, x.c, x.ah ++ [r.o], x.ps⟩ := if_pos k
      refine ⟨h1, h2, .inl k, ?_, ?_⟩
      · rw [e]; simp only [List.length_append, List.length_singleton]
        have h64 : X.o + 1 < _ := h64
        omega
      · rw [e]; exact goes_add hx' hb h4 hc (by simp; omega)
    · rw [e4] at h4 h64 hx'
      have e : cnOne x r = ⟨x.fr, x.c + 1, x.ah.tail, x.ps ++ [(r.p, r.q)]⟩ := if_neg (by omega)
      have hl : x.ah ≠ [] := by intro h; rw [h] at ho; simp at ho; omega
      have hl2 : x.ah.tail.length + 1 = x.ah.length := by
        rw [List.length_tail]; have := List.length_pos_iff.2 hl; omega
      refine ⟨h1, h2, .inr ⟨k, hl⟩, ?_, ?_⟩
      · rw [e]
        show x.c + 1 + x.ah.tail.length < _
        have h64 : X.o < _ := h64
        omega
      · rw [e]; exact goes_add hx' hb h4 (by show x.c + 1 = X.c + 1; omega) (by show x.c + 1 + x.ah.tail.length = X.o; omega)
theorem scn_says (n : Nat) (s : List UInt8) : ∃ h l a e, scn n sg0 0 s = ⟨⟨(scn n sg0 0 s).x.b, h, l, (scn n sg0 0 s).x.c, (scn n sg0 0 s).x.o⟩, a, e⟩ ∧ h.fit ∧ 6 * l.length ≤ s.length ∧
    ((h = rz ∧ l = []) ∨ (h.k = 3 ∧ mayB h = true ∧ h.s = n ∧ Okg n ⟨true, h, [], h.i, h.i⟩ ∧ Goes n ⟨true, h, [], h.i, h.i⟩ l ∧ scn n sg0 0 s = ⟨runS ⟨true, h, [], h.i, h.i⟩ l, a, e⟩ ∧ bys (h :: l) <+: s)) := by
  obtain ⟨L, h1, h2, h3⟩ := scn_told n s.length s sg0 0 (Nat.le_refl _) (okg0 n)
  cases L with
  | nil =>
    have e : (scn n sg0 0 s).x = sg0 := by rw [h2]; rfl
    refine ⟨rz, [], (scn n sg0 0 s).a, (scn n sg0 0 s).e, ?_, rz_fit, by simp, .inl ⟨rfl, rfl⟩⟩
    conv => lhs; rw [h2]
    rw [e]
    show (⟨runS sg0 [], _, _⟩ : Sc) = _
    rw [h2]; rfl
  | cons r l =>
    obtain ⟨g1, g2, g3⟩ := runS_told h1
    obtain ⟨k3, ka⟩ := goes_head h1
    have hx : (scn n sg0 0 s).x = runS sg0 (r :: l) := by rw [h2]
    obtain ⟨f1, f2, f3, f4⟩ := h1
    have hlen : ∀ l : List Rc, 6 * l.length ≤ (bys l).length := fun l => by
      induction l with
      | nil => simp [bys]
      | cons a l ih => rw [bys_cons, List.length_append, List.length_cons]; have := byR_lo a; omega
    refine ⟨r, l, (scn n sg0 0 s).a, (scn n sg0 0 s).e, ?_, f1, ?_, .inr ⟨k3, f2, ?_, ?_, ?_, ?_, h3⟩⟩
    · have : (scn n sg0 0 s).x = ⟨(scn n sg0 0 s).x.b, r, l, (scn n sg0 0 s).x.c, (scn n sg0 0 s).x.o⟩ := by
        rw [hx]
        conv => lhs; rw [show runS sg0 (r :: l) = ⟨(runS sg0 (r :: l)).b, (runS sg0 (r :: l)).h, (runS sg0 (r :: l)).l, (runS sg0 (r :: l)).c, (runS sg0 (r :: l)).o⟩ from rfl]
        rw [g1, g2]
      rw [← this]
    · have := h3.length_le
      rw [bys_cons, List.length_append] at this
      have := hlen l
      omega
    · unfold tkS at f3
      rw [if_pos k3] at f3
      split at f3
      · cases f3
      · rename_i hn
        rcases Nat.decEq r.s n with h | h
        · exact absurd (.inr h) hn
        · exact h
    · rw [← ka]; exact okg_ad (okg0 n) f1 f2 f3
    · rw [← ka]; exact f4
    · rw [← ka, ← runS_cons]
      rw [← hx]
theorem seg_says (p : Pw) (n : Nat) (hp : (p.rd (sgn n)).length ≤ 65536) : (segS p n).h.fit ∧ (segS p n).l.length ≤ 10922 ∧ ((segS p n).h.k = 3 → (segS p n).h.i < 18446744073709551616 ∧ ∀ x : Cn, x.c = (segS p n).h.i → x.ah = [] → AddOk x (segS p n).l) ∧ ((segS p n).h.k ≠ 3 → (segS p n).h = rz ∧ (segS p n).l = []) := by
  obtain ⟨h, l, a, e, e1, h1, h2, h3⟩ := scn_says n (p.rd (sgn n))
  have ex : segS p n = ⟨(scn n sg0 0 (p.rd (sgn n))).x.b, h, l, (scn n sg0 0 (p.rd (sgn n))).x.c, (scn n sg0 0 (p.rd (sgn n))).x.o⟩ := congrArg Sc.x e1
  have eh : (segS p n).h = h := by rw [ex]
  have el : (segS p n).l = l := by rw [ex]
  rw [eh, el]
  refine ⟨h1, by omega, fun k3 => ⟨h1.i, fun x hc ha => ?_⟩, fun k3 => ?_⟩
  · rcases h3 with ⟨rfl, rfl⟩ | ⟨_, _, _, h4, h5, _⟩
    · exact trivial
    · exact goes_add h4 rfl h5 hc (by rw [ha]; simpa using hc)
  · rcases h3 with h3 | h3
    · exact h3
    · exact absurd h3.1 k3
structure CnOk (x : Cn) : Prop where
  n : x.fr + x.ps.length = x.c
  o : x.c + x.ah.length < 18446744073709551616
  ah : ∀ i ∈ x.ah, i < 64
  ps : ∀ q ∈ x.ps, q.1 < 64 ∧ q.2 < 64
theorem cn0_ok : CnOk cn0 := ⟨rfl, by decide, (fun i h => by cases h), (fun i h => by cases h)⟩
theorem one_okc {x : Cn} {r : Rc} {l : List Rc} (h : CnOk x) (ha : AddOk x (r :: l)) : CnOk (cnOne x r) := by
  obtain ⟨h1, h2, h3, h4, _⟩ := ha
  have hl := may_low h2
  rcases h3 with h3 | ⟨h3, h5⟩
  · have e : cnOne x r = ⟨x.fr, x.c, x.ah ++ [r.o], x.ps⟩ := if_pos h3
    rw [e] at h4 ⊢
    refine ⟨h.n, h4, fun i hi => ?_, h.ps⟩
    rcases List.mem_append.1 hi with hi | hi
    · exact h.ah i hi
    · rw [List.mem_singleton] at hi; subst hi; exact hl.1
  · have e : cnOne x r = ⟨x.fr, x.c + 1, x.ah.tail, x.ps ++ [(r.p, r.q)]⟩ := if_neg (by omega)
    rw [e] at h4 ⊢
    refine ⟨by simp; have := h.n; omega, h4, fun i hi => h.ah i (List.mem_of_mem_tail hi), fun q hq => ?_⟩
    rcases List.mem_append.1 hq with hq | hq
    · exact h.ps q hq
    · rw [List.mem_singleton] at hq; subst hq; exact ⟨hl.2.1, hl.2.2.1⟩
theorem fold_okc : ∀ {l : List Rc} {x : Cn}, CnOk x → AddOk x l → CnOk (l.foldl cnOne x)
  | [], _, h, _ => h
  | r :: l, x, h, ha => fold_okc (l := l) (one_okc h ha) ha.2.2.2.2
theorem fold_len : ∀ (l : List Rc) (x : Cn), (l.foldl cnOne x).ps.length ≤ x.ps.length + l.length ∧ (l.foldl cnOne x).ah.length ≤ x.ah.length + l.length
  | [], _ => ⟨Nat.le_refl _, Nat.le_refl _⟩
  | r :: l, x => by
    obtain ⟨h1, h2⟩ := fold_len l (cnOne x r)
    have h3 : (cnOne x r).ps.length ≤ x.ps.length + 1 ∧ (cnOne x r).ah.length ≤ x.ah.length + 1 := by
      unfold cnOne
      split
      · simp
      · simp; omega
    rw [List.foldl_cons, List.length_cons]
    omega
theorem add_okc {x : Cn} {l : List Rc} (h : CnOk x) (ha : AddOk ⟨x.fr, x.c, [], x.ps⟩ l) : CnOk (cnAdd x l) :=
  fold_okc ⟨h.n, by have := h.o; simp; omega, (fun i hi => by cases hi), h.ps⟩ ha
theorem out_okc {x : Cn} (ck : List Nat) (h : CnOk x) : CnOk (cnOut ck x) ∧ (cnOut ck x).ps.length ≤ x.ps.length ∧ (cnOut ck x).c = x.c ∧ (cnOut ck x).ah = x.ah := by
  unfold cnOut
  split
  · exact ⟨h, Nat.le_refl _, rfl, rfl⟩
  · split
    · rename_i h1 h2
      have hn := h.n
      refine ⟨⟨?_, h.o, h.ah, fun q hq => h.ps q (List.mem_of_mem_drop hq)⟩, ?_, rfl, rfl⟩
      · simp only [List.length_drop]; omega
      · simp only [List.length_drop]; omega
    · exact ⟨h, Nat.le_refl _, rfl, rfl⟩
def cnTurn (p : Pw) (first : Bool) (x : Cn) (b : Bool) (n : Nat) : Cn := if cnYes b (segS p n).h (cnAt first x (segS p n).h.i) then cnAdd (cnAt first x (segS p n).h.i) (segS p n).l else cnAt first x (segS p n).h.i
theorem yes_iff {b : Bool} {h : Rc} {x : Cn} : cnYes b h x = true ↔ b = true ∧ h.k = 3 ∧ h.i = x.c := by simp [cnYes]
theorem turn_okc {p : Pw} {first : Bool} {x : Cn} {b : Bool} {n : Nat} (hp : (p.rd (sgn n)).length ≤ 65536) (h : CnOk x) (hf : first = true → x = cn0) :
    CnOk (cnTurn p first x b n) ∧ (cnTurn p first x b n).ps.length ≤ x.ps.length + 10922 ∧ CnOk (cnAt first x (segS p n).h.i) ∧ (cnYes b (segS p n).h (cnAt first x (segS p n).h.i) = true → AddOk ⟨(cnAt first x (segS p n).h.i).fr, (cnAt first x (segS p n).h.i).c, [], (cnAt first x (segS p n).h.i).ps⟩ (segS p n).l) := by
  obtain ⟨h1, h2, h3, h4⟩ := seg_says p n hp
  have hat : CnOk (cnAt first x (segS p n).h.i) ∧ (cnAt first x (segS p n).h.i).ps = x.ps := by
    unfold cnAt
    cases first
    · exact ⟨h, rfl⟩
    · obtain rfl := hf rfl
      exact ⟨⟨rfl, by have := h1.i; simpa [cn0] using this, (fun i h => by cases h), (fun i h => by cases h)⟩, rfl⟩
  have hadd : cnYes b (segS p n).h (cnAt first x (segS p n).h.i) = true → AddOk ⟨(cnAt first x (segS p n).h.i).fr, (cnAt first x (segS p n).h.i).c, [], (cnAt first x (segS p n).h.i).ps⟩ (segS p n).l := fun hy => by
    obtain ⟨_, k3, hi⟩ := yes_iff.1 hy
    exact (h3 k3).2 _ hi.symm rfl
  unfold cnTurn
  split
  · rename_i hy
    have := (fold_len (segS p n).l ⟨(cnAt first x (segS p n).h.i).fr, (cnAt first x (segS p n).h.i).c, [], (cnAt first x (segS p n).h.i).ps⟩).1
    refine ⟨add_okc hat.1 (hadd hy), ?_, hat.1, hadd⟩
    unfold cnAdd
    rw [hat.2] at this ⊢
    omega
  · exact ⟨hat.1, by rw [hat.2]; omega, hat.1, hadd⟩
theorem rd_nil (p : Pw) (first : Bool) (x : Cn) (b : Bool) : cnRd p first x b [] = (0, x) := by rw [cnRd]
theorem rd_cons (p : Pw) (first : Bool) (x : Cn) (b : Bool) (s : Nat × Nat) (l : List (Nat × Nat)) (h : p.rdc (sgn s.1) = 0) :
    cnRd p first x b (s :: l) = cnRd p false (cnTurn p first x b s.1) (cnYes b (segS p s.1).h (cnAt first x (segS p s.1).h.i)) l := by
  rw [cnRd, if_pos h]; rfl
theorem rd_stop (p : Pw) (first : Bool) (x : Cn) (b : Bool) (s : Nat × Nat) (l : List (Nat × Nat)) (h : p.rdc (sgn s.1) ≠ 0) : cnRd p first x b (s :: l) = (p.rdc (sgn s.1), cn0) := by
  rw [cnRd, if_neg h]
theorem rd_okc {p : Pw} (hp : ∀ n, (p.rd (sgn n)).length ≤ 65536) : ∀ (l : List (Nat × Nat)) (first : Bool) (x : Cn) (b : Bool), CnOk x → (first = true → x = cn0) →
    CnOk (cnRd p first x b l).2 ∧ (cnRd p first x b l).2.ps.length ≤ x.ps.length + 10922 * l.length
  | [], _, x, _, h, _ => ⟨h, Nat.le_refl _⟩
  | s :: l, first, x, b, h, hf => by
    by_cases h0 : p.rdc (sgn s.1) = 0
    · rw [rd_cons _ _ _ _ _ _ h0]
      obtain ⟨h1, h2, _⟩ := turn_okc (b := b) (hp s.1) h hf
      obtain ⟨h3, h4⟩ := rd_okc hp l false _ (cnYes b (segS p s.1).h (cnAt first x (segS p s.1).h.i)) h1 (fun h => by cases h)
      rw [List.length_cons]
      exact ⟨h3, by omega⟩
    · rw [rd_stop _ _ _ _ _ _ h0]
      exact ⟨cn0_ok, Nat.zero_le _⟩
theorem rO_fit {f i : Nat} (hf : f < 18446744073709551616) (hi : i < 64) : (rO f i).fit := (rO_ok hf hi).1
theorem oRecs_len : ∀ (f : Nat) (l : List Nat), (oRecs f l).length = l.length
  | _, [] => rfl
  | f, i :: l => by simp [oRecs, oRecs_len (f + 1) l]
theorem pRecs_len (pl : Nat) : ∀ (f : Nat) (l : List (Nat × Nat)), (pRecs pl f l).length = 2 * l.length
  | _, [] => rfl
  | f, i :: l => by simp [pRecs, pRecs_len pl (f + 1) l]; omega
theorem oRecs_snoc : ∀ (f : Nat) (l : List Nat) (i : Nat), oRecs f (l ++ [i]) = oRecs f l ++ [rO (f + l.length) i]
  | f, [], i => rfl
  | f, a :: l, i => by
    simp only [List.cons_append, oRecs, oRecs_snoc (f + 1) l i, List.length_cons]
    rw [show f + 1 + l.length = f + (l.length + 1) by omega]
theorem pRecs_snoc (pl : Nat) : ∀ (f : Nat) (l : List (Nat × Nat)) (q : Nat × Nat), pRecs pl f (l ++ [q]) = pRecs pl f l ++ [rO (f + l.length) (sid pl q), rS (f + l.length) q.1 q.2]
  | f, [], q => rfl
  | f, a :: l, q => by
    simp only [List.cons_append, pRecs, pRecs_snoc pl (f + 1) l q, List.length_cons]
    rw [show f + 1 + l.length = f + (l.length + 1) by omega]
theorem oRecs_fit : ∀ {l : List Nat} {f : Nat}, f + l.length < 18446744073709551616 → (∀ i ∈ l, i < 64) → ∀ r ∈ oRecs f l, r.fit ∧ mayB r = true
  | [], _, _, _, r, h => by cases h
  | i :: l, f, h1, h2, r, h => by
    rw [List.length_cons] at h1
    rcases List.mem_cons.1 h with rfl | h
    · exact rO_ok (by omega) (h2 i (by simp))
    · exact oRecs_fit (l := l) (f := f + 1) (by omega) (fun i hi => h2 i (by simp [hi])) r h
theorem pRecs_fit {pl : Nat} : ∀ {l : List (Nat × Nat)} {f : Nat}, f + l.length < 18446744073709551616 → (∀ i ∈ l, i.1 < 64 ∧ i.2 < 64) → ∀ r ∈ pRecs pl f l, r.fit ∧ mayB r = true
  | [], _, _, _, r, h => by cases h
  | q :: l, f, h1, h2, r, h => by
    rw [List.length_cons] at h1
    have hq := h2 q (by simp)
    rcases List.mem_cons.1 h with rfl | h
    · exact rO_ok (by omega) (by unfold sid; split; exact hq.1; exact hq.2)
    · rcases List.mem_cons.1 h with rfl | h
      · exact rS_ok (by omega) hq.1 hq.2
      · exact pRecs_fit (l := l) (f := f + 1) (by omega) (fun i hi => h2 i (by simp [hi])) r h
theorem cnRecs_fit {pl : Nat} {x : Cn} (h : CnOk x) : ∀ r ∈ cnRecs pl x, r.fit ∧ mayB r = true := fun r hr => by
  have hn := h.n
  have ho := h.o
  rcases List.mem_append.1 hr with hr | hr
  · exact pRecs_fit (by omega) h.ps r hr
  · exact oRecs_fit ho h.ah r hr
theorem cnRecs_len {pl : Nat} {x : Cn} : (cnRecs pl x).length = 2 * x.ps.length + x.ah.length := by
  unfold cnRecs; rw [List.length_append, pRecs_len, oRecs_len]
theorem hd_fit {n f ep pl : Nat} (h1 : n < 18446744073709551616) (h2 : f < 18446744073709551616) (h3 : ep < 18446744073709551616) (h4 : pl < 256) : (rHd n f ep pl).fit :=
  ⟨by simp [rHd], by simp [rHd], by simp [rHd], by simp [rHd], by simp [rHd], by simp [rHd], h1, h2, h3, h4⟩
theorem lastS_fit {l : List (Nat × Nat)} (h : sgFit l) : (lastS l).1 < 18446744073709551616 ∧ (lastS l).2 < 18446744073709551616 := by
  unfold lastS
  rcases List.eq_nil_or_concat l with rfl | ⟨a, s, rfl⟩
  · exact ⟨by decide, by decide⟩
  · rw [List.concat_eq_append, List.getLastD_concat]
    exact h s (by simp)
theorem hdM_fit {m : Mf} (h : m.fit) : (hdM m).fit := by
  have := lastS_fit h.sg
  exact hd_fit this.1 this.2 h.ep h.pl
theorem dropS_fit : ∀ {l : List (Nat × Nat)} (b : Nat), sgFit l → sgFit (dropS b l)
  | [], _, h => h
  | [s], _, h => h
  | s :: t :: l, b, h => by
    unfold dropS
    split
    · exact dropS_fit b fun p hp => h p (List.mem_cons_of_mem _ hp)
    · exact h
end Go.Proofs.YtgeaacabpnepmaaGreatDoor
/- A disk as a map from names to files: what each write, and a crash, makes of it. Nothing of the program. -/
namespace Go.Proofs.YtgeaacabpnepmaaGreatDoor
open Go.RowKit
set_option linter.unusedVariables false
set_option linter.unusedSimpArgs false
set_option maxRecDepth 20000

theorem fnd_nm {n : List UInt8} {E : List Ent} {f : Ent} (h : fnd n E = some f) : f.nm = n := (fndK_some h).2
theorem fnd_mem {n : List UInt8} {E : List Ent} {f : Ent} (h : fnd n E = some f) : f ∈ E := (fndK_some h).1
theorem fnd_no {n : List UInt8} {E : List Ent} : fnd n E = none ↔ ∀ e ∈ E, e.nm ≠ n := by
  show fndK Ent.nm n E = none ↔ _
  unfold fndK
  rw [List.find?_eq_none]
  simp
theorem fnd_get {E : List Ent} (h : Srt Ent.nm E) {e : Ent} (he : e ∈ E) : fnd e.nm E = some e := fndK_of_mem h he
theorem fnd_is {n : List UInt8} {E : List Ent} (h : Srt Ent.nm E) {e : Ent} (he : e ∈ E) (hn : e.nm = n) : fnd n E = some e := hn ▸ fnd_get h he
theorem fnd_names {n : List UInt8} {E : List Ent} : n ∈ E.map Ent.nm ↔ ∃ e, fnd n E = some e := by
  constructor
  · intro h
    obtain ⟨e, he, rfl⟩ := List.mem_map.1 h
    cases hf : fnd e.nm E with
    | none => exact absurd rfl (fnd_no.1 hf e he)
    | some x => exact ⟨x, rfl⟩
  · rintro ⟨e, he⟩
    exact List.mem_map.2 ⟨e, fnd_mem he, fnd_nm he⟩
theorem fnd_ext {E E' : List Ent} {n : List UInt8} (h : Srt Ent.nm E) (h' : Srt Ent.nm E') (hm : ∀ e, e.nm = n → (e ∈ E' ↔ e ∈ E)) : fnd n E' = fnd n E := by
  cases hf : fnd n E with
  | none =>
    rw [fnd_no] at hf ⊢
    exact fun e he hn => hf e ((hm e hn).1 he) hn
  | some x => exact fnd_is h' ((hm x (fnd_nm hf)).2 (fnd_mem hf)) (fnd_nm hf)
theorem kfnd_ins {E : List Ent} {f : Ent} (h : Srt Ent.nm E) (hn : ∀ y ∈ E, y.nm ≠ f.nm) (n : List UInt8) : fnd n (insK Ent.nm f E) = if n = f.nm then some f else fnd n E := by
  have h' := insK_srt f E h hn
  split
  · rename_i e
    exact fnd_is h' (insK_mem.2 (.inl rfl)) e.symm
  · rename_i e
    refine fnd_ext h h' fun x hx => ?_
    rw [insK_mem]
    exact ⟨fun k => k.resolve_left (fun e2 => e (by rw [← hx, e2])), .inr⟩
theorem kfnd_del {E : List Ent} (h : Srt Ent.nm E) (m n : List UInt8) : fnd n (delK Ent.nm m E) = if n = m then none else fnd n E := by
  split
  · rename_i e
    subst e
    rw [fnd_no]
    exact fun e he => (delK_mem.1 he).2
  · rename_i e
    refine fnd_ext h (delK_srt m h) fun x hx => ?_
    rw [delK_mem]
    exact ⟨And.left, fun k => ⟨k, fun e2 => e (by rw [← hx, e2])⟩⟩
theorem kfnd_set {E : List Ent} {f g : Ent} {m : List UInt8} (h : Srt Ent.nm E) (hf : fnd m E = some f) (hg : g.nm = f.nm) (n : List UInt8) : fnd n (setE g E) = if n = m then some g else fnd n E := by
  obtain ⟨a, b, e1, e2⟩ := setE_at h hf g hg
  have hm := fnd_nm hf
  have hs : Srt Ent.nm (setE g E) := by
    have h0 := h
    unfold Srt at h0 ⊢
    rw [← List.pairwise_map (f := Ent.nm) (R := fun x y => x < y)] at h0 ⊢
    rw [show (setE g E).map Ent.nm = E.map Ent.nm by rw [e2, e1]; simp [hg]]
    exact h0
  split
  · rename_i e
    subst e
    exact fnd_is hs (by rw [e2]; simp) (by rw [hg, hm])
  · rename_i e
    refine fnd_ext h hs fun x hx => ?_
    rw [e2, e1]
    simp only [List.mem_append, List.mem_cons]
    constructor
    · rintro (k | rfl | k)
      · exact .inl k
      · exact absurd (by rw [← hx, hg, hm]) e
      · exact .inr (.inr k)
    · rintro (k | rfl | k)
      · exact .inl k
      · exact absurd (by rw [← hx, hm]) e
      · exact .inr (.inr k)
section
variable {q : Nat} {E : List Ent}
theorem fnd_create (h : DGood q E) (n : List UInt8) {m : List UInt8} (hm : isNm m = true) (hf : fnd m E = none) (hl : E.length < 64) : eCreate E m = 0 ∧ aCreate E m = insK Ent.nm ⟨m, [], 0⟩ E ∧ fnd n (aCreate E m) = if n = m then some ⟨m, [], 0⟩ else fnd n E := by
  have h0 : eCreate E m = 0 := by
    unfold eCreate
    rw [if_pos hm, hf]
    exact if_neg (by omega)
  have h1 : aCreate E m = insK Ent.nm ⟨m, [], 0⟩ E := by unfold aCreate; rw [if_pos h0]
  exact ⟨h0, h1, by rw [h1]; exact kfnd_ins (f := ⟨m, [], 0⟩) h.srt (fnd_no.1 hf) n⟩
theorem fnd_append (h : DGood q E) (n : List UInt8) {m t : List UInt8} {f : Ent} (hf : fnd m E = some f) (h1 : f.bs.length + t.length ≤ 65536) (h2 : used E + t.length ≤ q) : eAppend q E m t = 0 ∧ fnd n (aAppend q E m t) = if n = m then some ⟨m, f.bs ++ t, f.su⟩ else fnd n E := by
  have hm : isNm m = true := by have := h.nms f (fnd_mem hf); rwa [fnd_nm hf] at this
  have h0 : eAppend q E m t = 0 := by
    unfold eAppend
    rw [if_pos hm, hf]
    exact if_neg (by omega)
  refine ⟨h0, ?_⟩
  have e : aAppend q E m t = setE ⟨m, f.bs ++ t, f.su⟩ E := by
    unfold aAppend
    rw [if_pos h0, hf, ← fnd_nm hf]
  rw [e]
  exact kfnd_set h.srt hf (by rw [fnd_nm hf]) n
theorem fnd_sync (h : DGood q E) (n : List UInt8) {m : List UInt8} {f : Ent} (hf : fnd m E = some f) : eFind E m = 0 ∧ fnd n (aSync E m) = if n = m then some ⟨m, f.bs, f.bs.length⟩ else fnd n E := by
  have hm : isNm m = true := by have := h.nms f (fnd_mem hf); rwa [fnd_nm hf] at this
  refine ⟨by unfold eFind; rw [if_pos hm, hf], ?_⟩
  have e : aSync E m = setE ⟨m, f.bs, f.bs.length⟩ E := by
    unfold aSync
    rw [if_pos hm, hf, ← fnd_nm hf]
  rw [e]
  exact kfnd_set h.srt hf (by rw [fnd_nm hf]) n
theorem fnd_remove (h : DGood q E) (n : List UInt8) {m : List UInt8} {f : Ent} (hf : fnd m E = some f) : eFind E m = 0 ∧ aRemove E m = delK Ent.nm m E ∧ fnd n (aRemove E m) = if n = m then none else fnd n E := by
  have hm : isNm m = true := by have := h.nms f (fnd_mem hf); rwa [fnd_nm hf] at this
  have e : aRemove E m = delK Ent.nm m E := by unfold aRemove; rw [if_pos hm]
  exact ⟨by unfold eFind; rw [if_pos hm, hf], e, by rw [e]; exact kfnd_del h.srt m n⟩
theorem fnd_rename (h : DGood q E) (n : List UInt8) {a b : List UInt8} {f : Ent} (hf : fnd a E = some f) (hb : isNm b = true) (hab : a ≠ b) : eRename E a b = 0 ∧ aRename E a b = insK Ent.nm ⟨b, f.bs, f.su⟩ (delK Ent.nm b (delK Ent.nm a E)) ∧ fnd n (aRename E a b) = if n = b then some ⟨b, f.bs, f.su⟩ else if n = a then none else fnd n E := by
  have hm : isNm a = true := by have := h.nms f (fnd_mem hf); rwa [fnd_nm hf] at this
  have e : aRename E a b = insK Ent.nm ⟨b, f.bs, f.su⟩ (delK Ent.nm b (delK Ent.nm a E)) := by
    unfold aRename
    rw [hm, hb, hf]; rfl
  refine ⟨by unfold eRename; rw [hm, hb, hf]; rfl, e, ?_⟩
  have hs := delK_srt b (delK_srt a h.srt)
  rw [e, kfnd_ins (f := ⟨b, f.bs, f.su⟩) hs (fun y hy => (delK_mem.1 hy).2) n]
  split
  · rfl
  · rename_i hb'
    rw [kfnd_del (delK_srt a h.srt), if_neg hb', kfnd_del h.srt]
theorem fnd_crash (h : DGood q E) (n : List UInt8) (ks : List Int) : (fnd n E = none → fnd n (aCrash ks E) = none) ∧ (∀ e, fnd n E = some e → ∃ k, fnd n (aCrash ks E) = some (tearE k e)) := by
  have h' := (good_crash h ks).srt
  constructor
  · intro hf
    rw [fnd_no] at hf ⊢
    intro e he
    obtain ⟨j, f, hfE, rfl⟩ := tears_mem ks 0 E e he
    exact hf f hfE
  · intro e he
    have hm : n ∈ (aCrash ks E).map Ent.nm := by
      rw [show (aCrash ks E).map Ent.nm = E.map Ent.nm from tears_nm ks 0 E]
      exact fnd_names.2 ⟨e, he⟩
    obtain ⟨x, hx⟩ := fnd_names.1 hm
    obtain ⟨j, f, hfE, rfl⟩ := tears_mem ks 0 E x (fnd_mem hx)
    have hn : f.nm = n := (show (tearE (numAt ks j) f).nm = n from fnd_nm hx)
    have := fnd_is h.srt hfE hn
    rw [he] at this
    cases this
    exact ⟨_, hx⟩
end
theorem crash_len (ks : List Int) (E : List Ent) : (aCrash ks E).length = E.length := tears_len ks 0 E
theorem tear_says (k : Int) {e : Ent} (h : e.su ≤ e.bs.length) : ∃ m, tearE k e = ⟨e.nm, e.bs.take m, m⟩ ∧ e.su ≤ m ∧ m ≤ e.bs.length := by
  refine ⟨e.su + kept k (e.bs.length - e.su + 1), rfl, by omega, ?_⟩
  have := kept_le k (e.bs.length - e.su)
  omega
theorem used_few {q : Nat} {E : List Ent} (h : DGood q E) : used E ≤ 65536 * E.length := by
  have key : ∀ l : List Ent, (∀ e ∈ l, e.bs.length ≤ 65536) → used l ≤ 65536 * l.length := by
    intro l
    induction l with
    | nil => intro _; exact Nat.le_refl _
    | cons e l ih =>
      intro hl
      have h1 := ih fun x hx => hl x (by simp [hx])
      have h2 := hl e (by simp)
      rw [used_cons, List.length_cons]; omega
  exact key E h.most
theorem used_but {q : Nat} {E : List Ent} (h : DGood q E) {n : List UInt8} {f : Ent} (hf : fnd n E = some f) : used E + 65536 ≤ 65536 * E.length + f.bs.length := by
  have h1 := used_del_some h.srt hf
  have h2 := used_few (good_del h n)
  have h3 := del_len_some h.srt hf
  omega
theorem wr_cases (k q : Nat) (n t : List UInt8) (p : Pw) (ho : p.off = false) :
    (p.wrc k q n t = 8 ∧ (p.wr k q n t).off = true ∧ ∃ E0, (E0 = p.E ∨ E0 = wrE k q p.E n t) ∧ (p.wr k q n t).E = aCrash p.ks E0) ∨
    (p.wrc k q n t = wrR k q p.E n t ∧ (p.wr k q n t).off = false ∧ (p.wr k q n t).E = wrE k q p.E n t) := by
  unfold Pw.wrc Pw.wr Pw.code Pw.after
  rw [ho]
  by_cases h : (p.n : Int) = p.fu
  · left
    simp only [Bool.false_eq_true, if_false, if_pos h, true_and]
    by_cases hk : oddK p.ks = true
    · exact ⟨_, .inr rfl, by rw [if_pos hk]⟩
    · exact ⟨_, .inl rfl, by rw [if_neg hk]⟩
  · right
    simp [h]
theorem wr_fu (k q : Nat) (n t : List UInt8) (p : Pw) : (p.wr k q n t).fu = p.fu := by
  unfold Pw.wr Pw.after
  split
  · rfl
  · split <;> rfl
theorem wr_ks (k q : Nat) (n t : List UInt8) (p : Pw) : (p.wr k q n t).ks = p.ks := swa_ks _ _
theorem wr_n (k q : Nat) (n t : List UInt8) (p : Pw) : (p.wr k q n t).n ≤ p.n + 1 := swa_n _ _
theorem wr_never (k q : Nat) (n t : List UInt8) (p : Pw) (ho : p.off = false) (hf : p.fu < 0) : p.wrc k q n t = wrR k q p.E n t ∧ (p.wr k q n t).off = false := by
  have h : ¬ (p.n : Int) = p.fu := by omega
  unfold Pw.wrc Pw.wr Pw.code Pw.after
  rw [ho]
  simp [h]
theorem good_wr (k : Nat) {q : Nat} {E : List Ent} (h : DGood q E) (n t : List UInt8) : DGood q (wrE k q E n t) := by
  unfold wrE
  split
  · exact good_create h n
  · exact good_append h n t
  · exact good_sync h n
  · exact good_rename h n t
  · exact good_remove h n
theorem good_wr_p (k : Nat) {q : Nat} {p : Pw} (h : DGood q p.E) (n t : List UInt8) : DGood q (p.wr k q n t).E := by
  cases ho : p.off
  · rcases wr_cases k q n t p ho with ⟨_, _, E0, h0, e⟩ | ⟨_, _, e⟩
    · rw [e]
      rcases h0 with rfl | rfl
      · exact good_crash h _
      · exact good_crash (good_wr k h n t) _
    · rw [e]; exact good_wr k h n t
  · unfold Pw.wr Pw.after
    rw [ho]; exact h
end Go.Proofs.YtgeaacabpnepmaaGreatDoor
