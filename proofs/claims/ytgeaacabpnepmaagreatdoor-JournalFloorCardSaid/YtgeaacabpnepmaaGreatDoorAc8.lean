/- Texts of the walk. -/
import Derived.Test.YtgeaacabpnepmaaGreatDoorAf8
import Derived.Test.YtgeaacabpnepmaaGreatDoorAd8
import Derived.Deep.DeepCutAuto
import Derived.Deep.RegionHeld3
import Derived.Deep.OwnRows
import Derived.Laws.CopyRow
import Derived.Laws.CopyOwn
import Derived.Shelf.Spec.SlicesInsert
import Derived.Deep.RegionLaw
import Derived.Laws.StructEq
import Derived.ChangeKeysEq
import Derived.Deep.Slices
import Derived.Deep.Strs
import Derived.Lib.SmallJoins
import Derived.OpenShut
import Derived.Test.YtgeaacabpnepmaaGreatDoorRows
import Derived.WalkKit
import Derived.ProofKit
import Derived.Handy
import Derived.Below
import Derived.Lib.Hide
import Derived.StillTailTactics
import Derived.BigQuiet
import Derived.Test.YtgeaacabpnepmaaGreatDoorAa8
import Derived.WalkSmall
/- A segment's records one behind the other: what they say so far, which go on and agree, and what bytes begin with: the plain mathematics of layer 16. Nothing of the program. -/
namespace Go.Proofs.YtgeaacabpnepmaaGreatDoor
open Go.RowKit
set_option linter.unusedVariables false
set_option linter.unusedSimpArgs false

structure Sg where
  b : Bool
  h : Rc
  l : List Rc
  c : Nat
  o : Nat
def sg0 : Sg := ⟨false, rz, [], 0, 0⟩
def inp (l : List Rc) (f : Nat) : Nat := l.foldl (fun i r => if r.k = 1 ∧ r.f = f then r.o else i) 0
theorem inp_snoc (l : List Rc) (r : Rc) (f : Nat) : inp (l ++ [r]) f = if r.k = 1 ∧ r.f = f then r.o else inp l f := by simp [inp]
def side (r : Rc) (y : Nat) : Nat := if y = 0 then r.p else r.q
def tkS (n : Nat) (x : Sg) (r : Rc) : Int :=
  if r.k = 3 then (if x.b = true ∨ r.s ≠ n then 11 else 0)
  else if x.b = false then 11
  else if r.k = 1 then (if r.f ≠ x.o ∨ 12 ≤ x.o - x.c ∨ r.f = 18446744073709551615 then 11 else 0)
  else if r.f ≠ x.c ∨ x.o ≤ x.c then 11
  else if side r x.h.y ≠ inp x.l r.f then 14 else 0
def adS (x : Sg) (r : Rc) : Sg :=
  if r.k = 3 then ⟨true, r, x.l, r.i, r.i⟩ else if r.k = 1 then ⟨x.b, x.h, x.l ++ [r], x.c, x.o + 1⟩ else ⟨x.b, x.h, x.l ++ [r], x.c + 1, x.o⟩
structure Okg (n : Nat) (x : Sg) : Prop where
  hb : x.b = true → x.h.k = 3 ∧ x.h.y < 2 ∧ x.h.s = n ∧ mayB x.h = true
  nb : x.b = false → x.h = rz ∧ x.l = [] ∧ x.c = 0 ∧ x.o = 0
  co : x.c ≤ x.o
  oc : x.o ≤ x.c + 12
  o64 : x.o < 18446744073709551616
  hf : x.h.fit
  lf : ∀ r ∈ x.l, r.fit ∧ mayB r = true ∧ (r.k = 1 ∨ r.k = 2)
theorem rz_fit : rz.fit := ⟨by decide, by decide, by decide, by decide, by decide, by decide, by decide, by decide, by decide, by decide⟩
theorem okg0 (n : Nat) : Okg n sg0 := ⟨fun h => (by cases h), fun _ => ⟨rfl, rfl, rfl, rfl⟩, Nat.le_refl _, by decide, by decide, rz_fit, fun r h => (by cases h)⟩
theorem may_k {r : Rc} (h : mayB r = true) : r.k = 1 ∨ r.k = 2 ∨ r.k = 3 := by
  unfold mayB at h
  rw [Bool.and_eq_true] at h
  obtain ⟨_, h⟩ := h
  split at h
  · exact .inl (by assumption)
  · split at h
    · exact .inr (.inl (by assumption))
    · split at h
      · exact .inr (.inr (by assumption))
      · cases h
theorem may_low {r : Rc} (h : mayB r = true) : r.o < 64 ∧ r.p < 64 ∧ r.q < 64 ∧ r.y < 2 := by
  unfold mayB at h
  rw [Bool.and_eq_true] at h
  simpa [lowB] using h.1
theorem okg_ad {n : Nat} {x : Sg} {r : Rc} (h : Okg n x) (hf : r.fit) (hm : mayB r = true) (h0 : tkS n x r = 0) : Okg n (adS x r) := by
  have hk := may_k hm
  have hl := may_low hm
  unfold tkS at h0
  unfold adS
  by_cases k3 : r.k = 3
  · rw [if_pos k3] at h0 ⊢
    split at h0
    · cases h0
    · rename_i hn
      have hx : x.b = false := by cases hx : x.b <;> simp_all
      have hs : r.s = n := by rcases Nat.decEq r.s n with h1 | h1; exact absurd (.inr h1) hn; exact h1
      obtain ⟨_, hl0, _, _⟩ := h.nb hx
      exact ⟨fun _ => ⟨k3, hl.2.2.2, hs, hm⟩, fun h => (by cases h), Nat.le_refl _, by show r.i ≤ r.i + 12; omega, hf.i, hf, fun r' hr => (by rw [hl0] at hr; cases hr)⟩
  · rw [if_neg k3] at h0 ⊢
    split at h0
    · cases h0
    · rename_i hb
      have hx : x.b = true := by cases hx : x.b <;> simp_all
      by_cases k1 : r.k = 1
      · rw [if_pos k1] at h0 ⊢
        split at h0
        · cases h0
        · rename_i hn
          have h1 : r.f = x.o ∧ x.o - x.c < 12 ∧ r.f ≠ 18446744073709551615 := by omega
          have := hf.f
          have := h.co
          refine ⟨h.hb, fun h => (by rw [hx] at h; cases h), by show x.c ≤ x.o + 1; omega, by show x.o + 1 ≤ x.c + 12; omega, by show x.o + 1 < _; omega, h.hf, fun r' hr => ?_⟩
          rcases List.mem_append.1 hr with hr | hr
          · exact h.lf r' hr
          · rw [List.mem_singleton] at hr; subst hr; exact ⟨hf, hm, .inl k1⟩
      · rw [if_neg k1] at h0 ⊢
        split at h0
        · cases h0
        · rename_i hn
          have h1 : r.f = x.c ∧ x.c < x.o := by omega
          have := h.oc
          refine ⟨h.hb, fun h => (by rw [hx] at h; cases h), by show x.c + 1 ≤ x.o; omega, by show x.o ≤ x.c + 1 + 12; omega, h.o64, h.hf, fun r' hr => ?_⟩
          rcases List.mem_append.1 hr with hr | hr
          · exact h.lf r' hr
          · rw [List.mem_singleton] at hr; subst hr; exact ⟨hf, hm, .inr (by omega)⟩
def Inps (x : Sg) (v : List Nat) : Prop := v.length = 12 ∧ ∀ f, x.c ≤ f → f < x.o → v[f % 12]? = some (inp x.l f)
theorem inps0 : Inps sg0 (List.replicate 12 0) := ⟨by simp, fun f h1 h2 => absurd h2 (by show ¬ f < 0; omega)⟩
theorem inps_ad {n : Nat} {x : Sg} {r : Rc} {v : List Nat} (h : Okg n x) (hv : Inps x v) (hm : mayB r = true) (h0 : tkS n x r = 0) :
    (r.k = 1 → Inps (adS x r) (v.set (r.f % 12) r.o)) ∧ (r.k ≠ 1 → Inps (adS x r) v) := by
  unfold tkS at h0
  unfold adS
  by_cases k3 : r.k = 3
  · rw [if_pos k3]
    refine ⟨fun h => (by omega), fun _ => ⟨hv.1, fun f h1 h2 => ?_⟩⟩
    have h1 : r.i ≤ f := h1
    have h2 : f < r.i := h2
    omega
  · rw [if_neg k3] at h0 ⊢
    split at h0
    · cases h0
    · by_cases k1 : r.k = 1
      · rw [if_pos k1] at h0 ⊢
        refine ⟨fun _ => ?_, fun h => absurd k1 h⟩
        split at h0
        · cases h0
        · have h1 : r.f = x.o ∧ x.o - x.c < 12 ∧ r.f ≠ 18446744073709551615 := by omega
          refine ⟨by rw [List.length_set]; exact hv.1, fun f h2 h3 => ?_⟩
          have h2 : x.c ≤ f := h2
          have h3 : f < x.o + 1 := h3
          show _ = some (inp (x.l ++ [r]) f)
          rw [inp_snoc, List.getElem?_set, hv.1]
          by_cases he : f = r.f
          · subst he
            rw [if_pos rfl, if_pos (by omega), if_pos ⟨k1, rfl⟩]
          · rw [if_neg (by omega), if_neg (fun h => he h.2.symm)]
            exact hv.2 f h2 (by omega)
      · rw [if_neg k1] at h0 ⊢
        refine ⟨fun h => absurd h k1, fun _ => ⟨hv.1, fun f h2 h3 => ?_⟩⟩
        have h2 : x.c + 1 ≤ f := h2
        have h3 : f < x.o := h3
        show _ = some (inp (x.l ++ [r]) f)
        rw [inp_snoc, if_neg (fun h => k1 h.1)]
        exact hv.2 f (by omega) h3

structure Sc where
  x : Sg
  a : Nat
  e : Int
def scn (n : Nat) (x : Sg) (a : Nat) (s : List UInt8) : Sc :=
  if s = [] ∧ x.b = true then ⟨x, a, 0⟩
  else if h : fe s = 0 then
    if (tkR (fp s)).1 = 0 then
      if tkS n x (tkR (fp s)).2 = 0 then scn n (adS x (tkR (fp s)).2) (a + (6 + (fp s).length)) (s.drop (6 + (fp s).length))
      else ⟨x, a, tkS n x (tkR (fp s)).2⟩
    else ⟨x, a, (tkR (fp s)).1⟩
  else ⟨x, a, fe s⟩
termination_by s.length
decreasing_by
  have := fp_room h
  rw [List.length_drop]; omega
theorem scn_end {n : Nat} {x : Sg} {a : Nat} (h : x.b = true) : scn n x a [] = ⟨x, a, 0⟩ := by rw [scn]; rw [if_pos ⟨rfl, h⟩]
theorem scn_fe {n : Nat} {x : Sg} {a : Nat} {s : List UInt8} (h : ¬ (s = [] ∧ x.b = true)) (he : fe s ≠ 0) : scn n x a s = ⟨x, a, fe s⟩ := by rw [scn]; rw [if_neg h, dif_neg he]
theorem fe_ne {s : List UInt8} (he : fe s = 0) : s ≠ [] := by rintro rfl; have := fp_room he; simp at this
theorem scn_tk {n : Nat} {x : Sg} {a : Nat} {s : List UInt8} (he : fe s = 0) (h2 : (tkR (fp s)).1 ≠ 0) : scn n x a s = ⟨x, a, (tkR (fp s)).1⟩ := by
  rw [scn]; rw [if_neg (fun h => fe_ne he h.1), dif_pos he, if_neg h2]
theorem scn_no {n : Nat} {x : Sg} {a : Nat} {s : List UInt8} (he : fe s = 0) (h2 : (tkR (fp s)).1 = 0) (h3 : tkS n x (tkR (fp s)).2 ≠ 0) : scn n x a s = ⟨x, a, tkS n x (tkR (fp s)).2⟩ := by
  rw [scn]; rw [if_neg (fun h => fe_ne he h.1), dif_pos he, if_pos h2, if_neg h3]
theorem scn_go {n : Nat} {x : Sg} {a : Nat} {s : List UInt8} (he : fe s = 0) (h2 : (tkR (fp s)).1 = 0) (h3 : tkS n x (tkR (fp s)).2 = 0) : scn n x a s = scn n (adS x (tkR (fp s)).2) (a + (6 + (fp s).length)) (s.drop (6 + (fp s).length)) := by
  rw [scn]; rw [if_neg (fun h => fe_ne he h.1), dif_pos he, if_pos h2, if_pos h3]
theorem adS_b {n : Nat} {x : Sg} {r : Rc} (h0 : tkS n x r = 0) : (adS x r).b = true := by
  unfold tkS at h0
  unfold adS
  by_cases k3 : r.k = 3
  · rw [if_pos k3]
  · rw [if_neg k3] at h0 ⊢
    split at h0
    · cases h0
    · have hx : x.b = true := by cases hx : x.b <;> simp_all
      split <;> exact hx

/-! The bytes of records. -/
def byR (r : Rc) : List UInt8 := frm (encR r)
def bys (l : List Rc) : List UInt8 := (l.map byR).flatten
theorem byR_len (r : Rc) : (byR r).length = 6 + (encR r).length := frm_len _
theorem byR_lo (r : Rc) : 6 ≤ (byR r).length := by rw [byR_len]; omega
theorem byR_hi (r : Rc) : (byR r).length ≤ 32 := by rw [byR_len]; have := encR_len r; omega
theorem bys_cons (r : Rc) (l : List Rc) : bys (r :: l) = byR r ++ bys l := rfl
theorem bys_app (a b : List Rc) : bys (a ++ b) = bys a ++ bys b := by simp [bys]
theorem bys_one (r : Rc) : bys [r] = byR r := by simp [bys]
theorem bys_len (l : List Rc) : (bys l).length ≤ 32 * l.length := by
  induction l with
  | nil => simp [bys]
  | cons r l ih => rw [bys_cons, List.length_append, List.length_cons]; have := byR_hi r; omega
theorem fe_one {s : List UInt8} (he : fe s = 0) (h2 : (tkR (fp s)).1 = 0) : s = byR (tkR (fp s)).2 ++ s.drop (6 + (fp s).length) ∧ (byR (tkR (fp s)).2).length = 6 + (fp s).length := by
  have e := (tkR_one h2).2
  have := frm_back he
  refine ⟨?_, ?_⟩
  · unfold byR; rw [e]; exact this
  · rw [byR_len, e]
theorem one_ok {r : Rc} (hf : r.fit) (hm : mayB r = true) (m : List UInt8) : fe (byR r ++ m) = 0 ∧ tkR (fp (byR r ++ m)) = (0, r) ∧ (byR r ++ m).drop (6 + (fp (byR r ++ m)).length) = m := by
  have hl := encR_len r
  obtain ⟨h1, h2⟩ := frm_ok (encR r) m (by omega)
  refine ⟨h1, ?_, ?_⟩
  · show tkR (fp (frm (encR r) ++ m)) = _
    rw [h2]; exact tkR_enc hf hm
  · show (frm (encR r) ++ m).drop (6 + (fp (frm (encR r) ++ m)).length) = m
    rw [h2, ← frm_len, List.drop_append_of_le_length (by omega), List.drop_of_length_le (by omega), List.nil_append]
theorem one_len {r : Rc} (hf : r.fit) (hm : mayB r = true) (m : List UInt8) : 6 + (fp (byR r ++ m)).length = (byR r).length := by
  have hl := encR_len r
  have h2 := (frm_ok (encR r) m (by omega)).2
  show 6 + (fp (frm (encR r) ++ m)).length = _
  rw [h2, byR_len]
theorem scn_one {n : Nat} {x : Sg} {a : Nat} {r : Rc} (hf : r.fit) (hm : mayB r = true) (h0 : tkS n x r = 0) (m : List UInt8) : scn n x a (byR r ++ m) = scn n (adS x r) (a + (byR r).length) m := by
  obtain ⟨h1, h2, h3⟩ := one_ok hf hm m
  have h4 := one_len hf hm m
  have h0' : tkS n x (tkR (fp (byR r ++ m))).2 = 0 := by rw [h2]; exact h0
  rw [scn_go h1 (by rw [h2]) h0', h3, h2, h4]
theorem scn_cut {n : Nat} {x : Sg} {a : Nat} (r : Rc) (m : List UInt8) {k : Nat} (hk : k < (byR r).length) (h0 : 0 < k ∨ x.b = false) : scn n x a ((byR r ++ m).take k) = ⟨x, a, 10⟩ := by
  have hl := encR_len r
  have he : fe ((byR r ++ m).take k) = 10 := frm_cut (encR r) m k (by omega) (by rw [byR_len] at hk; exact hk)
  rw [scn_fe ?_ (by rw [he]; decide), he]
  rintro ⟨h1, h2⟩
  rcases h0 with h0 | h0
  · have := congrArg List.length h1
    rw [List.length_take, List.length_append] at this
    simp only [List.length_nil] at this
    omega
  · rw [h0] at h2; cases h2
def runS (x : Sg) (l : List Rc) : Sg := l.foldl adS x
theorem runS_cons (x : Sg) (r : Rc) (l : List Rc) : runS x (r :: l) = runS (adS x r) l := rfl
def Goes (n : Nat) : Sg → List Rc → Prop
  | _, [] => True
  | x, r :: l => r.fit ∧ mayB r = true ∧ tkS n x r = 0 ∧ Goes n (adS x r) l
theorem goes_take {n : Nat} : ∀ {l : List Rc} {x : Sg} (k : Nat), Goes n x l → Goes n x (l.take k)
  | [], x, k, h => by rw [List.take_nil]; exact h
  | r :: l, x, 0, h => trivial
  | r :: l, x, k + 1, ⟨h1, h2, h3, h4⟩ => ⟨h1, h2, h3, goes_take k h4⟩
theorem scn_run {n : Nat} : ∀ {l : List Rc} {x : Sg} {a : Nat} (m : List UInt8), Goes n x l → scn n x a (bys l ++ m) = scn n (runS x l) (a + (bys l).length) m
  | [], x, a, m, _ => rfl
  | r :: l, x, a, m, ⟨h1, h2, h3, h4⟩ => by
    rw [bys_cons, List.append_assoc, scn_one h1 h2 h3, scn_run m h4, List.length_append, runS_cons, Nat.add_assoc]
theorem runS_b {n : Nat} : ∀ {l : List Rc} {x : Sg}, Goes n x l → l ≠ [] → (runS x l).b = true
  | [r], x, ⟨h1, h2, h3, h4⟩, _ => adS_b h3
  | r :: s :: l, x, ⟨h1, h2, h3, h4⟩, _ => runS_b (l := s :: l) h4 (by simp)
theorem scn_begin {n : Nat} {l : List Rc} (h : Goes n sg0 l) {m k : Nat} (hm : m ≤ l.length) (h1 : (bys (l.take m)).length ≤ k) (h2 : m < l.length → k < (bys (l.take (m + 1))).length) (hk : k ≤ (bys l).length) :
    scn n sg0 0 ((bys l).take k) = ⟨runS sg0 (l.take m), (bys (l.take m)).length, if 0 < m ∧ (bys (l.take m)).length = k then 0 else 10⟩ := by
  have hg := goes_take m h
  have e : (bys l).take k = bys (l.take m) ++ (bys (l.drop m)).take (k - (bys (l.take m)).length) := by
    conv => lhs; rw [← List.take_append_drop m l, bys_app]
    rw [List.take_append, List.take_of_length_le h1]
  rw [e, scn_run _ hg, Nat.zero_add]
  by_cases hkm : (bys (l.take m)).length = k
  · rw [hkm, Nat.sub_self, List.take_zero]
    by_cases h0 : 0 < m
    · rw [if_pos ⟨h0, rfl⟩]
      by_cases hl : l = []
      · subst hl; simp at hm; omega
      · refine scn_end (runS_b hg ?_)
        intro h3
        have := congrArg List.length h3
        rw [List.length_take] at this
        simp only [List.length_nil] at this
        omega
    · rw [if_neg (fun h => h0 h.1)]
      obtain rfl : m = 0 := by omega
      rw [List.take_zero]
      rw [scn_fe (fun h => by cases h.2) (by rw [fe_short (by simp)]; decide), fe_short (by simp)]
  · rw [if_neg (fun h => hkm h.2)]
    have hml : m < l.length := by
      rcases Nat.lt_or_ge m l.length with h3 | h3
      · exact h3
      · rw [List.take_of_length_le h3] at h1 hkm; omega
    have h3 := h2 hml
    rw [List.take_add_one, List.getElem?_eq_getElem hml, Option.toList_some, bys_app, bys_one, List.length_append] at h3
    rw [List.drop_eq_getElem_cons hml, bys_cons]
    exact scn_cut _ _ (by omega) (.inl (by omega))
theorem bys_take_le {l : List Rc} {i j : Nat} (h : i ≤ j) : (bys (l.take i)).length ≤ (bys (l.take j)).length := by
  have e : l.take i = (l.take j).take i := by rw [List.take_take, Nat.min_eq_left h]
  rw [e]
  conv => rhs; rw [← List.take_append_drop i (l.take j), bys_app, List.length_append]
  omega
theorem bys_take_all (l : List Rc) (i : Nat) : (bys (l.take i)).length ≤ (bys l).length := by
  have := bys_take_le (l := l) (i := i) (j := max i l.length) (Nat.le_max_left _ _)
  rwa [List.take_of_length_le (l := l) (i := max i l.length) (Nat.le_max_right _ _)] at this
def whole : List Rc → Nat → Nat
  | [], _ => 0
  | r :: l, k => if (byR r).length ≤ k then whole l (k - (byR r).length) + 1 else 0
theorem whole_spec : ∀ (l : List Rc) (k : Nat), whole l k ≤ l.length ∧ (bys (l.take (whole l k))).length ≤ k ∧ (whole l k < l.length → k < (bys (l.take (whole l k + 1))).length)
  | [], k => by simp [whole, bys]
  | r :: l, k => by
    unfold whole
    split
    · rename_i h
      obtain ⟨h1, h2, h3⟩ := whole_spec l (k - (byR r).length)
      refine ⟨by simpa using h1, ?_, fun h4 => ?_⟩
      · rw [List.take_succ_cons, bys_cons, List.length_append]; omega
      · rw [List.take_succ_cons, bys_cons, List.length_append]
        have := h3 (by simpa using h4)
        omega
    · rename_i h
      refine ⟨by simp, by simp [bys], fun _ => ?_⟩
      rw [Nat.zero_add, List.take_succ_cons, List.take_zero, bys_one]; omega
theorem scn_told (n : Nat) : ∀ (m : Nat) (s : List UInt8) (x : Sg) (a : Nat), s.length ≤ m → Okg n x → ∃ l, Goes n x l ∧ scn n x a s = ⟨runS x l, a + (bys l).length, (scn n x a s).e⟩ ∧ (bys l) <+: s
  | 0, s, x, a, hm, hx => by
    obtain rfl : s = [] := List.eq_nil_of_length_eq_zero (by omega)
    refine ⟨[], trivial, ?_, List.nil_prefix⟩
    by_cases hb : x.b = true
    · rw [scn_end hb]; rfl
    · rw [scn_fe (fun h => hb h.2) (by rw [fe_short (by simp)]; decide)]; rfl
  | m + 1, s, x, a, hm, hx => by
    by_cases h : s = [] ∧ x.b = true
    · obtain ⟨rfl, hb⟩ := h
      exact ⟨[], trivial, by rw [scn_end hb]; rfl, List.nil_prefix⟩
    · by_cases he : fe s = 0
      · by_cases h2 : (tkR (fp s)).1 = 0
        · by_cases h3 : tkS n x (tkR (fp s)).2 = 0
          · have hr := fp_room he
            have hf := tkR_fit (fp s)
            have hmm := (tkR_one h2).1
            obtain ⟨l, g1, g2, g3⟩ := scn_told n m (s.drop (6 + (fp s).length)) (adS x (tkR (fp s)).2) (a + (6 + (fp s).length)) (by rw [List.length_drop]; omega) (okg_ad hx hf hmm h3)
            obtain ⟨e1, e2⟩ := fe_one he h2
            refine ⟨(tkR (fp s)).2 :: l, ⟨hf, hmm, h3, g1⟩, ?_, ?_⟩
            · rw [scn_go he h2 h3]
              conv => lhs; rw [g2]
              rw [runS_cons, bys_cons, List.length_append, e2, Nat.add_assoc]
            · rw [bys_cons]
              conv => rhs; rw [e1]
              exact (List.prefix_append_right_inj _).2 g3
          · exact ⟨[], trivial, by rw [scn_no he h2 h3]; rfl, List.nil_prefix⟩
        · exact ⟨[], trivial, by rw [scn_tk he h2]; rfl, List.nil_prefix⟩
      · exact ⟨[], trivial, by rw [scn_fe h he]; rfl, List.nil_prefix⟩
theorem runS_l {n : Nat} : ∀ {l : List Rc} {x : Sg}, Goes n x l → x.b = true → (runS x l).h = x.h ∧ (runS x l).l = x.l ++ l
  | [], x, _, _ => ⟨rfl, by simp [runS]⟩
  | r :: l, x, ⟨h1, h2, h3, h4⟩, hb => by
    have k3 : r.k ≠ 3 := by
      intro k3
      unfold tkS at h3
      rw [if_pos k3, if_pos (.inl hb)] at h3
      cases h3
    have e : (adS x r).h = x.h ∧ (adS x r).l = x.l ++ [r] ∧ (adS x r).b = true := by
      unfold adS
      rw [if_neg k3]
      split <;> exact ⟨rfl, rfl, hb⟩
    obtain ⟨g1, g2⟩ := runS_l h4 e.2.2
    rw [runS_cons, g1, g2, e.1, e.2.1]
    exact ⟨rfl, by simp⟩
theorem goes_head {n : Nat} {r : Rc} {l : List Rc} (h : Goes n sg0 (r :: l)) : r.k = 3 ∧ adS sg0 r = ⟨true, r, [], r.i, r.i⟩ := by
  obtain ⟨h1, h2, h3, h4⟩ := h
  have k3 : r.k = 3 := by
    rcases Int.decEq r.k 3 with k3 | k3
    · unfold tkS at h3
      rw [if_neg k3, if_pos (show sg0.b = false from rfl)] at h3
      cases h3
    · exact k3
  exact ⟨k3, by unfold adS; rw [if_pos k3]; rfl⟩
theorem runS_told {n : Nat} {r : Rc} {l : List Rc} (h : Goes n sg0 (r :: l)) : (runS sg0 (r :: l)).h = r ∧ (runS sg0 (r :: l)).l = l ∧ (runS sg0 (r :: l)).b = true := by
  obtain ⟨k3, e⟩ := goes_head h
  obtain ⟨h1, h2, h3, h4⟩ := h
  rw [e] at h4
  obtain ⟨g1, g2⟩ := runS_l h4 rfl
  rw [runS_cons, e]
  refine ⟨g1, by simpa using g2, ?_⟩
  cases l with
  | nil => rfl
  | cons a l => exact runS_b h4 (by simp)
end Go.Proofs.YtgeaacabpnepmaaGreatDoor
/- Texts of elder layers, one behind the other. -/
/- The document's Check, and what its Put leans on: contracts; words for drawn regions whose calls make memory. -/
namespace Go.Proofs.YtgeaacabpnepmaaGreatDoor
open Go.RowKit
set_option linter.unusedVariables false

/-! What is below block B stays as it was in the world wd. -/
/-! A row of bytes turned into a string. -/
end Go.Proofs.YtgeaacabpnepmaaGreatDoor
/- Numbers as a player, as a shot; how package state reads players and shots: one contract each. -/
namespace Go.Proofs.YtgeaacabpnepmaaGreatDoor
open Go.RowKit
set_option linter.unusedVariables false

end Go.Proofs.YtgeaacabpnepmaaGreatDoor
/- Take: the state that bytes are: its contract. -/
namespace Go.Proofs.YtgeaacabpnepmaaGreatDoor
open Go.RowKit
set_option linter.unusedVariables false

theorem grown_setRow (w : World) (g : Nat) (cs : Array Value) : w.grownBy (w.setRow g cs) (some g) := ⟨rfl, rfl, rfl, by simp, fun k hk hn => setRow_other _ _ _ _ (fun e => hn (by rw [e]))⟩
end Go.Proofs.YtgeaacabpnepmaaGreatDoor
/- Two players, two shots, two pairs of players, two scores: equal or not, as the program's '==' tells. -/
namespace Go.Proofs.YtgeaacabpnepmaaGreatDoor
open Go.RowKit
set_option linter.unusedVariables false

end Go.Proofs.YtgeaacabpnepmaaGreatDoor
/- Same: whether two states are the same: its contract. -/
namespace Go.Proofs.YtgeaacabpnepmaaGreatDoor
open Go.RowKit
set_option linter.unusedVariables false

end Go.Proofs.YtgeaacabpnepmaaGreatDoor
/- Start, and the statements' own first state: contracts. -/
namespace Go.Proofs.YtgeaacabpnepmaaGreatDoor
open Go.RowKit
set_option linter.unusedVariables false

end Go.Proofs.YtgeaacabpnepmaaGreatDoor
/- The statements' own fails and works: contracts. -/
namespace Go.Proofs.YtgeaacabpnepmaaGreatDoor
open Go.RowKit
set_option linter.unusedVariables false

theorem grown_own (w : World) (o : Obj) (cs : Array Value) : w.grownBy ((w.alloc o).setRow w.heap.size cs) none :=
  grown_of_below (below_setRow ((Below.refl _ w).alloc (Nat.le_refl _) _) (Nat.le_refl _) _)
end Go.Proofs.YtgeaacabpnepmaaGreatDoor
/- A state as an argument of a statement: taken apart. -/
namespace Go.Proofs.YtgeaacabpnepmaaGreatDoor
open Go.ChangeShapes Go.WideShapes Go.RowKit Go.Deep
set_option linter.unusedVariables false

end Go.Proofs.YtgeaacabpnepmaaGreatDoor
/- A player laid into a block: one step of the walk. -/
namespace Go.Proofs.YtgeaacabpnepmaaGreatDoor
open Go.RowKit
set_option linter.unusedVariables false

theorem alloc_setRow (w : World) (z cs : Array Value) (t : TypeId) : (w.alloc (.cells z t)).setRow w.heap.size cs = w.alloc (.cells cs t) := by
  unfold World.setRow World.alloc
  cases w with
  | mk heap tape drawn os output =>
    congr 1
    apply Array.ext
    · simp
    · intro k h1 h2
      simp only [Array.getElem_modify, Array.getElem_push]
      split
      · rename_i hk; subst hk; simp
      · rename_i hk
        have : k < heap.size := by simp at h2; omega
        simp [this]
end Go.Proofs.YtgeaacabpnepmaaGreatDoor
/- Texts of elder layers, one behind the other. -/
/- Plain mathematics of boxes, and the functions that leave memory as it is: one contract each. Nothing is assumed beyond each contract's own bounds. -/
namespace Go.Proofs.YtgeaacabpnepmaaGreatDoor.G
open Go.RowKit
set_option linter.unusedVariables false
set_option maxRecDepth 20000

def cl (n l h : Int) : Int := max l (min n h)

def po (n : Int) : Int := max 0 n
def gp (a b c d : Int) : Int := max (max (c - b) (a - d)) 0
end Go.Proofs.YtgeaacabpnepmaaGreatDoor.G
/- Intervals: one contract each. Nothing is assumed beyond each contract's own bounds. -/
namespace Go.Proofs.YtgeaacabpnepmaaGreatDoor.G
open Go.RowKit
set_option linter.unusedVariables false
set_option maxRecDepth 20000

theorem run_max_int3 {P : Program} {w : World} (ts : Array TypeId) (t : TypeId) (k k' k'' : IntKind) (x y z : Int) : (Builtin.max_ ts t #[.int k x, .int k' y, .int k'' z]).run P w = .ok (.int k (max (max x y) z)) w := by
  rw [show max (max x y) z = if z > (if y > x then y else x) then z else (if y > x then y else x) by omega]
  simp [Builtin.max_, Builtin.max2]
attribute [local go_sem] run_max_int3
end Go.Proofs.YtgeaacabpnepmaaGreatDoor.G
/- Areas: one contract each. Nothing is assumed beyond each contract's own bounds. -/
namespace Go.Proofs.YtgeaacabpnepmaaGreatDoor.G
open Go.RowKit
set_option linter.unusedVariables false
set_option maxRecDepth 20000

def On (B : Nat) (wd w' : World) : Prop := Below B wd w'
end Go.Proofs.YtgeaacabpnepmaaGreatDoor.G
