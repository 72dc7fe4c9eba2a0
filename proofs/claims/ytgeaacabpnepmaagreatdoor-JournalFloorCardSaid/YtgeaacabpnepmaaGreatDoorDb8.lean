/- Texts of the walk. -/
import Derived.Test.YtgeaacabpnepmaaGreatDoorAa8
import Derived.Sort.KeysCollected
import Derived.Sort.Walk0
import Derived.WideAt
import Derived.Test.YtgeaacabpnepmaaGreatDoorRows
import Derived.Maps.OwnSet
import Derived.Maps.OwnIn
/- A disk as plain lists: files sorted by their names; what each act makes of them. Nothing of the program. -/
namespace Go.Proofs.YtgeaacabpnepmaaGreatDoor
open Go.RowKit
set_option linter.unusedVariables false

section
variable {α β : Type} (k : α → List UInt8)
def insK (x : α) : List α → List α
  | [] => [x]
  | y :: r => if bytesBefore (k x) (k y) then x :: y :: r else y :: insK x r
def delK (n : List UInt8) (l : List α) : List α := l.filter fun x => !(k x == n)
def fndK (n : List UInt8) (l : List α) : Option α := l.find? fun x => k x == n
def Srt (l : List α) : Prop := l.Pairwise fun x y => k x < k y
end
theorem before_eq : ∀ (x y : List UInt8), bytesBefore x y = decide (x < y) := fun x y => by
  rw [← bytesLess_eq]
  induction x generalizing y with
  | nil => cases y <;> rfl
  | cons a x ih =>
    cases y with
    | nil => rfl
    | cons b y => simp only [bytesBefore, Op.bytesLess, ih]
theorem nm_lt_irrefl (a : List UInt8) : ¬ a < a := fun h => by
  have := WideAt.bytes_irrefl a
  rw [before_eq, decide_eq_false_iff_not] at this
  exact this h
theorem nm_lt_ne {a b : List UInt8} (h : a < b) : a ≠ b := fun e => nm_lt_irrefl b (e ▸ h)
theorem nm_trans {a b c : List UInt8} (h : a < b) (h' : b < c) : a < c := List.lt_trans h h'
theorem nm_total {a b : List UInt8} (h : a ≠ b) : a < b ∨ b < a := by
  have := WideAt.bytes_total a b h
  simpa [before_eq] using this
section
variable {α β : Type} {k : α → List UInt8} {k' : β → List UInt8}
theorem insK_map (f : α → β) (hf : ∀ x, k' (f x) = k x) (x : α) : ∀ l : List α, (insK k x l).map f = insK k' (f x) (l.map f)
  | [] => rfl
  | y :: r => by
    simp only [insK, List.map_cons, hf]
    split
    · rfl
    · rw [List.map_cons, insK_map f hf x r]
theorem delK_map (f : α → β) (hf : ∀ x, k' (f x) = k x) (n : List UInt8) (l : List α) : (delK k n l).map f = delK k' n (l.map f) := by
  simp only [delK, List.filter_map]
  congr 2
  funext x
  simp [hf]
theorem fndK_map (f : α → β) (hf : ∀ x, k' (f x) = k x) (n : List UInt8) (l : List α) : fndK k' n (l.map f) = (fndK k n l).map f := by
  simp only [fndK, List.find?_map]
  congr 2
  funext x
  simp [hf]
theorem insK_perm (x : α) : ∀ l : List α, (insK k x l).Perm (x :: l)
  | [] => List.Perm.refl _
  | y :: r => by
    simp only [insK]
    split
    · exact List.Perm.refl _
    · exact ((insK_perm x r).cons y).trans (List.Perm.swap x y r)
theorem insK_mem {x z : α} {l : List α} : z ∈ insK k x l ↔ z = x ∨ z ∈ l := by rw [(insK_perm x l).mem_iff, List.mem_cons]
theorem insK_len (x : α) (l : List α) : (insK k x l).length = l.length + 1 := by rw [(insK_perm x l).length_eq]; rfl
theorem insK_srt (x : α) : ∀ l : List α, Srt k l → (∀ y ∈ l, k y ≠ k x) → Srt k (insK k x l)
  | [], _, _ => List.pairwise_singleton _ _
  | y :: r, h, hn => by
    obtain ⟨h1, h2⟩ := List.pairwise_cons.1 h
    simp only [insK, before_eq, decide_eq_true_eq]
    split
    · rename_i hb
      refine List.pairwise_cons.2 ⟨fun z hz => ?_, h⟩
      rcases List.mem_cons.1 hz with rfl | hz
      · exact hb
      · exact nm_trans hb (h1 z hz)
    · rename_i hb
      have hyx : k y < k x := (nm_total (hn y (by simp))).resolve_right hb
      refine List.pairwise_cons.2 ⟨fun z hz => ?_, insK_srt x r h2 fun z hz => hn z (by simp [hz])⟩
      rcases insK_mem.1 hz with rfl | hz
      · exact hyx
      · exact h1 z hz
theorem delK_srt (n : List UInt8) {l : List α} (h : Srt k l) : Srt k (delK k n l) := h.filter _
theorem delK_mem {n : List UInt8} {l : List α} {x : α} : x ∈ delK k n l ↔ x ∈ l ∧ k x ≠ n := by simp [delK]
theorem delK_none {n : List UInt8} {l : List α} (h : fndK k n l = none) : delK k n l = l := by
  refine List.filter_eq_self.2 fun x hx => ?_
  have := List.find?_eq_none.1 h x hx
  simpa using this
theorem fndK_some {n : List UInt8} {l : List α} {x : α} (h : fndK k n l = some x) : x ∈ l ∧ k x = n := ⟨List.mem_of_find?_eq_some h, by simpa using List.find?_some h⟩
theorem srt_one {l : List α} (h : Srt k l) {x y : α} (hx : x ∈ l) (hy : y ∈ l) (e : k x = k y) : x = y := by
  obtain ⟨i, hi, rfl⟩ := List.getElem_of_mem hx
  obtain ⟨j, hj, rfl⟩ := List.getElem_of_mem hy
  have hp := List.pairwise_iff_getElem.1 h
  rcases Nat.lt_trichotomy i j with h1 | h1 | h1
  · exact absurd e (nm_lt_ne (hp i j hi hj h1))
  · subst h1; rfl
  · exact absurd e.symm (nm_lt_ne (hp j i hj hi h1))
theorem fndK_of_mem {l : List α} (h : Srt k l) {x : α} (hx : x ∈ l) : fndK k (k x) l = some x := by
  cases hf : fndK k (k x) l with
  | none => exact absurd (List.find?_eq_none.1 hf x hx) (by simp)
  | some y => obtain ⟨h1, h2⟩ := fndK_some hf; rw [srt_one h h1 hx h2]
theorem fndK_parts {n : List UInt8} : ∀ {l : List α}, Srt k l → ∀ {x : α}, fndK k n l = some x → ∃ a b, l = a ++ x :: b ∧ delK k n l = a ++ b ∧ (∀ y ∈ a, k y < n) ∧ (∀ y ∈ b, n < k y)
  | [], _, _, h => by simp [fndK] at h
  | y :: r, hs, x, h => by
    obtain ⟨h1, h2⟩ := List.pairwise_cons.1 hs
    by_cases hy : k y = n
    · have hx : y = x := by simpa [fndK, List.find?_cons, hy] using h
      subst hx
      refine ⟨[], r, rfl, ?_, by simp, fun z hz => hy ▸ h1 z hz⟩
      have : delK k n r = r := List.filter_eq_self.2 fun z hz => by
        have := nm_lt_ne (h1 z hz)
        simp; rw [← hy]; exact fun e => this e.symm
      simp only [delK] at this
      simp [delK, hy, this]
    · have hr : fndK k n r = some x := by simpa [fndK, List.find?_cons, hy] using h
      obtain ⟨a, b, e1, e2, e3, e4⟩ := fndK_parts h2 hr
      refine ⟨y :: a, b, by rw [e1]; rfl, ?_, fun z hz => ?_, e4⟩
      · simp only [delK] at e2
        simp [delK, hy, e2]
      · rcases List.mem_cons.1 hz with rfl | hz
        · have hx := (fndK_some hr)
          have := h1 x hx.1
          rw [hx.2] at this; exact this
        · exact e3 z hz
theorem srt_perm_keys {l : List α} (h : Srt k l) {ss : List (List UInt8)} (hp : ss.Perm (l.map k)) : ss.mergeSort (fun x y => decide (x ≤ y)) = l.map k := by
  have tr : ∀ a b c : List UInt8, leB a b = true → leB b c = true → leB a c = true := fun a b c h1 h2 => by simp only [leB, decide_eq_true_eq] at *; exact List.le_trans h1 h2
  have to : ∀ a b : List UInt8, (leB a b || leB b a) = true := fun a b => by simp only [leB, Bool.or_eq_true, decide_eq_true_eq]; exact List.le_total a b
  refine List.Perm.eq_of_pairwise (le := fun a b => leB a b = true) (fun a b _ _ h1 h2 => ?_) (List.pairwise_mergeSort tr to ss) ?_ ((List.mergeSort_perm ss leB).trans hp)
  · simp only [leB, decide_eq_true_eq] at h1 h2
    exact List.le_antisymm h1 h2
  · refine List.pairwise_map.2 (List.Pairwise.imp (fun {a b} hab => ?_) h)
    simp only [leB, decide_eq_true_eq]
    exact List.le_of_lt hab
end
structure Ent where
  nm : List UInt8
  bs : List UInt8
  su : Nat
def setE (f : Ent) (E : List Ent) : List Ent := E.map fun e => if e.nm = f.nm then f else e
def nmc (b : UInt8) : Bool := (97 ≤ b.toNat && b.toNat ≤ 122) || (48 ≤ b.toNat && b.toNat ≤ 57) || b.toNat == 46 || b.toNat == 45
def isNm (l : List UInt8) : Bool := decide (1 ≤ l.length) && decide (l.length ≤ 32) && l.all nmc
def used (E : List Ent) : Nat := (E.map fun e => e.bs.length).sum
abbrev fnd (n : List UInt8) (E : List Ent) : Option Ent := fndK Ent.nm n E
structure DGood (q : Nat) (E : List Ent) : Prop where
  q1 : 1 ≤ q
  q2 : q ≤ 1048576
  srt : Srt Ent.nm E
  len : E.length ≤ 64
  nms : ∀ e ∈ E, isNm e.nm = true
  sure : ∀ e ∈ E, e.su ≤ e.bs.length
  most : ∀ e ∈ E, e.bs.length ≤ 65536
  use : used E ≤ q
def eFind (E : List Ent) (n : List UInt8) : Nat := if isNm n then (match fnd n E with | some _ => 0 | none => 5) else 2
def eCreate (E : List Ent) (n : List UInt8) : Nat := if isNm n then (match fnd n E with | some _ => 6 | none => if 64 ≤ E.length then 7 else 0) else 2
def aCreate (E : List Ent) (n : List UInt8) : List Ent := if eCreate E n = 0 then insK Ent.nm ⟨n, [], 0⟩ E else E
def eAppend (q : Nat) (E : List Ent) (n b : List UInt8) : Nat :=
  if isNm n then (match fnd n E with | some f => if 65536 < f.bs.length + b.length ∨ q < used E + b.length then 7 else 0 | none => 5) else 2
def aAppend (q : Nat) (E : List Ent) (n b : List UInt8) : List Ent :=
  if eAppend q E n b = 0 then (match fnd n E with | some f => setE ⟨f.nm, f.bs ++ b, f.su⟩ E | none => E) else E
def aSync (E : List Ent) (n : List UInt8) : List Ent := if isNm n then (match fnd n E with | some f => setE ⟨f.nm, f.bs, f.bs.length⟩ E | none => E) else E
def aRemove (E : List Ent) (n : List UInt8) : List Ent := if isNm n then delK Ent.nm n E else E
def eRename (E : List Ent) (a b : List UInt8) : Nat := if isNm a && isNm b then (match fnd a E with | some _ => 0 | none => 5) else 2
def aRename (E : List Ent) (a b : List UInt8) : List Ent :=
  if isNm a && isNm b then (match fnd a E with | some f => insK Ent.nm ⟨b, f.bs, f.su⟩ (delK Ent.nm b (delK Ent.nm a E)) | none => E) else E
def rd (E : List Ent) (n : List UInt8) : List UInt8 := if isNm n then (match fnd n E with | some f => f.bs | none => []) else []
def sy (E : List Ent) (n : List UInt8) : Nat := if isNm n then (match fnd n E with | some f => f.su | none => 0) else 0
def kept (k : Int) (m : Nat) : Nat := (k % (m : Int)).toNat
def tearE (k : Int) (f : Ent) : Ent := let m := f.su + kept k (f.bs.length - f.su + 1); ⟨f.nm, f.bs.take m, m⟩
def numAt (ks : List Int) (i : Nat) : Int := if ks = [] then 0 else ks[i % ks.length]?.getD 0
def tears (ks : List Int) : Nat → List Ent → List Ent
  | _, [] => []
  | i, f :: r => tearE (numAt ks i) f :: tears ks (i + 1) r
def aCrash (ks : List Int) (E : List Ent) : List Ent := tears ks 0 E
/-! What may be goes on being so. -/
theorem used_cons (e : Ent) (E : List Ent) : used (e :: E) = e.bs.length + used E := rfl
theorem used_app (A B : List Ent) : used (A ++ B) = used A + used B := by simp [used]
theorem used_ins (e : Ent) (E : List Ent) : used (insK Ent.nm e E) = e.bs.length + used E := by
  unfold used
  rw [((insK_perm e E).map _).sum_nat]
  rfl
theorem used_del (n : List UInt8) : ∀ E : List Ent, used (delK Ent.nm n E) ≤ used E
  | [] => Nat.le_refl _
  | e :: E => by
    have := used_del n E
    by_cases h : e.nm = n
    · simp [delK, h] at this ⊢; rw [used_cons]; omega
    · simp [delK, h] at this ⊢; rw [used_cons, used_cons]; omega
theorem used_del_some {n : List UInt8} {E : List Ent} (hs : Srt Ent.nm E) {f : Ent} (h : fnd n E = some f) : used E = f.bs.length + used (delK Ent.nm n E) := by
  obtain ⟨a, b, e1, e2, _, _⟩ := fndK_parts hs h
  rw [e2, e1, used_app, used_cons, used_app]; omega
theorem del_len (n : List UInt8) (E : List Ent) : (delK Ent.nm n E).length ≤ E.length := List.length_filter_le _ _
theorem del_len_some {n : List UInt8} {E : List Ent} (hs : Srt Ent.nm E) {f : Ent} (h : fnd n E = some f) : E.length = (delK Ent.nm n E).length + 1 := by
  obtain ⟨a, b, e1, e2, _, _⟩ := fndK_parts hs h
  rw [e2, e1]; simp; omega
theorem setE_at {n : List UInt8} {E : List Ent} (hs : Srt Ent.nm E) {f : Ent} (h : fnd n E = some f) (g : Ent) (hg : g.nm = f.nm) : ∃ a b, E = a ++ f :: b ∧ setE g E = a ++ g :: b := by
  obtain ⟨a, b, e1, _, e3, e4⟩ := fndK_parts hs h
  have hn := (fndK_some h).2
  refine ⟨a, b, e1, ?_⟩
  have keep : ∀ l : List Ent, (∀ y ∈ l, y.nm ≠ g.nm) → setE g l = l := fun l hl => by
    unfold setE
    conv => rhs; rw [← List.map_id l]
    exact List.map_congr_left fun y hy => if_neg (hl y hy)
  have ka := keep a fun y hy e => nm_lt_ne (e3 y hy) (by rw [e, hg, hn])
  have kb := keep b fun y hy e => nm_lt_ne (e4 y hy) (by rw [e, hg, hn])
  rw [e1]
  unfold setE at ka kb ⊢
  rw [List.map_append, List.map_cons, ka, kb, if_pos hg.symm]
theorem good_set {q : Nat} {E : List Ent} (h : DGood q E) {n : List UInt8} {f g : Ent} (hf : fnd n E = some f) (hg : g.nm = f.nm) (h1 : g.su ≤ g.bs.length) (h2 : g.bs.length ≤ 65536) (h3 : used E + g.bs.length ≤ q + f.bs.length) : DGood q (setE g E) := by
  obtain ⟨a, b, e1, e2⟩ := setE_at h.srt hf g hg
  have hm : (setE g E).map Ent.nm = E.map Ent.nm := by rw [e2, e1]; simp [hg]
  have mem : ∀ e ∈ setE g E, e = g ∨ e ∈ E := fun e he => by
    rw [e2] at he; rw [e1]
    rcases List.mem_append.1 he with he | he
    · exact .inr (List.mem_append.2 (.inl he))
    · rcases List.mem_cons.1 he with he | he
      · exact .inl he
      · exact .inr (List.mem_append.2 (.inr (List.mem_cons_of_mem _ he)))
  have hfE := (fndK_some hf).1
  refine ⟨h.q1, h.q2, ?_, ?_, ?_, ?_, ?_, ?_⟩
  · have := h.srt
    unfold Srt at this ⊢
    rw [← List.pairwise_map (f := Ent.nm) (R := fun x y => x < y)] at this ⊢
    rw [hm]; exact this
  · have := congrArg List.length hm; simp at this; rw [this]; exact h.len
  · intro e he
    rcases mem e he with rfl | he
    · rw [hg]; exact h.nms f hfE
    · exact h.nms e he
  · intro e he
    rcases mem e he with rfl | he
    · exact h1
    · exact h.sure e he
  · intro e he
    rcases mem e he with rfl | he
    · exact h2
    · exact h.most e he
  · rw [e2, used_app, used_cons]
    rw [e1, used_app, used_cons] at h3
    omega
theorem good_del {q : Nat} {E : List Ent} (h : DGood q E) (n : List UInt8) : DGood q (delK Ent.nm n E) :=
  ⟨h.q1, h.q2, delK_srt n h.srt, Nat.le_trans (del_len n E) h.len, fun e he => h.nms e (delK_mem.1 he).1, fun e he => h.sure e (delK_mem.1 he).1, fun e he => h.most e (delK_mem.1 he).1, Nat.le_trans (used_del n E) h.use⟩
theorem good_ins {q : Nat} {E : List Ent} (h : DGood q E) (f : Ent) (hn : ∀ y ∈ E, y.nm ≠ f.nm) (h0 : isNm f.nm = true) (h1 : f.su ≤ f.bs.length) (h2 : f.bs.length ≤ 65536) (h3 : f.bs.length + used E ≤ q) (h4 : E.length + 1 ≤ 64) : DGood q (insK Ent.nm f E) := by
  refine ⟨h.q1, h.q2, insK_srt f E h.srt hn, by rw [insK_len]; exact h4, ?_, ?_, ?_, by rw [used_ins]; exact h3⟩
  · intro e he
    rcases insK_mem.1 he with rfl | he
    · exact h0
    · exact h.nms e he
  · intro e he
    rcases insK_mem.1 he with rfl | he
    · exact h1
    · exact h.sure e he
  · intro e he
    rcases insK_mem.1 he with rfl | he
    · exact h2
    · exact h.most e he
theorem good_create {q : Nat} {E : List Ent} (h : DGood q E) (n : List UInt8) : DGood q (aCreate E n) := by
  unfold aCreate
  split
  · rename_i h0
    unfold eCreate at h0
    split at h0
    · rename_i hn
      split at h0
      · cases h0
      · rename_i hf
        split at h0
        · cases h0
        · have hnone := List.find?_eq_none.1 hf
          exact good_ins h ⟨n, [], 0⟩ (fun y hy => by have := hnone y hy; simpa using this) hn (Nat.le_refl _) (by simp) (by have := h.use; simpa using this) (by omega)
    · cases h0
  · exact h
theorem good_append {q : Nat} {E : List Ent} (h : DGood q E) (n b : List UInt8) : DGood q (aAppend q E n b) := by
  unfold aAppend
  split
  · rename_i h0
    cases hf : fnd n E with
    | none => exact h
    | some f =>
      simp only [eAppend, hf] at h0
      split at h0
      · split at h0
        · cases h0
        · rename_i hn
          have := h.sure f (fndK_some hf).1
          refine good_set h hf rfl ?_ ?_ ?_
          · simp; omega
          · simp; omega
          · simp; omega
      · cases h0
  · exact h
theorem good_sync {q : Nat} {E : List Ent} (h : DGood q E) (n : List UInt8) : DGood q (aSync E n) := by
  unfold aSync
  split
  · cases hf : fnd n E with
    | none => exact h
    | some f => exact good_set h hf rfl (Nat.le_refl _) (h.most f (fndK_some hf).1) (by have := h.use; simp; omega)
  · exact h
theorem good_remove {q : Nat} {E : List Ent} (h : DGood q E) (n : List UInt8) : DGood q (aRemove E n) := by
  unfold aRemove
  split
  · exact good_del h n
  · exact h
theorem good_rename {q : Nat} {E : List Ent} (h : DGood q E) (a b : List UInt8) : DGood q (aRename E a b) := by
  unfold aRename
  split
  · rename_i hab
    cases hf : fnd a E with
    | none => exact h
    | some f =>
      have hm := (fndK_some hf).1
      have hl := del_len_some h.srt hf
      have hu := used_del_some h.srt hf
      have h1 := del_len b (delK Ent.nm a E)
      have h2 := used_del b (delK Ent.nm a E)
      have h3 := h.len
      have h4 := h.use
      refine good_ins (good_del (good_del h a) b) ⟨b, f.bs, f.su⟩ (fun y hy => (delK_mem.1 hy).2) ?_ (h.sure f hm) (h.most f hm) ?_ ?_
      · simp at hab; exact hab.2
      · simp only; omega
      · omega
  · exact h
theorem tears_len (ks : List Int) : ∀ (i : Nat) (E : List Ent), (tears ks i E).length = E.length
  | _, [] => rfl
  | i, f :: r => by simp [tears, tears_len ks (i + 1) r]
theorem tears_nm (ks : List Int) : ∀ (i : Nat) (E : List Ent), (tears ks i E).map Ent.nm = E.map Ent.nm
  | _, [] => rfl
  | i, f :: r => by simp [tears, tears_nm ks (i + 1) r, tearE]
theorem tears_app (ks : List Int) : ∀ (i : Nat) (A B : List Ent), tears ks i (A ++ B) = tears ks i A ++ tears ks (i + A.length) B
  | i, [], B => by simp [tears]
  | i, f :: r, B => by simp only [List.cons_append, tears, tears_app ks (i + 1) r B, List.length_cons]; rw [show i + 1 + r.length = i + (r.length + 1) by omega]
theorem kept_le (k : Int) (m : Nat) : kept k (m + 1) ≤ m := by
  unfold kept
  have h1 : 0 ≤ k % ((m + 1 : Nat) : Int) := Int.emod_nonneg _ (by omega)
  have h2 : k % ((m + 1 : Nat) : Int) < ((m + 1 : Nat) : Int) := Int.emod_lt_of_pos _ (by omega)
  omega
theorem tearE_len {f : Ent} (h : f.su ≤ f.bs.length) (k : Int) : (tearE k f).bs.length = (tearE k f).su ∧ (tearE k f).su ≤ f.bs.length := by
  have := kept_le k (f.bs.length - f.su)
  simp only [tearE, List.length_take]
  omega
theorem tears_mem (ks : List Int) : ∀ (i : Nat) (E : List Ent), ∀ e ∈ tears ks i E, ∃ j, ∃ f ∈ E, e = tearE (numAt ks j) f
  | _, [], e, h => by cases h
  | i, f :: r, e, h => by
    simp only [tears, List.mem_cons] at h
    rcases h with rfl | h
    · exact ⟨i, f, by simp, rfl⟩
    · obtain ⟨j, g, hg, rfl⟩ := tears_mem ks (i + 1) r e h
      exact ⟨j, g, by simp [hg], rfl⟩
theorem tears_used (ks : List Int) : ∀ (i : Nat) (E : List Ent), (∀ e ∈ E, e.su ≤ e.bs.length) → used (tears ks i E) ≤ used E
  | _, [], _ => Nat.le_refl _
  | i, f :: r, h => by
    have h1 := tears_used ks (i + 1) r fun e he => h e (by simp [he])
    have h2 := tearE_len (h f (by simp)) (numAt ks i)
    simp only [tears]
    rw [used_cons, used_cons]; omega
theorem good_crash {q : Nat} {E : List Ent} (h : DGood q E) (ks : List Int) : DGood q (aCrash ks E) := by
  refine ⟨h.q1, h.q2, ?_, ?_, ?_, ?_, ?_, Nat.le_trans (tears_used ks 0 E h.sure) h.use⟩
  · have := h.srt
    unfold Srt at this ⊢
    rw [← List.pairwise_map (f := Ent.nm) (R := fun x y => x < y)] at this ⊢
    rw [aCrash, tears_nm]; exact this
  · rw [aCrash, tears_len]; exact h.len
  · intro e he
    obtain ⟨j, f, hf, rfl⟩ := tears_mem ks 0 E e he
    exact h.nms f hf
  · intro e he
    obtain ⟨j, f, hf, rfl⟩ := tears_mem ks 0 E e he
    rw [(tearE_len (h.sure f hf) _).1]; exact Nat.le_refl _
  · intro e he
    obtain ⟨j, f, hf, rfl⟩ := tears_mem ks 0 E e he
    have h1 := tearE_len (h.sure f hf) (numAt ks j)
    have h2 := h.most f hf
    omega
end Go.Proofs.YtgeaacabpnepmaaGreatDoor
/- Words on the program's disk in memory: what a step may turn; a file, its row; the map from names to files; all of them, in blocks apart. -/
namespace Go.Proofs.YtgeaacabpnepmaaGreatDoor
open Go.RowKit
set_option linter.unusedVariables false

structure Tu (S : Nat → Prop) (w w' : World) : Prop where
  os : w'.os = w.os
  tape : w'.tape = w.tape
  output : w'.output = w.output
  size : w.heap.size ≤ w'.heap.size
  block : ∀ k, k < w.heap.size → ¬ S k → w'.heap[k]? = w.heap[k]?
section
variable {S S' : Nat → Prop} {w w' w'' : World} {g B : Nat} {t : TypeId} {cs : Array Value}
theorem Tu.refl (S : Nat → Prop) (w : World) : Tu S w w := ⟨rfl, rfl, rfl, Nat.le_refl _, fun _ _ _ => rfl⟩
theorem Tu.trans (h : Tu S w w') (k : Tu S' w' w'') (hs : ∀ x, x < w.heap.size → S' x → S x) : Tu S w w'' :=
  ⟨k.os.trans h.os, k.tape.trans h.tape, k.output.trans h.output, Nat.le_trans h.size k.size, fun i hi hn => (k.block i (Nat.lt_of_lt_of_le hi h.size) fun hx => hn (hs i hi hx)).trans (h.block i hi hn)⟩
theorem Tu.mono (h : Tu S w w') (hs : ∀ x, x < w.heap.size → S x → S' x) : Tu S' w w' := ⟨h.os, h.tape, h.output, h.size, fun i hi hn => h.block i hi fun hx => hn (hs i hi hx)⟩
theorem Tu.grown {row : Option Nat} (hg : w.grownBy w' row) : Tu (fun x => some x = row) w w' := ⟨hg.os, hg.tape, hg.output, hg.size, hg.block⟩
theorem Tu.new (hb : Below w.heap.size w w') : Tu S w w' := ⟨hb.os, hb.tape, hb.output, hb.size, fun i hi _ => hb.block i hi⟩
theorem Tu.fresh (hg : w.grownBy w' none) : Tu S w w' := ⟨hg.os, hg.tape, hg.output, hg.size, fun i hi _ => hg.block i hi (by simp)⟩
theorem Tu.below (h : Tu S w w') (hB : ∀ x, x < B → ¬ S x) (hle : B ≤ w.heap.size) : Below B w w' := ⟨h.os, h.tape, h.output, h.size, fun i hi => h.block i (Nat.lt_of_lt_of_le hi hle) (hB i hi)⟩
theorem Tu.draw (h : Tu S w w') : Tu S w w'.drew := ⟨h.os, h.tape, h.output, h.size, h.block⟩
theorem Cells.tu (h : Cells w g t cs) (k : Tu S w w') (hg : ¬ S g) : Cells w' g t cs := (k.block g h.lt hg).trans h
theorem row_tu {base : Nat} {e : TypeId} {size n : Nat} {v : Value} {xs : List Value} (h : w.ownsRow base e size v n xs) (k : Tu S w w') (hg : ∀ x, v.ownBlock = some x → ¬ S x) : w'.ownsRow base e size v n xs := by
  refine ⟨h.1, ?_⟩
  rcases h.2 with h2 | ⟨b, cap, cur, rfl, hb, hh, r⟩
  · exact .inl h2
  · exact .inr ⟨b, cap, cur, rfl, hb, (k.block b (Array.getElem?_eq_some_iff.1 hh).1 (hg b rfl)).trans hh, r⟩
theorem map_tu {P : Program} {kt : TypeId} {R : Value → Option (DataW Unit × List MemPlace)} {n : Nat} {D : DataW Unit} (h : w.ownsMap P kt R g n D) (k : Tu S w w') (hg : ¬ S g) : w'.ownsMap P kt R g n D := by
  have hlt := h.lt
  obtain ⟨es, clock, hb, r⟩ := h
  exact ⟨es, clock, (k.block g hlt hg).trans hb, r⟩
end

structure Fil where
  nm : List UInt8
  g : Nat
  ao : Option Addr
  cap : Nat
  bs : List UInt8
  su : Nat
abbrev Fil.v (f : Fil) : Value := .slice f.ao f.bs.length f.cap
def Fil.ent (f : Fil) : Ent := ⟨f.nm, f.bs, f.su⟩
def Fil.inn (f : Fil) (x : Nat) : Prop := x = f.g ∨ f.v.ownBlock = some x
structure FilAt (w : World) (f : Fil) : Prop where
  blk : Cells w f.g 183 #[f.v, .int .i64 f.su]
  row : w.ownsRow 0 5 1 f.v f.bs.length (bvs f.bs)
def DRf : Value → Option (DataW Unit × List MemPlace)
  | .pointer (some ⟨g, 0, none⟩) => some (.lit (.int .i64 g), [])
  | .pointer none => some (.nil, [])
  | _ => none
theorem DRf_ptr {v : Value} {g : Nat} {ps : List MemPlace} (h : DRf v = some (.lit (.int .i64 g), ps)) : v = .pointer (some ⟨g, 0, none⟩) := by
  unfold DRf at h
  split at h
  · simp only [Option.some.injEq, Prod.mk.injEq, DataW.lit.injEq, Lit.int.injEq, true_and] at h
    rw [show g = _ from (Int.ofNat_inj.1 h.1).symm]
  · cases h
  · cases h
theorem DRf_nil {v : Value} {ps : List MemPlace} (h : DRf v = some (.nil, ps)) : v = .pointer none := by
  unfold DRf at h
  split at h
  · cases h
  · rfl
  · cases h
def dat (f : Fil) : Lit × DataW Unit := (.string f.nm, .lit (.int .i64 f.g))
abbrev dmap (fs : List Fil) : DataW Unit := .map (fs.map dat)
theorem dat_ins (f : Fil) : ∀ fs : List Fil, DataW.insert (dat f) (fs.map dat) = (insK Fil.nm f fs).map dat
  | [] => rfl
  | x :: r => by
    have ih := dat_ins f r
    simp only [List.map_cons, DataW.insert, insK]
    rw [show (dat f).1.before (dat x).1 = bytesBefore f.nm x.nm from rfl]
    split
    · rfl
    · rw [ih, List.map_cons]
theorem dat_del (n : List UInt8) (fs : List Fil) : (dmap fs).del (.string n) = dmap (delK Fil.nm n fs) := by
  simp only [DataW.del, delK, List.filter_map]
  rfl
theorem dat_put (f : Fil) (fs : List Fil) : (dmap fs).put (.string f.nm) (.lit (.int .i64 f.g)) = dmap (insK Fil.nm f (delK Fil.nm f.nm fs)) := by
  have h := dat_del f.nm fs
  simp only [DataW.del] at h
  injection h with h
  simp only [DataW.put]
  rw [h]
  exact congrArg DataW.map (dat_ins f _)
theorem dat_at (n : List UInt8) (fs : List Fil) : (dmap fs).atKey (.string n) .nil = match fndK Fil.nm n fs with | some f => .lit (.int .i64 f.g) | none => .nil := by
  simp only [DataW.atKey, fndK, List.find?_map]
  rw [show ((fun p : Lit × DataW Unit => p.1.sameKey (.string n)) ∘ dat) = fun x => x.nm == n from rfl]
  cases List.find? (fun x => x.nm == n) fs <;> rfl
theorem dat_size (fs : List Fil) : Maps.size (dmap fs) = fs.length := by simp [Maps.size]
theorem dat_keys (fs : List Fil) : strKeys (dmap fs) = fs.map Fil.nm := by
  simp only [strKeys, List.map_map]
  rfl
theorem key_str : Maps.Keyed Tryz.prog 9 := Maps.string_keyed Tryz.underlying9
theorem key_of (n : List UInt8) (h : n.length ≤ maxLen) : keyOf Tryz.prog 9 (.string (str n)) = some (.string n) := by
  have h2 := Tryz.underlying9
  simp [keyOf, h2, mapKey, str_size, h, str_data]

def Foot (gd m : Nat) (fs : List Fil) (x : Nat) : Prop := x = gd ∨ x = m ∨ ∃ f ∈ fs, f.inn x
structure Dj (w : World) (gd m q : Nat) (fs : List Fil) : Prop where
  blk : Cells w gd 82 #[.int .i64 q, .map (some m)]
  map : w.ownsMap Tryz.prog 9 DRf m fs.length (dmap fs)
  fil : ∀ f ∈ fs, FilAt w f
  apart : fs.Pairwise fun a b => ∀ x, a.inn x → ¬ b.inn x
structure Dk (w : World) (gd m q : Nat) (fs : List Fil) : Prop extends Dj w gd m q fs where
  good : DGood q (fs.map Fil.ent)
section
variable {S S' : Nat → Prop} {w w' : World} {gd m q g : Nat} {f f' : Fil} {fs : List Fil}
theorem FilAt.tu (h : FilAt w f) (k : Tu S w w') (hs : ∀ x, f.inn x → ¬ S x) : FilAt w' f := ⟨h.blk.tu k (hs _ (.inl rfl)), row_tu h.row k fun x hx => hs x (.inr hx)⟩
theorem FilAt.lt (h : FilAt w f) {x : Nat} (hx : f.inn x) : x < w.heap.size := by
  rcases hx with rfl | hx
  · exact h.blk.lt
  · exact (h.row.lt x hx).2
theorem FilAt.ne (h : FilAt w f) : f.v.ownBlock ≠ some f.g := row_unlike h.row h.blk (by decide)
theorem Dj.lt (h : Dj w gd m q fs) {x : Nat} (hx : Foot gd m fs x) : x < w.heap.size := by
  rcases hx with rfl | rfl | ⟨f, hf, hx⟩
  · exact h.blk.lt
  · exact h.map.lt
  · exact (h.fil f hf).lt hx
theorem Dj.tu (h : Dj w gd m q fs) (k : Tu S w w') (hs : ∀ x, Foot gd m fs x → ¬ S x) : Dj w' gd m q fs :=
  ⟨h.blk.tu k (hs _ (.inl rfl)), map_tu h.map k (hs _ (.inr (.inl rfl))), fun f hf => (h.fil f hf).tu k fun x hx => hs x (.inr (.inr ⟨f, hf, hx⟩)), h.apart⟩
theorem Dk.tu (h : Dk w gd m q fs) (k : Tu S w w') (hs : ∀ x, Foot gd m fs x → ¬ S x) : Dk w' gd m q fs := ⟨h.toDj.tu k hs, h.good⟩
theorem Dk.new (h : Dk w gd m q fs) (k : Below w.heap.size w w') : Dk w' gd m q fs := h.tu (S := fun _ => False) (.new k) fun _ _ h => h
theorem map_cells {P : Program} {kt : TypeId} {R : Value → Option (DataW Unit × List MemPlace)} {n : Nat} {D : DataW Unit} (h : w.ownsMap P kt R m n D) {t : TypeId} {cs : Array Value} (hc : Cells w g t cs) : m ≠ g := by
  rintro rfl
  obtain ⟨es, clock, hb, _⟩ := h
  unfold Cells at hc
  rw [hb] at hc
  cases hc
theorem map_row {P : Program} {kt : TypeId} {R : Value → Option (DataW Unit × List MemPlace)} {n : Nat} {D : DataW Unit} (h : w.ownsMap P kt R m n D) {e : TypeId} {k : Nat} {v : Value} {xs : List Value} (hr : w.ownsRow 0 e 1 v k xs) : v.ownBlock ≠ some m := by
  obtain ⟨es, clock, hb, _⟩ := h
  rcases hr.2 with ⟨rfl, _⟩ | ⟨b, cap, cur, rfl, _, hh, _⟩
  · simp [Value.ownBlock]
  · intro e
    have : b = m := by simpa [Value.ownBlock] using e
    subst this
    rw [hb] at hh
    cases hh
theorem Dj.gd_fil (h : Dj w gd m q fs) (hf : f ∈ fs) : ¬ f.inn gd := by
  rintro (e | e)
  · exact Cells.unlike h.blk (h.fil f hf).blk (by decide) e
  · exact row_unlike (h.fil f hf).row h.blk (by decide) e
theorem Dj.m_fil (h : Dj w gd m q fs) (hf : f ∈ fs) : ¬ f.inn m := by
  rintro (e | e)
  · exact map_cells h.map (h.fil f hf).blk e
  · exact map_row h.map (h.fil f hf).row e
theorem Dj.gd_m (h : Dj w gd m q fs) : m ≠ gd := map_cells h.map h.blk
theorem Dk.srt (h : Dk w gd m q fs) : Srt Fil.nm fs := by
  have := h.good.srt
  unfold Srt at this ⊢
  rw [List.pairwise_map] at this
  exact this
theorem map_fit {P : Program} {kt : TypeId} {R : Value → Option (DataW Unit × List MemPlace)} {n : Nat} (h : w.ownsMap P kt R m n (dmap fs)) : w.ownsMap P kt R m fs.length (dmap fs) := by
  obtain ⟨es, clock, hb, F, hs, hD⟩ := h
  refine ⟨es, clock, hb, F, ?_, hD⟩
  have := congrArg Maps.size hD
  rw [dat_size] at this
  rw [this]
  simp [Maps.size, length_sorted]
theorem Dk.turn {A B : List Fil} (h : Dk w gd m q (A ++ f :: B)) (k : Tu f.inn w w') (hf : FilAt w' f') (hg : f'.g = f.g) (hn : f'.nm = f.nm) (hi : ∀ x, f'.inn x → f.inn x ∨ w.heap.size ≤ x)
    (hG : DGood q ((A ++ f' :: B).map Fil.ent)) : Dk w' gd m q (A ++ f' :: B) := by
  have hap := List.pairwise_append.1 h.apart
  have hap2 := List.pairwise_cons.1 hap.2.1
  have hd : (A ++ f' :: B).map dat = (A ++ f :: B).map dat := by simp [dat, hg, hn]
  have hl : (A ++ f' :: B).length = (A ++ f :: B).length := by simp
  refine ⟨⟨h.blk.tu k (h.gd_fil (by simp)), ?_, ?_, ?_⟩, hG⟩
  · rw [hl]
    have := map_tu h.map k (h.m_fil (by simp))
    unfold dmap at this ⊢
    rw [hd]; exact this
  · intro x hx
    rcases List.mem_append.1 hx with hx | hx
    · exact (h.fil x (by simp [hx])).tu k fun y hy => hap.2.2 x hx f (by simp) y hy
    · rcases List.mem_cons.1 hx with rfl | hx
      · exact hf
      · exact (h.fil x (by simp [hx])).tu k fun y hy hf => hap2.1 x hx y hf hy
  · refine List.pairwise_append.2 ⟨hap.1, List.pairwise_cons.2 ⟨fun x hx y hy hxy => ?_, hap2.2⟩, fun x hx z hz y hxy hzy => ?_⟩
    · rcases hi y hy with e | e
      · exact hap2.1 x hx y e hxy
      · have := (h.fil x (by simp [hx])).lt hxy; omega
    · rcases List.mem_cons.1 hz with rfl | hz
      · rcases hi y hzy with e | e
        · exact hap.2.2 x hx f (by simp) y hxy e
        · have := (h.fil x (by simp [hx])).lt hxy; omega
      · exact hap.2.2 x hx z (by simp [hz]) y hxy hzy
theorem Dj.less (h : Dj w gd m q fs) {fs' : List Fil} (k : Tu (fun x => x = m) w w') (hm : w'.ownsMap Tryz.prog 9 DRf m fs'.length (dmap fs')) (hs : fs'.Sublist fs) : Dj w' gd m q fs' :=
  ⟨h.blk.tu k (fun e => h.gd_m e.symm), hm, fun f hf => (h.fil f (hs.subset hf)).tu k fun x hx e => h.m_fil (hs.subset hf) (e ▸ hx), h.apart.sublist hs⟩
theorem Dj.put (h : Dj w gd m q fs) (k : Tu (fun x => x = m) w w') (hm : w'.ownsMap Tryz.prog 9 DRf m (insK Fil.nm f (delK Fil.nm f.nm fs)).length (dmap (insK Fil.nm f (delK Fil.nm f.nm fs)))) (hf : FilAt w' f)
    (ha : ∀ x ∈ fs, x.nm ≠ f.nm → ∀ y, f.inn y → ¬ x.inn y) : Dj w' gd m q (insK Fil.nm f (delK Fil.nm f.nm fs)) := by
  refine ⟨h.blk.tu k (fun e => h.gd_m e.symm), hm, fun x hx => ?_, ?_⟩
  · rcases insK_mem.1 hx with rfl | hx
    · exact hf
    · have hx := (delK_mem.1 hx).1
      exact (h.fil x hx).tu k fun y hy e => h.m_fil hx (e ▸ hy)
  · have : (f :: delK Fil.nm f.nm fs).Pairwise fun a b => ∀ x, a.inn x → ¬ b.inn x := List.pairwise_cons.2 ⟨fun x hx => ha x (delK_mem.1 hx).1 (delK_mem.1 hx).2, h.apart.sublist List.filter_sublist⟩
    exact ((insK_perm f _).symm.pairwise_iff (fun {a b} hab x hx hy => hab x hy hx)).1 this
def Fil.key (f : Fil) : List UInt8 × Nat := (f.nm, f.g)
theorem Dk.turnAt2 (h : Dk w gd m q fs) {n : List UInt8} (hf : fndK Fil.nm n fs = some f) (k : Tu f.inn w w') (hf' : FilAt w' f') (hg : f'.g = f.g) (hn : f'.nm = f.nm) (hi : ∀ x, f'.inn x → f.inn x ∨ w.heap.size ≤ x)
    (hG : DGood q (setE f'.ent (fs.map Fil.ent))) : ∃ fs', Dk w' gd m q fs' ∧ fs'.map Fil.ent = setE f'.ent (fs.map Fil.ent) ∧ (∀ x, Foot gd m fs' x → Foot gd m fs x ∨ f'.inn x) ∧ fs'.map Fil.key = fs.map Fil.key := by
  obtain ⟨A, B, rfl, _, e3, e4⟩ := fndK_parts h.srt hf
  have hnm := (fndK_some hf).2
  have keep : ∀ l : List Fil, (∀ y ∈ l, y.nm ≠ f'.nm) → setE f'.ent (l.map Fil.ent) = l.map Fil.ent := fun l hl => by
    unfold setE
    conv => rhs; rw [← List.map_id (l.map Fil.ent)]
    refine List.map_congr_left fun y hy => ?_
    obtain ⟨z, hz, rfl⟩ := List.mem_map.1 hy
    exact if_neg (hl z hz)
  have ka := keep A fun y hy e => nm_lt_ne (e3 y hy) (by rw [e, hn, hnm])
  have kb := keep B fun y hy e => nm_lt_ne (e4 y hy) (by rw [e, hn, hnm])
  have hE : setE f'.ent ((A ++ f :: B).map Fil.ent) = (A ++ f' :: B).map Fil.ent := by
    unfold setE at ka kb ⊢
    rw [List.map_append, List.map_append, List.map_cons, List.map_cons, List.map_append, List.map_cons, ka, kb, if_pos (show f.ent.nm = f'.ent.nm from hn.symm)]
  refine ⟨A ++ f' :: B, h.turn k hf' hg hn hi (hE ▸ hG), hE.symm, ?_, by simp [Fil.key, hg, hn]⟩
  rintro x (e | e | ⟨y, hy, hx⟩)
  · exact .inl (.inl e)
  · exact .inl (.inr (.inl e))
  · rcases List.mem_append.1 hy with hy | hy
    · exact .inl (.inr (.inr ⟨y, by simp [hy], hx⟩))
    · rcases List.mem_cons.1 hy with rfl | hy
      · exact .inr hx
      · exact .inl (.inr (.inr ⟨y, by simp [hy], hx⟩))
theorem Dk.turnAt (h : Dk w gd m q fs) {n : List UInt8} (hf : fndK Fil.nm n fs = some f) (k : Tu f.inn w w') (hf' : FilAt w' f') (hg : f'.g = f.g) (hn : f'.nm = f.nm) (hi : ∀ x, f'.inn x → f.inn x ∨ w.heap.size ≤ x)
    (hG : DGood q (setE f'.ent (fs.map Fil.ent))) : ∃ fs', Dk w' gd m q fs' ∧ fs'.map Fil.ent = setE f'.ent (fs.map Fil.ent) ∧ ∀ x, Foot gd m fs' x → Foot gd m fs x ∨ f'.inn x := by
  obtain ⟨fs', h1, h2, h3, _⟩ := h.turnAt2 hf k hf' hg hn hi hG
  exact ⟨fs', h1, h2, h3⟩
end
def DkS (S : Nat → Prop) (w : World) (v : Value) (q : Nat) (E : List Ent) : Prop :=
  ∃ gd m fs, v = .pointer (some ⟨gd, 0, none⟩) ∧ Dk w gd m q fs ∧ fs.map Fil.ent = E ∧ ∀ x, Foot gd m fs x → S x
section
variable {S S' : Nat → Prop} {w w' : World} {v : Value} {q : Nat} {E : List Ent}
theorem DkS.tu (h : DkS S w v q E) (k : Tu S' w w') (hs : ∀ x, x < w.heap.size → S x → ¬ S' x) : DkS S w' v q E := by
  obtain ⟨gd, m, fs, rfl, hd, rfl, hS⟩ := h
  exact ⟨gd, m, fs, rfl, hd.tu k fun x hx => hs x (hd.lt hx) (hS x hx), rfl, hS⟩
theorem DkS.mono (h : DkS S w v q E) (hs : ∀ x, x < w.heap.size → S x → S' x) : DkS S' w v q E := by
  obtain ⟨gd, m, fs, rfl, hd, rfl, hS⟩ := h
  exact ⟨gd, m, fs, rfl, hd, rfl, fun x hx => hs x (hd.lt hx) (hS x hx)⟩
theorem DkS.new (h : DkS S w v q E) (k : Below w.heap.size w w') : DkS S w' v q E := h.tu (S' := fun _ => False) (.new k) fun _ _ _ h => h
theorem DkS.good (h : DkS S w v q E) : DGood q E := by obtain ⟨gd, m, fs, rfl, hd, rfl, hS⟩ := h; exact hd.good
end
def NilD (w : World) (v : Value) : Prop := v = .pointer none ∨ ∃ g q, v = .pointer (some ⟨g, 0, none⟩) ∧ Cells w g 82 #[.int .i64 q, .map none]
theorem NilD.new {w w' : World} {v : Value} (h : NilD w v) (k : Below w.heap.size w w') : NilD w' v := by
  rcases h with rfl | ⟨g, q, rfl, hc⟩
  · exact .inl rfl
  · exact .inr ⟨g, q, rfl, hc.below k hc.lt⟩
theorem ent_map (fs : List Fil) (n : List UInt8) : fnd n (fs.map Fil.ent) = (fndK Fil.nm n fs).map Fil.ent := fndK_map Fil.ent (fun _ => rfl) n fs
end Go.Proofs.YtgeaacabpnepmaaGreatDoor
