/- A disk as plain lists: files sorted by their names; what each act makes of them. Nothing of the program. -/
import Derived.Test.YtacgmadgkmcmoaaGreatDoorAa
import Derived.Sort.KeysCollected
import Derived.Sort.Walk0
import Derived.WideAt
namespace Go.Proofs.YtacgmadgkmcmoaaGreatDoor
open Go.RowKit
set_option linter.unusedVariables false

section
variable {α β : Type} (k : α → List UInt8)
def insK (x : α) : List α → List α
  | [] => [x]
  | y :: r => if bytesBefore (k x) (k y) then x :: y :: r else y :: insK x r
def delK (n : List UInt8) (l : List α) : List α := l.filter fun x => !(k x == n)
def fndK (n : List UInt8) (l : List α) : Option α := l.find? fun x => k x == n
def Srt (l : List α) : Prop := l.Pairwise fun x y => k x < k y
end
theorem before_eq : ∀ (x y : List UInt8), bytesBefore x y = decide (x < y) := fun x y => by
  rw [← bytesLess_eq]
  induction x generalizing y with
  | nil => cases y <;> rfl
  | cons a x ih =>
    cases y with
    | nil => rfl
    | cons b y => simp only [bytesBefore, Op.bytesLess, ih]
theorem nm_lt_irrefl (a : List UInt8) : ¬ a < a := fun h => by
  have := WideAt.bytes_irrefl a
  rw [before_eq, decide_eq_false_iff_not] at this
  exact this h
theorem nm_lt_ne {a b : List UInt8} (h : a < b) : a ≠ b := fun e => nm_lt_irrefl b (e ▸ h)
theorem nm_trans {a b c : List UInt8} (h : a < b) (h' : b < c) : a < c := List.lt_trans h h'
theorem nm_total {a b : List UInt8} (h : a ≠ b) : a < b ∨ b < a := by
  have := WideAt.bytes_total a b h
  simpa [before_eq] using this
section
variable {α β : Type} {k : α → List UInt8} {k' : β → List UInt8}
theorem insK_map (f : α → β) (hf : ∀ x, k' (f x) = k x) (x : α) : ∀ l : List α, (insK k x l).map f = insK k' (f x) (l.map f)
  | [] => rfl
  | y :: r => by
    simp only [insK, List.map_cons, hf]
    split
    · rfl
    · rw [List.map_cons, insK_map f hf x r]
theorem delK_map (f : α → β) (hf : ∀ x, k' (f x) = k x) (n : List UInt8) (l : List α) : (delK k n l).map f = delK k' n (l.map f) := by
  simp only [delK, List.filter_map]
  congr 2
  funext x
  simp [hf]
theorem fndK_map (f : α → β) (hf : ∀ x, k' (f x) = k x) (n : List UInt8) (l : List α) : fndK k' n (l.map f) = (fndK k n l).map f := by
  simp only [fndK, List.find?_map]
  congr 2
  funext x
  simp [hf]
theorem insK_perm (x : α) : ∀ l : List α, (insK k x l).Perm (x :: l)
  | [] => List.Perm.refl _
  | y :: r => by
    simp only [insK]
    split
    · exact List.Perm.refl _
    · exact ((insK_perm x r).cons y).trans (List.Perm.swap x y r)
theorem insK_mem {x z : α} {l : List α} : z ∈ insK k x l ↔ z = x ∨ z ∈ l := by rw [(insK_perm x l).mem_iff, List.mem_cons]
theorem insK_len (x : α) (l : List α) : (insK k x l).length = l.length + 1 := by rw [(insK_perm x l).length_eq]; rfl
theorem insK_srt (x : α) : ∀ l : List α, Srt k l → (∀ y ∈ l, k y ≠ k x) → Srt k (insK k x l)
  | [], _, _ => List.pairwise_singleton _ _
  | y :: r, h, hn => by
    obtain ⟨h1, h2⟩ := List.pairwise_cons.1 h
    simp only [insK, before_eq, decide_eq_true_eq]
    split
    · rename_i hb
      refine List.pairwise_cons.2 ⟨fun z hz => ?_, h⟩
      rcases List.mem_cons.1 hz with rfl | hz
      · exact hb
      · exact nm_trans hb (h1 z hz)
    · rename_i hb
      have hyx : k y < k x := (nm_total (hn y (by simp))).resolve_right hb
      refine List.pairwise_cons.2 ⟨fun z hz => ?_, insK_srt x r h2 fun z hz => hn z (by simp [hz])⟩
      rcases insK_mem.1 hz with rfl | hz
      · exact hyx
      · exact h1 z hz
theorem delK_srt (n : List UInt8) {l : List α} (h : Srt k l) : Srt k (delK k n l) := h.filter _
theorem delK_mem {n : List UInt8} {l : List α} {x : α} : x ∈ delK k n l ↔ x ∈ l ∧ k x ≠ n := by simp [delK]
theorem delK_none {n : List UInt8} {l : List α} (h : fndK k n l = none) : delK k n l = l := by
  refine List.filter_eq_self.2 fun x hx => ?_
  have := List.find?_eq_none.1 h x hx
  simpa using this
theorem fndK_some {n : List UInt8} {l : List α} {x : α} (h : fndK k n l = some x) : x ∈ l ∧ k x = n := ⟨List.mem_of_find?_eq_some h, by simpa using List.find?_some h⟩
theorem srt_one {l : List α} (h : Srt k l) {x y : α} (hx : x ∈ l) (hy : y ∈ l) (e : k x = k y) : x = y := by
  obtain ⟨i, hi, rfl⟩ := List.getElem_of_mem hx
  obtain ⟨j, hj, rfl⟩ := List.getElem_of_mem hy
  have hp := List.pairwise_iff_getElem.1 h
  rcases Nat.lt_trichotomy i j with h1 | h1 | h1
  · exact absurd e (nm_lt_ne (hp i j hi hj h1))
  · subst h1; rfl
  · exact absurd e.symm (nm_lt_ne (hp j i hj hi h1))
theorem fndK_of_mem {l : List α} (h : Srt k l) {x : α} (hx : x ∈ l) : fndK k (k x) l = some x := by
  cases hf : fndK k (k x) l with
  | none => exact absurd (List.find?_eq_none.1 hf x hx) (by simp)
  | some y => obtain ⟨h1, h2⟩ := fndK_some hf; rw [srt_one h h1 hx h2]
/-- What was found, at its place. -/
theorem fndK_parts {n : List UInt8} : ∀ {l : List α}, Srt k l → ∀ {x : α}, fndK k n l = some x → ∃ a b, l = a ++ x :: b ∧ delK k n l = a ++ b ∧ (∀ y ∈ a, k y < n) ∧ (∀ y ∈ b, n < k y)
  | [], _, _, h => by simp [fndK] at h
  | y :: r, hs, x, h => by
    obtain ⟨h1, h2⟩ := List.pairwise_cons.1 hs
    by_cases hy : k y = n
    · have hx : y = x := by simpa [fndK, List.find?_cons, hy] using h
      subst hx
      refine ⟨[], r, rfl, ?_, by simp, fun z hz => hy ▸ h1 z hz⟩
      have : delK k n r = r := List.filter_eq_self.2 fun z hz => by
        have := nm_lt_ne (h1 z hz)
        simp; rw [← hy]; exact fun e => this e.symm
      simp only [delK] at this
      simp [delK, hy, this]
    · have hr : fndK k n r = some x := by simpa [fndK, List.find?_cons, hy] using h
      obtain ⟨a, b, e1, e2, e3, e4⟩ := fndK_parts h2 hr
      refine ⟨y :: a, b, by rw [e1]; rfl, ?_, fun z hz => ?_, e4⟩
      · simp only [delK] at e2
        simp [delK, hy, e2]
      · rcases List.mem_cons.1 hz with rfl | hz
        · have hx := (fndK_some hr)
          have := h1 x hx.1
          rw [hx.2] at this; exact this
        · exact e3 z hz
theorem insK_at (x : α) : ∀ (a b : List α), (∀ y ∈ a, k y < k x) → (∀ y ∈ b, k x < k y) → insK k x (a ++ b) = a ++ x :: b
  | [], [], _, _ => rfl
  | [], y :: r, _, h => by
    have := h y (by simp)
    simp [insK, before_eq, this]
  | y :: a, b, h, h' => by
    have h1 := h y (by simp)
    have : ¬ k x < k y := fun e => nm_lt_irrefl _ (nm_trans h1 e)
    simp only [List.cons_append, insK, before_eq, decide_eq_true_eq, if_neg this]
    rw [insK_at x a b (fun z hz => h z (by simp [hz])) h']
theorem srt_perm_keys {l : List α} (h : Srt k l) {ss : List (List UInt8)} (hp : ss.Perm (l.map k)) : ss.mergeSort (fun x y => decide (x ≤ y)) = l.map k := by
  have tr : ∀ a b c : List UInt8, leB a b = true → leB b c = true → leB a c = true := fun a b c h1 h2 => by simp only [leB, decide_eq_true_eq] at *; exact List.le_trans h1 h2
  have to : ∀ a b : List UInt8, (leB a b || leB b a) = true := fun a b => by simp only [leB, Bool.or_eq_true, decide_eq_true_eq]; exact List.le_total a b
  refine List.Perm.eq_of_pairwise (le := fun a b => leB a b = true) (fun a b _ _ h1 h2 => ?_) (List.pairwise_mergeSort tr to ss) ?_ ((List.mergeSort_perm ss leB).trans hp)
  · simp only [leB, decide_eq_true_eq] at h1 h2
    exact List.le_antisymm h1 h2
  · refine List.pairwise_map.2 (List.Pairwise.imp (fun {a b} hab => ?_) h)
    simp only [leB, decide_eq_true_eq]
    exact List.le_of_lt hab
end
/-- A file: its name, its bytes, how many of them are sure. -/
structure Ent where
  nm : List UInt8
  bs : List UInt8
  su : Nat
def setE (f : Ent) (E : List Ent) : List Ent := E.map fun e => if e.nm = f.nm then f else e
def nmc (b : UInt8) : Bool := (97 ≤ b.toNat && b.toNat ≤ 122) || (48 ≤ b.toNat && b.toNat ≤ 57) || b.toNat == 46 || b.toNat == 45
def isNm (l : List UInt8) : Bool := decide (1 ≤ l.length) && decide (l.length ≤ 32) && l.all nmc
def used (E : List Ent) : Nat := (E.map fun e => e.bs.length).sum
abbrev fnd (n : List UInt8) (E : List Ent) : Option Ent := fndK Ent.nm n E
/-- What may be: sorted, at most 64 files, named as may be, of at most 65536 bytes, together at most q. -/
structure DGood (q : Nat) (E : List Ent) : Prop where
  q1 : 1 ≤ q
  q2 : q ≤ 1048576
  srt : Srt Ent.nm E
  len : E.length ≤ 64
  nms : ∀ e ∈ E, isNm e.nm = true
  sure : ∀ e ∈ E, e.su ≤ e.bs.length
  most : ∀ e ∈ E, e.bs.length ≤ 65536
  use : used E ≤ q
/-- The acts: what is answered, and what stands behind. -/
def eFind (E : List Ent) (n : List UInt8) : Nat := if isNm n then (match fnd n E with | some _ => 0 | none => 5) else 2
def eCreate (E : List Ent) (n : List UInt8) : Nat := if isNm n then (match fnd n E with | some _ => 6 | none => if 64 ≤ E.length then 7 else 0) else 2
def aCreate (E : List Ent) (n : List UInt8) : List Ent := if eCreate E n = 0 then insK Ent.nm ⟨n, [], 0⟩ E else E
def eAppend (q : Nat) (E : List Ent) (n b : List UInt8) : Nat :=
  if isNm n then (match fnd n E with | some f => if 65536 < f.bs.length + b.length ∨ q < used E + b.length then 7 else 0 | none => 5) else 2
def aAppend (q : Nat) (E : List Ent) (n b : List UInt8) : List Ent :=
  if eAppend q E n b = 0 then (match fnd n E with | some f => setE ⟨f.nm, f.bs ++ b, f.su⟩ E | none => E) else E
def aSync (E : List Ent) (n : List UInt8) : List Ent := if isNm n then (match fnd n E with | some f => setE ⟨f.nm, f.bs, f.bs.length⟩ E | none => E) else E
def aRemove (E : List Ent) (n : List UInt8) : List Ent := if isNm n then delK Ent.nm n E else E
def eRename (E : List Ent) (a b : List UInt8) : Nat := if isNm a && isNm b then (match fnd a E with | some _ => 0 | none => 5) else 2
def aRename (E : List Ent) (a b : List UInt8) : List Ent :=
  if isNm a && isNm b then (match fnd a E with | some f => insK Ent.nm ⟨b, f.bs, f.su⟩ (delK Ent.nm b (delK Ent.nm a E)) | none => E) else E
def rd (E : List Ent) (n : List UInt8) : List UInt8 := if isNm n then (match fnd n E with | some f => f.bs | none => []) else []
def sy (E : List Ent) (n : List UInt8) : Nat := if isNm n then (match fnd n E with | some f => f.su | none => 0) else 0
/-- How much of a tail is kept: the number modulo one more than its length, never below 0. -/
def kept (k : Int) (m : Nat) : Nat := (k % (m : Int)).toNat
def tearE (k : Int) (f : Ent) : Ent := let m := f.su + kept k (f.bs.length - f.su + 1); ⟨f.nm, f.bs.take m, m⟩
def numAt (ks : List Int) (i : Nat) : Int := if ks = [] then 0 else ks[i % ks.length]?.getD 0
def tears (ks : List Int) : Nat → List Ent → List Ent
  | _, [] => []
  | i, f :: r => tearE (numAt ks i) f :: tears ks (i + 1) r
def aCrash (ks : List Int) (E : List Ent) : List Ent := tears ks 0 E
/-! What may be goes on being so. -/
theorem used_nil : used [] = 0 := rfl
theorem used_cons (e : Ent) (E : List Ent) : used (e :: E) = e.bs.length + used E := rfl
theorem used_app (A B : List Ent) : used (A ++ B) = used A + used B := by simp [used]
theorem used_ins (e : Ent) (E : List Ent) : used (insK Ent.nm e E) = e.bs.length + used E := by
  unfold used
  rw [((insK_perm e E).map _).sum_nat]
  rfl
theorem used_del (n : List UInt8) : ∀ E : List Ent, used (delK Ent.nm n E) ≤ used E
  | [] => Nat.le_refl _
  | e :: E => by
    have := used_del n E
    by_cases h : e.nm = n
    · simp [delK, h] at this ⊢; rw [used_cons]; omega
    · simp [delK, h] at this ⊢; rw [used_cons, used_cons]; omega
theorem used_del_some {n : List UInt8} {E : List Ent} (hs : Srt Ent.nm E) {f : Ent} (h : fnd n E = some f) : used E = f.bs.length + used (delK Ent.nm n E) := by
  obtain ⟨a, b, e1, e2, _, _⟩ := fndK_parts hs h
  rw [e2, e1, used_app, used_cons, used_app]; omega
theorem del_len (n : List UInt8) (E : List Ent) : (delK Ent.nm n E).length ≤ E.length := List.length_filter_le _ _
theorem del_len_some {n : List UInt8} {E : List Ent} (hs : Srt Ent.nm E) {f : Ent} (h : fnd n E = some f) : E.length = (delK Ent.nm n E).length + 1 := by
  obtain ⟨a, b, e1, e2, _, _⟩ := fndK_parts hs h
  rw [e2, e1]; simp; omega
/-- A file set: the one at its place. -/
theorem setE_at {n : List UInt8} {E : List Ent} (hs : Srt Ent.nm E) {f : Ent} (h : fnd n E = some f) (g : Ent) (hg : g.nm = f.nm) : ∃ a b, E = a ++ f :: b ∧ setE g E = a ++ g :: b := by
  obtain ⟨a, b, e1, _, e3, e4⟩ := fndK_parts hs h
  have hn := (fndK_some h).2
  refine ⟨a, b, e1, ?_⟩
  have keep : ∀ l : List Ent, (∀ y ∈ l, y.nm ≠ g.nm) → setE g l = l := fun l hl => by
    unfold setE
    conv => rhs; rw [← List.map_id l]
    exact List.map_congr_left fun y hy => if_neg (hl y hy)
  have ka := keep a fun y hy e => nm_lt_ne (e3 y hy) (by rw [e, hg, hn])
  have kb := keep b fun y hy e => nm_lt_ne (e4 y hy) (by rw [e, hg, hn])
  rw [e1]
  unfold setE at ka kb ⊢
  rw [List.map_append, List.map_cons, ka, kb, if_pos hg.symm]
theorem good_set {q : Nat} {E : List Ent} (h : DGood q E) {n : List UInt8} {f g : Ent} (hf : fnd n E = some f) (hg : g.nm = f.nm) (h1 : g.su ≤ g.bs.length) (h2 : g.bs.length ≤ 65536) (h3 : used E + g.bs.length ≤ q + f.bs.length) : DGood q (setE g E) := by
  obtain ⟨a, b, e1, e2⟩ := setE_at h.srt hf g hg
  have hm : (setE g E).map Ent.nm = E.map Ent.nm := by rw [e2, e1]; simp [hg]
  have mem : ∀ e ∈ setE g E, e = g ∨ e ∈ E := fun e he => by
    rw [e2] at he; rw [e1]
    rcases List.mem_append.1 he with he | he
    · exact .inr (List.mem_append.2 (.inl he))
    · rcases List.mem_cons.1 he with he | he
      · exact .inl he
      · exact .inr (List.mem_append.2 (.inr (List.mem_cons_of_mem _ he)))
  have hfE := (fndK_some hf).1
  refine ⟨h.q1, h.q2, ?_, ?_, ?_, ?_, ?_, ?_⟩
  · have := h.srt
    unfold Srt at this ⊢
    rw [← List.pairwise_map (f := Ent.nm) (R := fun x y => x < y)] at this ⊢
    rw [hm]; exact this
  · have := congrArg List.length hm; simp at this; rw [this]; exact h.len
  · intro e he
    rcases mem e he with rfl | he
    · rw [hg]; exact h.nms f hfE
    · exact h.nms e he
  · intro e he
    rcases mem e he with rfl | he
    · exact h1
    · exact h.sure e he
  · intro e he
    rcases mem e he with rfl | he
    · exact h2
    · exact h.most e he
  · rw [e2, used_app, used_cons]
    rw [e1, used_app, used_cons] at h3
    omega
theorem good_del {q : Nat} {E : List Ent} (h : DGood q E) (n : List UInt8) : DGood q (delK Ent.nm n E) :=
  ⟨h.q1, h.q2, delK_srt n h.srt, Nat.le_trans (del_len n E) h.len, fun e he => h.nms e (delK_mem.1 he).1, fun e he => h.sure e (delK_mem.1 he).1, fun e he => h.most e (delK_mem.1 he).1, Nat.le_trans (used_del n E) h.use⟩
theorem good_ins {q : Nat} {E : List Ent} (h : DGood q E) (f : Ent) (hn : ∀ y ∈ E, y.nm ≠ f.nm) (h0 : isNm f.nm = true) (h1 : f.su ≤ f.bs.length) (h2 : f.bs.length ≤ 65536) (h3 : f.bs.length + used E ≤ q) (h4 : E.length + 1 ≤ 64) : DGood q (insK Ent.nm f E) := by
  refine ⟨h.q1, h.q2, insK_srt f E h.srt hn, by rw [insK_len]; exact h4, ?_, ?_, ?_, by rw [used_ins]; exact h3⟩
  · intro e he
    rcases insK_mem.1 he with rfl | he
    · exact h0
    · exact h.nms e he
  · intro e he
    rcases insK_mem.1 he with rfl | he
    · exact h1
    · exact h.sure e he
  · intro e he
    rcases insK_mem.1 he with rfl | he
    · exact h2
    · exact h.most e he
theorem good_create {q : Nat} {E : List Ent} (h : DGood q E) (n : List UInt8) : DGood q (aCreate E n) := by
  unfold aCreate
  split
  · rename_i h0
    unfold eCreate at h0
    split at h0
    · rename_i hn
      split at h0
      · cases h0
      · rename_i hf
        split at h0
        · cases h0
        · have hnone := List.find?_eq_none.1 hf
          exact good_ins h ⟨n, [], 0⟩ (fun y hy => by have := hnone y hy; simpa using this) hn (Nat.le_refl _) (by simp) (by have := h.use; simpa using this) (by omega)
    · cases h0
  · exact h
theorem good_append {q : Nat} {E : List Ent} (h : DGood q E) (n b : List UInt8) : DGood q (aAppend q E n b) := by
  unfold aAppend
  split
  · rename_i h0
    cases hf : fnd n E with
    | none => exact h
    | some f =>
      simp only [eAppend, hf] at h0
      split at h0
      · split at h0
        · cases h0
        · rename_i hn
          have := h.sure f (fndK_some hf).1
          refine good_set h hf rfl ?_ ?_ ?_
          · simp; omega
          · simp; omega
          · simp; omega
      · cases h0
  · exact h
theorem good_sync {q : Nat} {E : List Ent} (h : DGood q E) (n : List UInt8) : DGood q (aSync E n) := by
  unfold aSync
  split
  · cases hf : fnd n E with
    | none => exact h
    | some f => exact good_set h hf rfl (Nat.le_refl _) (h.most f (fndK_some hf).1) (by have := h.use; simp; omega)
  · exact h
theorem good_remove {q : Nat} {E : List Ent} (h : DGood q E) (n : List UInt8) : DGood q (aRemove E n) := by
  unfold aRemove
  split
  · exact good_del h n
  · exact h
theorem good_rename {q : Nat} {E : List Ent} (h : DGood q E) (a b : List UInt8) : DGood q (aRename E a b) := by
  unfold aRename
  split
  · rename_i hab
    cases hf : fnd a E with
    | none => exact h
    | some f =>
      have hm := (fndK_some hf).1
      have hl := del_len_some h.srt hf
      have hu := used_del_some h.srt hf
      have h1 := del_len b (delK Ent.nm a E)
      have h2 := used_del b (delK Ent.nm a E)
      have h3 := h.len
      have h4 := h.use
      refine good_ins (good_del (good_del h a) b) ⟨b, f.bs, f.su⟩ (fun y hy => (delK_mem.1 hy).2) ?_ (h.sure f hm) (h.most f hm) ?_ ?_
      · simp at hab; exact hab.2
      · simp only; omega
      · omega
  · exact h
theorem tears_len (ks : List Int) : ∀ (i : Nat) (E : List Ent), (tears ks i E).length = E.length
  | _, [] => rfl
  | i, f :: r => by simp [tears, tears_len ks (i + 1) r]
theorem tears_app (ks : List Int) : ∀ (i : Nat) (A B : List Ent), tears ks i (A ++ B) = tears ks i A ++ tears ks (i + A.length) B
  | i, [], B => by simp [tears]
  | i, f :: r, B => by simp only [List.cons_append, tears, tears_app ks (i + 1) r B, List.length_cons]; rw [show i + 1 + r.length = i + (r.length + 1) by omega]
theorem kept_le (k : Int) (m : Nat) : kept k (m + 1) ≤ m := by
  unfold kept
  have h1 : 0 ≤ k % ((m + 1 : Nat) : Int) := Int.emod_nonneg _ (by omega)
  have h2 : k % ((m + 1 : Nat) : Int) < ((m + 1 : Nat) : Int) := Int.emod_lt_of_pos _ (by omega)
  omega
theorem tearE_len {f : Ent} (h : f.su ≤ f.bs.length) (k : Int) : (tearE k f).bs.length = (tearE k f).su ∧ (tearE k f).su ≤ f.bs.length := by
  have := kept_le k (f.bs.length - f.su)
  simp only [tearE, List.length_take]
  omega
end Go.Proofs.YtacgmadgkmcmoaaGreatDoor
