/- The plain mathematics of layer 6: runs of equal inputs, their bytes, what bytes are as a list of inputs. Nothing of the program. -/
import Derived.Test.YtkhecaohbmlnlaaNum
namespace Go.Proofs.Ytkhecaohbmlnlaa
open Go.RowKit
set_option linter.unusedVariables false

/-- How often a stands at the head. -/
def cnt (a : UInt8) : List UInt8 → Nat
  | [] => 0
  | b :: r => if b = a then cnt a r + 1 else 0
/-- The runs of a list that stands behind p: what still belongs to p's run is left out. -/
def gp : Option UInt8 → List UInt8 → List (Nat × UInt8)
  | _, [] => []
  | p, a :: r => if p = some a then gp p r else (cnt a r + 1, a) :: gp (some a) r
def er : List (Nat × UInt8) → List UInt8
  | [] => []
  | x :: r => vr x.1 ++ x.2 :: er r
def ex : List (Nat × UInt8) → List UInt8
  | [] => []
  | x :: r => List.replicate x.1 x.2 ++ ex r
def ok64 (l : List UInt8) : Prop := ∀ a ∈ l, a.toNat < 64
instance (l : List UInt8) : Decidable (ok64 l) := by unfold ok64; infer_instance
/-- A list's bytes. -/
def enc (l : List UInt8) : List UInt8 := vr (gp none l).length ++ er (gp none l)
def pk (l : List UInt8) : List UInt8 := if ok64 l then enc l else []
/-- Runs as they must be, behind p. -/
def Pr : Option UInt8 → List (Nat × UInt8) → Prop
  | _, [] => True
  | p, x :: r => 0 < x.1 ∧ x.1 < 18446744073709551616 ∧ x.2.toNat < 64 ∧ p ≠ some x.2 ∧ Pr (some x.2) r

theorem ok_nil : ok64 [] := by intro a h; simp at h
theorem ok_cons {a : UInt8} {r : List UInt8} : ok64 (a :: r) ↔ a.toNat < 64 ∧ ok64 r := by simp [ok64]
theorem ok_append {a b : List UInt8} : ok64 (a ++ b) ↔ ok64 a ∧ ok64 b := by
  unfold ok64
  constructor
  · intro h; exact ⟨fun x hx => h x (List.mem_append.2 (.inl hx)), fun x hx => h x (List.mem_append.2 (.inr hx))⟩
  · rintro ⟨h1, h2⟩ x hx
    rcases List.mem_append.1 hx with h | h
    · exact h1 x h
    · exact h2 x h
theorem ok_rep {n : Nat} {a : UInt8} (h : a.toNat < 64) : ok64 (List.replicate n a) := by
  intro x hx
  rw [(List.mem_replicate.1 hx).2]; exact h
theorem cnt_le (a : UInt8) : ∀ l, cnt a l ≤ l.length
  | [] => by simp [cnt]
  | b :: r => by
    have := cnt_le a r
    unfold cnt
    split <;> simp <;> omega
theorem cnt_at (a : UInt8) : ∀ (l : List UInt8) (k : Nat), k < cnt a l → l[k]? = some a
  | [], k, h => by simp [cnt] at h
  | b :: r, k, h => by
    unfold cnt at h
    split at h
    · rename_i e
      subst e
      cases k with
      | zero => rfl
      | succ k => simpa using cnt_at b r k (by omega)
    · omega
theorem cnt_end (a : UInt8) : ∀ (l : List UInt8), l[cnt a l]? ≠ some a
  | [] => by simp
  | b :: r => by
    unfold cnt
    split
    · have := cnt_end a r
      simpa using this
    · rename_i e
      simpa using e
theorem cnt_unique (a : UInt8) (l : List UInt8) (n : Nat) (hn : n ≤ l.length) (h1 : ∀ k, k < n → l[k]? = some a) (h2 : l[n]? ≠ some a) : cnt a l = n := by
  rcases Nat.lt_trichotomy (cnt a l) n with h | h | h
  · exact absurd (h1 _ h) (cnt_end a l)
  · exact h
  · exact absurd (cnt_at a l n h) h2
theorem gp_drop (a : UInt8) : ∀ l, gp (some a) l = gp none (l.drop (cnt a l))
  | [] => by simp [gp]
  | b :: r => by
    by_cases e : b = a
    · subst e
      rw [gp, if_pos rfl, gp_drop b r]
      simp [cnt]
    · have h : ¬ (some a = some b) := fun h => e (by injection h with h; exact h.symm)
      simp [cnt, e, gp, Ne.symm e]
/-- The first run, and what is behind it. -/
theorem gp_cons (a : UInt8) (r : List UInt8) : gp none (a :: r) = (cnt a (a :: r), a) :: gp none ((a :: r).drop (cnt a (a :: r))) := by
  rw [gp, if_neg (by simp), gp_drop]
  simp [cnt]
theorem rep_split (a : UInt8) : ∀ l, List.replicate (cnt a l) a ++ l.drop (cnt a l) = l
  | [] => by simp [cnt]
  | b :: r => by
    unfold cnt
    split
    · rename_i e
      subst e
      simp [List.replicate_succ, rep_split b r]
    · simp
theorem ex_gp : ∀ (l : List UInt8), ex (gp none l) = l ∧ ∀ a, ex (gp (some a) l) = l.drop (cnt a l)
  | [] => by simp [gp, ex]
  | b :: r => by
    obtain ⟨_, ih⟩ := ex_gp r
    have h1 : ex ((cnt b r + 1, b) :: gp (some b) r) = b :: r := by
      simp only [ex, ih b, List.replicate_succ, List.cons_append, rep_split]
    refine ⟨by rw [gp, if_neg (by simp), h1], fun a => ?_⟩
    by_cases e : b = a
    · subst e
      rw [gp, if_pos rfl, ih]
      simp [cnt]
    · rw [gp, if_neg (fun h => e (by injection h with h; exact h.symm)), h1]
      simp [cnt, e]
theorem pr_gp : ∀ (l : List UInt8) (p : Option UInt8), ok64 l → l.length < 18446744073709551616 → Pr p (gp p l)
  | [], p, _, _ => by simp [gp, Pr]
  | a :: r, p, h, hl => by
    rw [ok_cons] at h
    have hc := cnt_le a r
    simp at hl
    unfold gp
    split
    · exact pr_gp r p h.2 (by omega)
    · rename_i e
      exact ⟨by simp, by show cnt a r + 1 < _; omega, h.1, e, pr_gp r (some a) h.2 (by omega)⟩
theorem cnt_rep (a : UInt8) (t : List UInt8) : ∀ n, cnt a (List.replicate n a ++ t) = n + cnt a t
  | 0 => by simp
  | n + 1 => by simp [List.replicate_succ, cnt, cnt_rep a t n]; omega
theorem gp_rep (a : UInt8) (t : List UInt8) : ∀ n, gp (some a) (List.replicate n a ++ t) = gp (some a) t
  | 0 => by simp
  | n + 1 => by simp [List.replicate_succ, gp, gp_rep a t n]
theorem cnt_ex {a : UInt8} : ∀ {rs : List (Nat × UInt8)}, Pr (some a) rs → cnt a (ex rs) = 0
  | [], _ => by simp [ex, cnt]
  | x :: r, h => by
    obtain ⟨h1, _, _, h4, _⟩ := h
    obtain ⟨m, hm⟩ : ∃ m, x.1 = m + 1 := ⟨x.1 - 1, by omega⟩
    have : ¬ (x.2 = a) := fun e => h4 (by rw [e])
    simp [ex, hm, List.replicate_succ, cnt, this]
theorem gp_ex : ∀ (rs : List (Nat × UInt8)) (p : Option UInt8), Pr p rs → gp p (ex rs) = rs
  | [], p, _ => by simp [ex, gp]
  | x :: r, p, h => by
    obtain ⟨h1, _, _, h4, h5⟩ := h
    obtain ⟨m, hm⟩ : ∃ m, x.1 = m + 1 := ⟨x.1 - 1, by omega⟩
    have ih := gp_ex r (some x.2) h5
    simp only [ex, hm, List.replicate_succ, List.cons_append]
    rw [gp, if_neg h4, gp_rep, cnt_rep, cnt_ex h5, ih]
    congr 1
    rw [show m + 0 + 1 = x.1 from by omega]
theorem ok_ex : ∀ (rs : List (Nat × UInt8)) (p : Option UInt8), Pr p rs → ok64 (ex rs)
  | [], _, _ => ok_nil
  | x :: r, p, h => by
    obtain ⟨_, _, h3, _, h5⟩ := h
    exact ok_append.2 ⟨ok_rep h3, ok_ex r _ h5⟩
theorem len_ex : ∀ (rs : List (Nat × UInt8)) (p : Option UInt8), Pr p rs → rs.length ≤ (ex rs).length
  | [], _, _ => by simp [ex]
  | x :: r, p, h => by
    have := len_ex r _ h.2.2.2.2
    have := h.1
    simp [ex]; omega
theorem gp_len (l : List UInt8) : ∀ p, (gp p l).length ≤ l.length := by
  induction l with
  | nil => simp [gp]
  | cons a r ih =>
    intro p
    unfold gp
    split
    · have := ih p; simp; omega
    · have := ih (some a); simp; omega
theorem er_len : ∀ (rs : List (Nat × UInt8)), (er rs).length ≤ 11 * rs.length
  | [] => by simp [er]
  | x :: r => by
    have := er_len r
    have := (vr_len x.1).2
    simp [er]; omega
theorem er_append : ∀ (a b : List (Nat × UInt8)), er (a ++ b) = er a ++ er b
  | [], b => by simp [er]
  | x :: a, b => by simp [er, er_append a b]

/-- What is wrong with a run at the head, read behind p, with room for so many. -/
def rerr (l : List UInt8) : Int := fin (vd 0 l).err (num 1 (vd 0 l).rest).err
def rbyt (l : List UInt8) : Nat := (num 1 (vd 0 l).rest).val
def rrst (l : List UInt8) : List UInt8 := (num 1 (vd 0 l).rest).rest
def rbad (p : Option UInt8) (room : Nat) (l : List UInt8) : Int :=
  if rerr l ≠ 0 then rerr l else if (vd 0 l).val = 0 ∨ 64 ≤ rbyt l ∨ p = some (UInt8.ofNat (rbyt l)) then 4 else if room < (vd 0 l).val then 3 else 0
def rnew (acc l : List UInt8) : List UInt8 := acc ++ List.replicate (vd 0 l).val (UInt8.ofNat (rbyt l))
def ur (M : Nat) : Nat → List UInt8 → List UInt8 → Got (List UInt8)
  | 0, acc, l => ⟨0, acc, l⟩
  | k + 1, acc, l => if rbad acc.getLast? (M - acc.length) l = 0 then ur M k (rnew acc l) (rrst l) else ⟨rbad acc.getLast? (M - acc.length) l, [], []⟩
/-- What any bytes are. -/
def upE (M : Nat) (s : List UInt8) : Int :=
  if (vd 0 s).err ≠ 0 then (vd 0 s).err else if M < (vd 0 s).val then 3
  else if (ur M (vd 0 s).val [] (vd 0 s).rest).err ≠ 0 then (ur M (vd 0 s).val [] (vd 0 s).rest).err else if (ur M (vd 0 s).val [] (vd 0 s).rest).rest ≠ [] then 4 else 0
def upL (M : Nat) (s : List UInt8) : List UInt8 := if upE M s = 0 then (ur M (vd 0 s).val [] (vd 0 s).rest).val else []
def mo (m : Int) : Nat := (min (max m 0) 4096).toNat

theorem mo_le (m : Int) : mo m ≤ 4096 := by unfold mo; omega
theorem num_one (a : UInt8) (t : List UInt8) : num 1 (a :: t) = ⟨0, a.toNat, t⟩ := by simp [num, un]
theorem num_nil : num 1 [] = ⟨10, 0, []⟩ := by simp [num]
theorem ofNat_toNat (a : UInt8) : UInt8.ofNat a.toNat = a := by simp
theorem rbyt_lt (l : List UInt8) : rbyt l < 256 := by
  unfold rbyt num
  split
  · have := un_lt ((vd 0 l).rest.take 1)
    rename_i h
    rw [List.length_take, Nat.min_eq_left h] at this
    simpa using this
  · simp
theorem vd_val_lt (l : List UInt8) : (vd 0 l).val < 18446744073709551616 := by
  by_cases h : (vd 0 l).err = 0
  · exact (vr_vd l h).2
  · rw [(vd_err h).2]; omega
/-- A run's own bytes are read as the run. -/
theorem run_read (n : Nat) (a : UInt8) (t : List UInt8) (hn : n < 18446744073709551616) :
    vd 0 (vr n ++ a :: t) = ⟨0, n, a :: t⟩ ∧ rerr (vr n ++ a :: t) = 0 ∧ rbyt (vr n ++ a :: t) = a.toNat ∧ rrst (vr n ++ a :: t) = t := by
  have h := vd_vr n (a :: t) hn
  refine ⟨h, ?_, ?_, ?_⟩
  · unfold rerr; rw [h, num_one]; rfl
  · unfold rbyt; rw [h, num_one]
  · unfold rrst; rw [h, num_one]
theorem run_ok (p : Option UInt8) (room n : Nat) (a : UInt8) (t : List UInt8) (hn : n < 18446744073709551616) (h0 : 0 < n) (ha : a.toNat < 64) (hp : p ≠ some a) :
    rbad p room (vr n ++ a :: t) = (if room < n then 3 else 0) ∧ ∀ acc, rnew acc (vr n ++ a :: t) = acc ++ List.replicate n a := by
  obtain ⟨h1, h2, h3, h4⟩ := run_read n a t hn
  refine ⟨?_, fun acc => ?_⟩
  · unfold rbad
    rw [h2, h1, h3, ofNat_toNat, if_neg (by simp), if_neg (by
      rintro (h | h | h)
      · have h' : n = 0 := h
        omega
      · omega
      · exact hp h)]
  · unfold rnew
    rw [h1, h3, ofNat_toNat]
theorem last_rep (acc : List UInt8) (n : Nat) (a : UInt8) (h : 0 < n) : (acc ++ List.replicate n a).getLast? = some a := by
  obtain ⟨m, rfl⟩ : ∃ m, n = m + 1 := ⟨n - 1, by omega⟩
  rw [List.replicate_succ', ← List.append_assoc, List.getLast?_append]
  simp
/-- Runs are read as they are, or are too long. -/
theorem ur_er (M : Nat) (t : List UInt8) : ∀ (rs : List (Nat × UInt8)) (acc : List UInt8), Pr acc.getLast? rs → acc.length ≤ M →
    ur M rs.length acc (er rs ++ t) = if acc.length + (ex rs).length ≤ M then ⟨0, acc ++ ex rs, t⟩ else ⟨3, [], []⟩
  | [], acc, _, h => by simp [ur, er, ex, h]
  | x :: r, acc, hp, h => by
    obtain ⟨h1, h2, h3, h4, h5⟩ := hp
    obtain ⟨k1, k2⟩ := run_ok acc.getLast? (M - acc.length) x.1 x.2 (er r ++ t) h2 h1 h3 h4
    have k3 := (run_read x.1 x.2 (er r ++ t) h2).2.2.2
    have e : er (x :: r) ++ t = vr x.1 ++ x.2 :: (er r ++ t) := by simp [er]
    rw [e]
    simp only [List.length_cons, ur, k1, k2, k3]
    by_cases hr : M - acc.length < x.1
    · rw [if_pos hr, if_neg (by decide), if_neg (by simp [ex]; omega)]
    · rw [if_neg hr, if_pos rfl, ur_er M t r _ (by rw [last_rep _ _ _ h1]; exact h5) (by simp; omega)]
      simp only [List.length_append, List.length_replicate, ex, List.append_assoc, Nat.add_assoc]
/-- A proper beginning of runs lacks bytes. -/
theorem ur_cut (M : Nat) : ∀ (rs : List (Nat × UInt8)) (acc p s : List UInt8), Pr acc.getLast? rs → acc.length + (ex rs).length ≤ M → er rs = p ++ s → s ≠ [] → (ur M rs.length acc p).err = 10
  | [], acc, p, s, _, _, he, hs => by simp [er] at he; exact absurd he.2 hs
  | x :: r, acc, p, s, hp, hM, he, hs => by
    obtain ⟨h1, h2, h3, h4, h5⟩ := hp
    have hT : rerr p = 10 → (ur M (x :: r).length acc p).err = 10 := fun h => by
      have : rbad acc.getLast? (M - acc.length) p = 10 := by unfold rbad; rw [h]; simp
      simp [ur, this]
    simp only [er] at he
    rcases List.append_eq_append_iff.1 he with ⟨q, e1, e2⟩ | ⟨q, e1, e2⟩
    · -- p = vr n ++ q
      cases q with
      | nil =>
        simp at e1
        refine hT ?_
        have := vd_vr x.1 [] h2
        rw [List.append_nil] at this
        unfold rerr
        rw [e1, this, num_nil]; rfl
      | cons b q =>
        simp only [List.cons_append, List.cons.injEq] at e2
        obtain ⟨rfl, e2⟩ := e2
        obtain ⟨k1, k2⟩ := run_ok acc.getLast? (M - acc.length) x.1 x.2 q h2 h1 h3 h4
        have k3 := (run_read x.1 x.2 q h2).2.2.2
        simp only [ex, List.length_append, List.length_replicate] at hM
        rw [e1]
        have hz : ¬ (M - acc.length < x.1) := by omega
        simp only [List.length_cons, ur, k1, k2, k3, if_neg hz, if_true]
        exact ur_cut M r _ q s (by rw [last_rep _ _ _ h1]; exact h5) (by simp; omega) e2 hs
    · -- vr n = p ++ q
      cases q with
      | nil =>
        simp at e1 e2
        refine hT ?_
        have := vd_vr x.1 [] h2
        rw [List.append_nil] at this
        unfold rerr
        rw [← e1, this, num_nil]; rfl
      | cons b q =>
        refine hT ?_
        have := vd_vrF_cut 9 0 x.1 p (b :: q) e1 (by simp) (by omega)
        unfold rerr
        rw [this, num_nil]; rfl
/-- What was read as runs has their bytes. -/
theorem ur_inv (M : Nat) : ∀ (k : Nat) (acc l : List UInt8), acc.length ≤ M → (ur M k acc l).err = 0 →
    ∃ rs, rs.length = k ∧ Pr acc.getLast? rs ∧ l = er rs ++ (ur M k acc l).rest ∧ (ur M k acc l).val = acc ++ ex rs ∧ (ur M k acc l).val.length ≤ M
  | 0, acc, l, h, _ => ⟨[], rfl, trivial, by simp [er, ur], by simp [ex, ur], h⟩
  | k + 1, acc, l, h, he => by
    have hb : rbad acc.getLast? (M - acc.length) l = 0 := by
      by_cases hb : rbad acc.getLast? (M - acc.length) l = 0
      · exact hb
      · simp only [ur, if_neg hb] at he; exact absurd he hb
    simp only [ur, if_pos hb] at he ⊢
    unfold rbad at hb
    split at hb
    · rename_i h1; exact absurd hb h1
    · rename_i h1
      split at hb
      · omega
      · rename_i h2
        split at hb
        · omega
        · rename_i h3
          simp only [not_or] at h2
          obtain ⟨h2a, h2b, h2c⟩ := h2
          have hv0 : (vd 0 l).err = 0 := by
            by_cases e : (vd 0 l).err = 0
            · exact e
            · refine absurd ?_ h1
              unfold rerr fin; rw [if_neg e]; exact e
          have hl1 := vr_vd l hv0
          have hn0 : (num 1 (vd 0 l).rest).err = 0 := by
            by_cases e : (num 1 (vd 0 l).rest).err = 0
            · exact e
            · refine absurd ?_ h1
              unfold rerr; rw [hv0, fin_of]; exact e
          obtain ⟨b, t, hbt⟩ : ∃ b t, (vd 0 l).rest = b :: t := by
            cases hr : (vd 0 l).rest with
            | nil => rw [hr, num_nil] at hn0; simp at hn0
            | cons b t => exact ⟨b, t, rfl⟩
          have hby : rbyt l = b.toNat := by unfold rbyt; rw [hbt, num_one]
          have hrs : rrst l = t := by unfold rrst; rw [hbt, num_one]
          have hnw : rnew acc l = acc ++ List.replicate (vd 0 l).val b := by unfold rnew; rw [hby, ofNat_toNat]
          rw [hby] at h2b
          rw [hby, ofNat_toNat] at h2c
          rw [hnw, hrs] at he ⊢
          obtain ⟨rs, e1, e2, e3, e4, e5⟩ := ur_inv M k (acc ++ List.replicate (vd 0 l).val b) t (by simp; omega) he
          refine ⟨((vd 0 l).val, b) :: rs, by simp [e1], ⟨by show 0 < _; omega, hl1.2, by show b.toNat < 64; omega, h2c, ?_⟩, ?_, ?_, e5⟩
          · rw [last_rep _ _ _ (by omega)] at e2; exact e2
          · rw [er, List.append_assoc, List.cons_append, ← e3, ← hbt]; exact hl1.1
          · rw [e4]; simp [ex]

/-- What Pack tells is read as the list, or is too long. -/
theorem up_enc (M : Nat) (m : List UInt8) (h : ok64 m) (hl : m.length ≤ 4096) : upE M (enc m) = (if m.length ≤ M then 0 else 3) ∧ upL M (enc m) = (if m.length ≤ M then m else []) := by
  have hp := pr_gp m none h (by omega)
  have hx := (ex_gp m).1
  have hg := gp_len m none
  generalize hrs : gp none m = rs at *
  have hv := vd_vr rs.length (er rs) (by omega)
  have hu := ur_er M [] rs [] hp (by simp)
  rw [List.append_nil] at hu
  simp only [List.length_nil, Nat.zero_add, List.nil_append, hx] at hu
  have hE : upE M (enc m) = if m.length ≤ M then 0 else 3 := by
    unfold upE enc
    rw [hrs, hv]
    simp only [hu]
    by_cases hm : m.length ≤ M
    · rw [if_pos hm]
      simp
      omega
    · rw [if_neg hm]
      simp
      omega
  refine ⟨hE, ?_⟩
  unfold upL
  rw [hE]
  unfold enc
  rw [hrs, hv, hu]
  by_cases hm : m.length ≤ M
  · rw [if_pos hm]; simp [hm]
  · rw [if_neg hm]; simp [hm]
theorem enc_pos (m : List UInt8) : 0 < (enc m).length := by
  have := vr_len (gp none m).length
  simp [enc]; omega
theorem enc_len (m : List UInt8) : (enc m).length ≤ 10 + 11 * m.length := by
  have := vr_len (gp none m).length
  have := er_len (gp none m)
  have := gp_len m none
  simp [enc]; omega
/-- A proper beginning lacks bytes. -/
theorem up_cut (m : List UInt8) (h : ok64 m) (hl : m.length ≤ 4096) (c : Nat) (hc : c < (enc m).length) : upE 4096 ((enc m).take c) = 10 := by
  have hp := pr_gp m none h (by omega)
  have hx := (ex_gp m).1
  have hg := gp_len m none
  have hsp : (enc m) = (enc m).take c ++ (enc m).drop c := (List.take_append_drop c _).symm
  have hne : (enc m).drop c ≠ [] := by
    intro e
    have := congrArg List.length e
    simp at this; omega
  generalize (enc m).take c = p at *
  generalize (enc m).drop c = s at *
  unfold enc at hsp
  generalize hrs : gp none m = rs at *
  rcases List.append_eq_append_iff.1 hsp with ⟨q, e1, e2⟩ | ⟨q, e1, e2⟩
  · have hv := vd_vr rs.length q (by omega)
    have hu := ur_cut 4096 rs [] q s hp (by rw [hx]; simpa using hl) e2 hne
    unfold upE
    rw [e1, hv]
    simp [hu]
    omega
  · cases q with
    | nil =>
      simp at e1 e2
      have hv := vd_vr rs.length [] (by omega)
      rw [List.append_nil, e1] at hv
      have hu := ur_cut 4096 rs [] [] s hp (by rw [hx]; simpa using hl) (by simpa using e2.symm) hne
      unfold upE
      rw [hv]
      simp [hu]
      omega
    | cons b q =>
      have hv := vd_vrF_cut 9 0 rs.length p (b :: q) e1 (by simp) (by omega)
      unfold upE
      rw [hv]
      simp
/-- What was read has that text. -/
theorem up_inv (M : Nat) (s : List UInt8) (hM : M ≤ 4096) (h : upE M s = 0) : pk (upL M s) = s ∧ (upL M s).length ≤ M := by
  have hL : upL M s = (ur M (vd 0 s).val [] (vd 0 s).rest).val := by unfold upL; rw [if_pos h]
  have hv : (vd 0 s).err = 0 := by
    by_cases e : (vd 0 s).err = 0
    · exact e
    · unfold upE at h; rw [if_pos e] at h; exact absurd h e
  have hu : (ur M (vd 0 s).val [] (vd 0 s).rest).err = 0 ∧ (ur M (vd 0 s).val [] (vd 0 s).rest).rest = [] := by
    unfold upE at h
    rw [if_neg (by simp [hv])] at h
    split at h
    · omega
    · split at h
      · rename_i e; exact absurd h e
      · rename_i e
        split at h
        · omega
        · rename_i e2
          exact ⟨by simpa using e, by simpa using e2⟩
  obtain ⟨rs, e1, e2, e3, e4, e5⟩ := ur_inv M _ [] (vd 0 s).rest (by simp) hu.1
  rw [hu.2, List.append_nil] at e3
  rw [List.nil_append] at e4
  rw [hL]
  refine ⟨?_, e5⟩
  have hg := gp_ex rs none e2
  rw [e4]
  unfold pk enc
  rw [if_pos (ok_ex rs _ e2), hg, e1, ← e3]
  exact (vr_vd s hv).1.symm
theorem upL_len (M : Nat) (s : List UInt8) (hM : M ≤ 4096) : (upL M s).length ≤ 4096 := by
  by_cases h : upE M s = 0
  · have := (up_inv M s hM h).2; omega
  · unfold upL; rw [if_neg h]; simp
theorem upL_bad (M : Nat) (s : List UInt8) (h : upE M s ≠ 0) : upL M s = [] := by unfold upL; rw [if_neg h]
end Go.Proofs.Ytkhecaohbmlnlaa
